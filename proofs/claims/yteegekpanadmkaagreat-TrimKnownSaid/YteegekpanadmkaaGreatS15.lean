/-
  A message of which no list is anybody else's: own.
-/
import Derived.Test.YteegekpanadmkaaGreatS14
import Derived.Test.YteegekpanadmkaaGreatS09
import Derived.Test.YteegekpanadmkaaGreatS11
import Derived.Test.YteegekpanadmkaaGreatS13
import Derived.Test.YteegekpanadmkaaGreatS08
namespace Go.Proofs.YteegekpanadmkaaGreat
open Go.RowKit Go.Shelf
set_option linter.unusedVariables false
set_option linter.unusedSimpArgs false
set_option maxRecDepth 100000

/-- A message all of whose lists are the call's own. -/
def OwnM (w : World) (B : Nat) (v : Value) (m : Ms) : Prop := ∃ q a n r, v = .agg #[.int .i64 m.id, .int .i64 m.fl, q, a, n, r] ∧ OwnQn w B q m.q ∧ OwnRc w B a m.an ∧ OwnRc w B n m.ns ∧ OwnRc w B r m.ar
theorem OwnM.base {w : World} {B B' : Nat} {v : Value} {m : Ms} (h : OwnM w B v m) (hB : B' ≤ B) : OwnM w B' v m := by
  obtain ⟨q, a, n, r, rfl, h1, h2, h3, h4⟩ := h
  exact ⟨q, a, n, r, rfl, row_base h1 hB, row_base h2 hB, row_base h3 hB, row_base h4 hB⟩
theorem OwnM.mg {w : World} {B : Nat} {v : Value} {m : Ms} (h : OwnM w B v m) (hl : m.q.length + m.an.length + m.ns.length + m.ar.length ≤ 900000) : Mg w w.heap.size v m := by
  obtain ⟨q, a, n, r, rfl, h1, h2, h3, h4⟩ := h
  exact ⟨q, a, n, r, rfl, Lst.own h1 (by omega), Lst.own h2 (by omega), Lst.own h3 (by omega), Lst.own h4 (by omega)⟩

/-- The message in its box while its lists are being made anew; the answer's box. -/
structure Ow (w wr : World) (N : Nat) (i f : Int) (q a n r : Value) (L : List Qn) : Prop where
  bel : Below N w wr
  x : Cel wr N [.int .i64 i, .int .i64 f, q, a, n, r]
  z : Cel wr (N + 1) [.int .i64 0, .int .i64 0, .slice none 0 0, .slice none 0 0, .slice none 0 0, .slice none 0 0]
  own : OwnQn wr (N + 2) q L
  size : N + 2 ≤ wr.heap.size
section
variable {w wr w' : World} {N : Nat} {i f : Int} {q a n r : Value} {L : List Qn}
theorem Ow.later (h : Ow w wr N i f q a n r L) (hb : Below wr.heap.size wr w') : Ow w w' N i f q a n r L :=
  ⟨below_aside h.bel (Aside.of_all hb : Aside (fun _ => False) wr w') (fun k hk => ⟨by have := h.size; omega, id⟩), h.x.below (by simp) hb, h.z.below (by simp) hb, row_below h.own hb, Nat.le_trans h.size hb.size⟩
theorem Ow.aside {b : Nat} (h : Ow w wr N i f q a n r L) (ha : Aside (fun k => k = b) wr w') (hb : N + 2 ≤ b) (ho : ∀ k, q.ownBlock = some k → k ≠ b) : Ow w w' N i f q a n r L :=
  ⟨below_aside h.bel ha (fun k hk => ⟨by have := h.size; omega, by omega⟩), h.x.aside (by simp) ha (by omega), h.z.aside (by simp) ha (by omega), row_aside h.own ha ho, Nat.le_trans h.size ha.size⟩
/-- A question is laid behind the others. -/
theorem Ow.app (h : Ow w wr N i f q a n r L) {hi : Nat} {u : Value} {x : Qn} (hx : SQ wr hi u [x]) (hl : L.length + 1 ≤ 1000000) :
    ∃ a6 c w6, (Builtin.append_ #[22, 22] 22 #[q, u]).run Tryz.prog wr = .ok (.slice a6 (L.length + 1) c) w6 ∧ w6.frozen? ⟨N, 2, none⟩ = false ∧ w6.cell? ⟨N, 2, none⟩ = some q ∧
      Ow w (w6.setCell ⟨N, 2, none⟩ (.slice a6 (L.length + 1) c)) N i f (.slice a6 (L.length + 1) c) a n r (L ++ [x]) := by
  obtain ⟨a6, c, w6, h1, h2, h3, h4⟩ := run_appQn h.own hx hl h.size
  simp only [List.length_singleton] at h1 h2 h4
  have hlt := World.ownsRow.lt h.own
  have hG : ∀ k, k < N + 2 → ¬ q.ownBlock = some k := fun k hk hg => by have := (hlt k hg).1; omega
  have x6 := h.x.aside (by simp) h3 (hG _ (by omega))
  have z6 := h.z.aside (by simp) h3 (hG _ (by omega))
  have hs := Nat.le_trans h.size h3.size
  have hst : Aside (fun k => k = N) w6 (w6.setCell ⟨N, 2, none⟩ (.slice a6 (L.length + 1) c)) := Aside.setCell w6 (p := ⟨N, 2, none⟩) _ rfl
  exact ⟨a6, c, w6, h1, x6.fz 2, x6.c 2 (by simp), below_aside (below_aside h.bel h3 (fun k hk => ⟨by have := h.size; omega, hG k (by omega)⟩)) hst (fun k hk => ⟨by omega, by omega⟩), x6.set (o := 2) (by simp) _,
    z6.other (a := ⟨N, 2, none⟩) (by show N ≠ N + 1; omega) _, row_aside h2 hst fun k hk hg => by have := (World.ownsRow.lt h2 k hk).1; omega, Nat.le_trans hs hst.size⟩
/-- One of the message's lists is another one. -/
theorem Ow.put3 (h : Ow w wr N i f q a n r L) (v : Value) : Ow w (wr.setCell ⟨N, 3, none⟩ v) N i f q v n r L := by
  have hst : Aside (fun k => k = N) wr (wr.setCell ⟨N, 3, none⟩ v) := Aside.setCell wr (p := ⟨N, 3, none⟩) _ rfl
  exact ⟨below_aside h.bel hst (fun k hk => ⟨by have := h.size; omega, by omega⟩), h.x.set (o := 3) (by simp) v, h.z.other (a := ⟨N, 3, none⟩) (by show N ≠ N + 1; omega) _, row_aside h.own hst fun k hk hg => by have := (World.ownsRow.lt h.own k hk).1; omega, Nat.le_trans h.size hst.size⟩
theorem Ow.put4 (h : Ow w wr N i f q a n r L) (v : Value) : Ow w (wr.setCell ⟨N, 4, none⟩ v) N i f q a v r L := by
  have hst : Aside (fun k => k = N) wr (wr.setCell ⟨N, 4, none⟩ v) := Aside.setCell wr (p := ⟨N, 4, none⟩) _ rfl
  exact ⟨below_aside h.bel hst (fun k hk => ⟨by have := h.size; omega, by omega⟩), h.x.set (o := 4) (by simp) v, h.z.other (a := ⟨N, 4, none⟩) (by show N ≠ N + 1; omega) _, row_aside h.own hst fun k hk hg => by have := (World.ownsRow.lt h.own k hk).1; omega, Nat.le_trans h.size hst.size⟩
theorem Ow.put5 (h : Ow w wr N i f q a n r L) (v : Value) : Ow w (wr.setCell ⟨N, 5, none⟩ v) N i f q a n v L := by
  have hst : Aside (fun k => k = N) wr (wr.setCell ⟨N, 5, none⟩ v) := Aside.setCell wr (p := ⟨N, 5, none⟩) _ rfl
  exact ⟨below_aside h.bel hst (fun k hk => ⟨by have := h.size; omega, by omega⟩), h.x.set (o := 5) (by simp) v, h.z.other (a := ⟨N, 5, none⟩) (by show N ≠ N + 1; omega) _, row_aside h.own hst fun k hk hg => by have := (World.ownsRow.lt h.own k hk).1; omega, Nat.le_trans h.size hst.size⟩
/-- A row of records lies aside of the message's box. -/
theorem row_box {v : Value} {l : List Rc} {o : Nat} {u : Value} (h : OwnRc wr (N + 2) v l) : OwnRc (wr.setCell ⟨N, o, none⟩ u) (N + 2) v l := by
  have hst : Aside (fun k => k = N) wr (wr.setCell ⟨N, o, none⟩ u) := Aside.setCell wr (p := ⟨N, o, none⟩) _ rfl
  exact row_aside h hst fun k hk hg => by have := (World.ownsRow.lt h k hk).1; omega
end

set_option maxHeartbeats 4000000 in
theorem own_any {w : World} {hi : Nat} {u : Value} {m : Ms} (h : Mg w hi u m) (h1 : hi ≤ w.heap.size) (hl : m.q.length + m.an.length + m.ns.length + m.ar.length ≤ 900000) (hn : ∀ x ∈ m.q, x.n.length ≤ 1000000)
    (ha : ∀ x ∈ m.an, x.n.length ≤ 1000000 ∧ x.d.length ≤ 1000000) (hs : ∀ x ∈ m.ns, x.n.length ≤ 1000000 ∧ x.d.length ≤ 1000000) (hr : ∀ x ∈ m.ar, x.n.length ≤ 1000000 ∧ x.d.length ≤ 1000000) :
    Calls Tryz.prog 54 #[u] w (fun e w' => ∃ v, e = .returned v ∧ OwnM w' w.heap.size v m ∧ Below w.heap.size w w') := by
  obtain ⟨i0, f0, l, lan, lns, lar⟩ := m
  obtain ⟨q, a, n, r, rfl, hq, h2, h3, h4⟩ := h
  simp only at hl hn ha hs hr hq h2 h3 h4 ⊢
  obtain ⟨N, hN⟩ : ∃ g, w.heap.size = g := ⟨_, rfl⟩
  have HCA := Lib.hid (fun wx (hb : Below N w wx) => copied_any (Lst.below h2 hb (by omega)) (Nat.le_trans (by omega : hi ≤ N) (by have := hb.size; omega)) (by omega) ha)
  have HCN := Lib.hid (fun wx (hb : Below N w wx) => copied_any (Lst.below h3 hb (by omega)) (Nat.le_trans (by omega : hi ≤ N) (by have := hb.size; omega)) (by omega) hs)
  have HCR := Lib.hid (fun wx (hb : Below N w wx) => copied_any (Lst.below h4 hb (by omega)) (Nat.le_trans (by omega : hi ≤ N) (by have := hb.size; omega)) (by omega) hr)
  obtain ⟨xa, xc, rfl⟩ := Lst.shape hq
  obtain ⟨aa, ac, rfl⟩ := Lst.shape h2
  obtain ⟨na, nc, rfl⟩ := Lst.shape h3
  obtain ⟨ra, rc, rfl⟩ := Lst.shape h4
  obtain ⟨la, hla⟩ : ∃ i, lan.length = i := ⟨_, rfl⟩
  obtain ⟨ln, hln⟩ : ∃ i, lns.length = i := ⟨_, rfl⟩
  obtain ⟨lr, hlr⟩ : ∃ i, lar.length = i := ⟨_, rfl⟩
  rw [hla] at HCA
  rw [hln] at HCN
  rw [hlr] at HCR
  rw [hla, hln, hlr] at hl ⊢
  have HQ := Lib.hid (show SQ w hi (.slice xa l.length xc) l from hq)
  have HLN := Lib.hid (Lst.len hq)
  have HL := Lib.hid (show l.length ≤ 900000 by omega)
  have HNN := Lib.hid hn
  have HHI := Lib.hid (show hi ≤ N by omega)
  have hz := cel_new6 (w.alloc (.cells #[.int .i64 i0, .int .i64 f0, .slice xa l.length xc, .slice aa la ac, .slice na ln nc, .slice ra lr rc] 25)) (.int .i64 0) (.int .i64 0) (.slice none 0 0) (.slice none 0 0) (.slice none 0 0) (.slice none 0 0) 25
  rw [World.size_alloc, hN] at hz
  have hx := (cel_new6 w (.int .i64 i0) (.int .i64 f0) (.slice xa l.length xc) (.slice aa la ac) (.slice na ln nc) (.slice ra lr rc) 25).below (by simp) ((Below.refl _ _).alloc (Nat.le_refl _) (.cells #[.int .i64 0, .int .i64 0, .slice none 0 0, .slice none 0 0, .slice none 0 0, .slice none 0 0] 25))
  rw [hN] at hx
  have hb2 : Below N w ((w.alloc (.cells #[.int .i64 i0, .int .i64 f0, .slice xa l.length xc, .slice aa la ac, .slice na ln nc, .slice ra lr rc] 25)).alloc (.cells #[.int .i64 0, .int .i64 0, .slice none 0 0, .slice none 0 0, .slice none 0 0, .slice none 0 0] 25)) :=
    ((Below.refl _ _).alloc (by omega) _).alloc (by simp; omega) _
  have hsz : ((w.alloc (.cells #[.int .i64 i0, .int .i64 f0, .slice xa l.length xc, .slice aa la ac, .slice na ln nc, .slice ra lr rc] 25)).alloc (.cells #[.int .i64 0, .int .i64 0, .slice none 0 0, .slice none 0 0, .slice none 0 0, .slice none 0 0] 25)).heap.size = N + 2 := by simp [hN]
  obtain ⟨W, hW⟩ : ∃ X, (w.alloc (.cells #[.int .i64 i0, .int .i64 f0, .slice xa l.length xc, .slice aa la ac, .slice na ln nc, .slice ra lr rc] 25)).alloc (.cells #[.int .i64 0, .int .i64 0, .slice none 0 0, .slice none 0 0, .slice none 0 0, .slice none 0 0] 25) = X := ⟨_, rfl⟩
  rw [hW] at hz hx hb2 hsz
  have hst : Aside (fun k => k = N) W (W.setCell ⟨N, 2, none⟩ (.slice none 0 0)) := Aside.setCell W (p := ⟨N, 2, none⟩) _ rfl
  have HP := Lib.hid (show Ow w (W.setCell ⟨N, 2, none⟩ (.slice none 0 0)) N i0 f0 (.slice none 0 0) (.slice aa la ac) (.slice na ln nc) (.slice ra lr rc) [] from
    ⟨below_aside hb2 hst (fun k hk => ⟨by omega, by omega⟩), hx.set (o := 2) (by simp) _, hz.other (a := ⟨N, 2, none⟩) (by show N ≠ N + 1; omega) _, World.ownsRow_nil _ _ _ _, by have := hst.size; omega⟩)
  have x2 : W.cell? ⟨N, 2, none⟩ = some (.slice xa l.length xc) := hx.c 2 (by simp)
  have f2 := hx.fz 2
  clear hq h2 h3 h4 hl hn ha hs hr h1 hla hln hlr hz hx hb2 hst
  go_enter Tryz.func54, Tryz.ntmps54
  go_wp2_with fail
  clear x2 f2
  go_loopg [11] l.length (fun g v11 wr => ∃ k : Nat, k + g = l.length ∧ v11 = .int .i64 k ∧ ∃ qv, Hid (Ow w wr N i0 f0 qv (.slice aa la ac) (.slice na ln nc) (.slice ra lr rc) (l.take k)))
  case atStart => exact ⟨0, by omega, rfl, _, by first | exact HP | (rw [hW]; exact HP)⟩
  case round =>
    clear HP
    obtain ⟨k, hk, rfl, qv, HP⟩ := hrel
    have hlen := HLN.out
    by_cases hlt : k < l.length
    · obtain ⟨b, off, c2, he, hb, hc⟩ := HQ.out.at_ k hlt
      injection he with he hn3 hc3
      clear hn3 hc3
      subst he
      obtain ⟨c0, c1, c2⟩ := hc.keep fun o => HP.out.bel.cell (p := ⟨b, o, none⟩) (Nat.lt_of_lt_of_le hb HHI.out)
      have HTK := Lib.hid (show l.take k ++ [l[k]] = l.take (k + 1) by rw [List.take_add_one, List.getElem?_eq_getElem hlt]; rfl)
      have HXN := Lib.hid (HNN.out l[k] (List.getElem_mem hlt))
      obtain ⟨x, hx⟩ : ∃ x, l[k] = x := ⟨_, rfl⟩
      rw [hx] at c0 c1 c2 HTK HXN
      have HTL := Lib.hid (show (l.take k).length = k by rw [List.length_take]; omega)
      obtain ⟨g, hg⟩ : ∃ g, wr.heap.size = g := ⟨_, rfl⟩
      have HQC := Lib.hid (show Cel (wr.alloc (.cells #[.string (bs x.n), .int .i64 x.t, .int .i64 x.c] 56)) g [.string (bs x.n), .int .i64 x.t, .int .i64 x.c] by
        have := cel_new3 wr (.string (bs x.n)) (.int .i64 x.t) (.int .i64 x.c) 56
        rwa [hg] at this)
      have HGN := Lib.hid (show N + 2 ≤ g by rw [← hg]; exact HP.out.size)
      have HGO := Lib.hid (show ∀ j, qv.ownBlock = some j → j ≠ g from fun j hj => by have := (World.ownsRow.lt HP.out.own j hj).2; omega)
      replace HP := Lib.hid (HP.out.later ((Below.refl wr.heap.size wr).alloc (Nat.le_refl _) (.cells #[.string (bs x.n), .int .i64 x.t, .int .i64 x.c] 56)))
      clear hc hx hb
      go_wp2_with fail
      refine (clone_any _ (by rw [bs_size]; exact HXN.out) _).mono ?_; rintro e w3 ⟨rfl, hb⟩
      have HQ3 := Lib.hid (HQC.out.below (by simp) hb)
      have HP3 := Lib.hid (HP.out.later hb)
      have HS3 := Lib.hid (show g < w3.heap.size from HQ3.out.lt (by simp))
      have hst : Aside (fun j => j = g) w3 (w3.setCell ⟨g, 0, none⟩ (.string (bs x.n))) := Aside.setCell w3 (p := ⟨g, 0, none⟩) _ rfl
      have HP4 := Lib.hid (HP3.out.aside hst HGN.out HGO.out)
      have HQ4 := Lib.hid (show Cel (w3.setCell ⟨g, 0, none⟩ (.string (bs x.n))) g [.string (bs x.n), .int .i64 x.t, .int .i64 x.c] from HQ3.out.set (o := 0) (by simp) (.string (bs x.n)))
      have hb5 : Below (w3.setCell ⟨g, 0, none⟩ (.string (bs x.n))).heap.size (w3.setCell ⟨g, 0, none⟩ (.string (bs x.n))) ((w3.setCell ⟨g, 0, none⟩ (.string (bs x.n))).alloc (.cells #[.string (bs x.n), .int .i64 x.t, .int .i64 x.c] 56)) := (Below.refl _ _).alloc (Nat.le_refl _) _
      have HP5 := Lib.hid (HP4.out.later hb5)
      have hone := sq_one (w3.setCell ⟨g, 0, none⟩ (.string (bs x.n))) x
      rw [show (w3.setCell ⟨g, 0, none⟩ (.string (bs x.n))).heap.size = w3.heap.size from World.size_setCell _ _ _] at hone
      obtain ⟨a6, cp6, w6, hrun, hfz, hcl, hp6⟩ := HP5.out.app hone (by rw [HTL.out]; have := HL.out; omega)
      rw [HTL.out] at hrun hp6
      rw [HTK.out] at hp6
      have HRUN := Lib.hid hrun
      have HP6 := Lib.hid hp6
      have f3 : w3.frozen? ⟨g, 0, none⟩ = false := HQ3.out.fz 0
      have d0 : w3.cell? ⟨g, 0, none⟩ = some (.string (bs x.n)) := HQ3.out.c 0 (by simp)
      have e0 : (w3.setCell ⟨g, 0, none⟩ (.string (bs x.n))).cell? ⟨g, 0, none⟩ = some (.string (bs x.n)) := HQ4.out.c 0 (by simp)
      have e1 : (w3.setCell ⟨g, 0, none⟩ (.string (bs x.n))).cell? ⟨g, 1, none⟩ = some (.int .i64 x.t) := HQ4.out.c 1 (by simp)
      have e2 : (w3.setCell ⟨g, 0, none⟩ (.string (bs x.n))).cell? ⟨g, 2, none⟩ = some (.int .i64 x.c) := HQ4.out.c 2 (by simp)
      have e3 : (w3.setCell ⟨g, 0, none⟩ (.string (bs x.n))).cell? ⟨N, 2, none⟩ = some qv := HP4.out.x.c 2 (by simp)
      clear hb hst hb5 hone hrun hp6 HP HP3 HP4 HP5 HQC HQ3 HQ4
      go_wp2_with (at_builtin; refine wpList_append_run (.tmp 20) (.tmp 22) 22 22 rfl rfl rfl rfl HRUN.out ?_)
      go_roundg (l.length - (k + 1))
      case measure => omega
      case rel => exact ⟨k + 1, by omega, by go_num, _, HP6⟩
    · have t1 : ¬ ((k : Int) < l.length) := by omega
      have hkl : l.take k = l := List.take_of_length_le (by omega)
      rw [hkl] at HP
      replace HP := Lib.hid (HP.out.later (Below.refl _ _).drew)
      obtain ⟨qa, qc, rfl⟩ := row_shape HP.out.own
      clear hkl
      go_wp2_with fail
      refine wp_region_tilk (S := (fun wx => wx.cell? ⟨N, 3, none⟩ = some (.slice aa la ac) ∧ wx.cell? ⟨N, 4, none⟩ = some (.slice na ln nc) ∧ wx.cell? ⟨N, 5, none⟩ = some (.slice ra lr rc))) [10, 11, 12, 13, 14] (by kernel_rfl) ⟨HP.out.x.c 3 (by simp), HP.out.x.c 4 (by simp), HP.out.x.c 5 (by simp)⟩ (fun hHeld => ?_)
      refine tilk_take (i := 0) (oi := { dst := some 26, op := Op.fieldAddr 25 (Operand.tmp 1) 3, type := 0, pos := "list.go:39", after := #[], guard := none }) (v := ?_) rfl (by kernel_rfl) (by kernel_rfl) (by kernel_rfl) (fun _ _ _ h => h) (Or.inl ⟨by rfl, ?_⟩) (by assumption) ?_
      rotate_left 1
      · intro w hSw; (try dsimp only at hSw); go_simp; try (with_reducible rfl)
      try simp only [Act.put, List.setIfInBounds_toArray, List.set_cons_zero, List.set_cons_succ]
      refine tilk_take (i := 1) (oi := { dst := some 27, op := Op.load 23 (Operand.tmp 26), type := 23, pos := "list.go:39", after := #[{ on := 0, ground := Ground.data }], guard := none }) (v := ?_) rfl (by kernel_rfl) (by kernel_rfl) (by kernel_rfl) (fun _ _ _ h => h) (Or.inl ⟨by rfl, ?_⟩) (by assumption) ?_
      rotate_left 1
      · intro w hSw; (try dsimp only at hSw); go_simp; try (with_reducible rfl)
      try simp only [Act.put, List.setIfInBounds_toArray, List.set_cons_zero, List.set_cons_succ]
      refine tilk_take (i := 3) (oi := { dst := some 29, op := Op.fieldAddr 25 (Operand.tmp 1) 4, type := 0, pos := "list.go:39", after := #[], guard := none }) (v := ?_) rfl (by kernel_rfl) (by kernel_rfl) (by kernel_rfl) (fun _ _ _ h => h) (Or.inl ⟨by rfl, ?_⟩) (by assumption) ?_
      rotate_left 1
      · intro w hSw; (try dsimp only at hSw); go_simp; try (with_reducible rfl)
      try simp only [Act.put, List.setIfInBounds_toArray, List.set_cons_zero, List.set_cons_succ]
      refine tilk_take (i := 4) (oi := { dst := some 30, op := Op.load 23 (Operand.tmp 29), type := 23, pos := "list.go:39", after := #[{ on := 3, ground := Ground.data }], guard := none }) (v := ?_) rfl (by kernel_rfl) (by kernel_rfl) (by kernel_rfl) (fun _ _ _ h => h) (Or.inl ⟨by rfl, ?_⟩) (by assumption) ?_
      rotate_left 1
      · intro w hSw; (try dsimp only at hSw); go_simp; try (with_reducible rfl)
      try simp only [Act.put, List.setIfInBounds_toArray, List.set_cons_zero, List.set_cons_succ]
      refine tilk_take (i := 6) (oi := { dst := some 32, op := Op.fieldAddr 25 (Operand.tmp 1) 5, type := 0, pos := "list.go:39", after := #[], guard := none }) (v := ?_) rfl (by kernel_rfl) (by kernel_rfl) (by kernel_rfl) (fun _ _ _ h => h) (Or.inl ⟨by rfl, ?_⟩) (by assumption) ?_
      rotate_left 1
      · intro w hSw; (try dsimp only at hSw); go_simp; try (with_reducible rfl)
      try simp only [Act.put, List.setIfInBounds_toArray, List.set_cons_zero, List.set_cons_succ]
      refine tilk_take (i := 7) (oi := { dst := some 33, op := Op.load 23 (Operand.tmp 32), type := 23, pos := "list.go:39", after := #[{ on := 6, ground := Ground.data }], guard := none }) (v := ?_) rfl (by kernel_rfl) (by kernel_rfl) (by kernel_rfl) (fun _ _ _ h => h) (Or.inl ⟨by rfl, ?_⟩) (by assumption) ?_
      rotate_left 1
      · intro w hSw; (try dsimp only at hSw); go_simp; try (with_reducible rfl)
      try simp only [Act.put, List.setIfInBounds_toArray, List.set_cons_zero, List.set_cons_succ]
      refine tilk_ready (rs := [2]) (by kernel_rfl) (by simp) ?_
      refine TilkAll.cons (o := { dst := some 28, op := Op.call { callee := Callee.value (Operand.func 77), args := #[Operand.tmp 27], argTypes := #[23] }, type := 23, pos := "list.go:39", after := #[{ on := 1, ground := Ground.data }], guard := none }) rfl (fun K hK => ?_) (TilkAll.nil)
      go_simp
      refine (HCA.out _ HP.out.bel).mono ?_; rintro e w1 ⟨va, rfl, ho, hb⟩
      obtain ⟨ava, cva, rfl⟩ := row_shape ho
      have HA := Lib.hid (show OwnRc w1 (N + 2) _ _ from row_base ho HP.out.size)
      replace HP := Lib.hid (HP.out.later hb)
      clear ho hb
      try go_wp2_with fail
      refine hK.out _ _ ⟨HP.out.x.c 3 (by simp), HP.out.x.c 4 (by simp), HP.out.x.c 5 (by simp)⟩ (fun hHeld => ?_)
      clear hK K
      try simp only [Act.put, List.setIfInBounds_toArray, List.set_cons_zero, List.set_cons_succ]
      refine tilk_take (i := 9) (oi := { dst := some 35, op := Op.fieldAddr 25 (Operand.tmp 1) 3, type := 0, pos := "list.go:39", after := #[{ on := 0, ground := Ground.phase }, { on := 1, ground := Ground.phase }, { on := 2, ground := Ground.phase }, { on := 3, ground := Ground.phase }, { on := 4, ground := Ground.phase }, { on := 5, ground := Ground.textOnly Departure.lateStoresUnsure }, { on := 6, ground := Ground.phase }, { on := 7, ground := Ground.phase }, { on := 8, ground := Ground.textOnly Departure.lateStoresUnsure }], guard := none }) (v := ?_) rfl (by kernel_rfl) (by kernel_rfl) (by kernel_rfl) (fun _ _ _ h => h) (Or.inl ⟨by rfl, ?_⟩) (by assumption) ?_
      rotate_left 1
      · intro w hSw; (try dsimp only at hSw); go_simp; try (with_reducible rfl)
      try simp only [Act.put, List.setIfInBounds_toArray, List.set_cons_zero, List.set_cons_succ]
      refine tilk_ready (rs := [5]) (by kernel_rfl) (by simp) ?_
      refine TilkAll.cons (o := { dst := some 31, op := Op.call { callee := Callee.value (Operand.func 77), args := #[Operand.tmp 30], argTypes := #[23] }, type := 23, pos := "list.go:39", after := #[{ on := 4, ground := Ground.data }, { on := 2, ground := Ground.chain }], guard := none }) rfl (fun K hK => ?_) (TilkAll.nil)
      go_simp
      refine (HCN.out _ HP.out.bel).mono ?_; rintro e w2 ⟨vn, rfl, ho, hb⟩
      obtain ⟨avn, cvn, rfl⟩ := row_shape ho
      have HNN2 := Lib.hid (show OwnRc w2 (N + 2) _ _ from row_base ho HP.out.size)
      replace HP := Lib.hid (HP.out.later hb)
      replace HA := Lib.hid (show OwnRc _ (N + 2) _ _ from row_below HA.out hb)
      clear ho hb
      try go_wp2_with fail
      refine hK.out _ _ ⟨HP.out.x.c 3 (by simp), HP.out.x.c 4 (by simp), HP.out.x.c 5 (by simp)⟩ (fun hHeld => ?_)
      clear hK K
      try simp only [Act.put, List.setIfInBounds_toArray, List.set_cons_zero, List.set_cons_succ]
      refine tilk_ready (rs := [8]) (by kernel_rfl) (by simp) ?_
      refine TilkAll.cons (o := { dst := some 34, op := Op.call { callee := Callee.value (Operand.func 77), args := #[Operand.tmp 33], argTypes := #[23] }, type := 23, pos := "list.go:39", after := #[{ on := 7, ground := Ground.data }, { on := 5, ground := Ground.chain }], guard := none }) rfl (fun K hK => ?_) (TilkAll.nil)
      go_simp
      refine (HCR.out _ HP.out.bel).mono ?_; rintro e w3 ⟨vr, rfl, ho, hb⟩
      obtain ⟨avr, cvr, rfl⟩ := row_shape ho
      have HR := Lib.hid (show OwnRc w3 (N + 2) _ _ from row_base ho HP.out.size)
      replace HP := Lib.hid (HP.out.later hb)
      replace HA := Lib.hid (show OwnRc _ (N + 2) _ _ from row_below HA.out hb)
      replace HNN2 := Lib.hid (show OwnRc _ (N + 2) _ _ from row_below HNN2.out hb)
      clear ho hb
      try go_wp2_with fail
      refine hK.out _ _ ⟨HP.out.x.c 3 (by simp), HP.out.x.c 4 (by simp), HP.out.x.c 5 (by simp)⟩ (fun hHeld => ?_)
      clear hK K
      try simp only [Act.put, List.setIfInBounds_toArray, List.set_cons_zero, List.set_cons_succ]
      refine tilk_ready (rs := [10]) (by kernel_rfl) (by simp) ?_
      refine TilkAll.last (i := 10) (o := { dst := none, op := Op.store 23 (Operand.tmp 35) (Operand.tmp 28), type := 0, pos := "list.go:39", after := #[{ on := 9, ground := Ground.data }, { on := 2, ground := Ground.data }, { on := 8, ground := Ground.chain }, { on := 0, ground := Ground.phase }, { on := 1, ground := Ground.phase }, { on := 2, ground := Ground.phase }, { on := 3, ground := Ground.phase }, { on := 4, ground := Ground.phase }, { on := 5, ground := Ground.textOnly Departure.lateStoresUnsure }, { on := 6, ground := Ground.phase }, { on := 7, ground := Ground.phase }, { on := 8, ground := Ground.textOnly Departure.lateStoresUnsure }], guard := none }) rfl (fun K hK => ?_) (TilkAll.nil)
      obtain ⟨r0, r1, r2, r3, r4, r5⟩ := HP.out.x.six
      have fz := HP.out.x.fz
      go_simp
      clear r0 r1 r2 r3 r4 r5 fz
      replace HP := Lib.hid (HP.out.put3 (.slice ava lan.length cva))
      replace HA := Lib.hid (row_box (o := 3) (u := (.slice ava lan.length cva)) HA.out)
      replace HNN2 := Lib.hid (row_box (o := 3) (u := (.slice ava lan.length cva)) HNN2.out)
      replace HR := Lib.hid (row_box (o := 3) (u := (.slice ava lan.length cva)) HR.out)
      refine hK.out _ _ trivial (fun hHeld => ?_)
      clear hK K
      try simp only [Act.put, List.setIfInBounds_toArray, List.set_cons_zero, List.set_cons_succ]
      refine tilk_ready (rs := [11]) (by kernel_rfl) (by simp) ?_
      refine TilkAll.last (i := 11) (o := { dst := some 36, op := Op.fieldAddr 25 (Operand.tmp 1) 4, type := 0, pos := "list.go:39", after := #[{ on := 0, ground := Ground.phase }, { on := 1, ground := Ground.phase }, { on := 2, ground := Ground.phase }, { on := 3, ground := Ground.phase }, { on := 4, ground := Ground.phase }, { on := 5, ground := Ground.phase }, { on := 6, ground := Ground.phase }, { on := 7, ground := Ground.phase }, { on := 8, ground := Ground.textOnly Departure.lateStoresUnsure }, { on := 9, ground := Ground.phase }, { on := 10, ground := Ground.phase }], guard := none }) rfl (fun K hK => ?_) (TilkAll.nil)
      go_simp
      refine hK.out _ _ trivial (fun hHeld => ?_)
      clear hK K
      try simp only [Act.put, List.setIfInBounds_toArray, List.set_cons_zero, List.set_cons_succ]
      refine tilk_ready (rs := [12]) (by kernel_rfl) (by simp) ?_
      refine TilkAll.last (i := 12) (o := { dst := none, op := Op.store 23 (Operand.tmp 36) (Operand.tmp 31), type := 0, pos := "list.go:39", after := #[{ on := 11, ground := Ground.data }, { on := 5, ground := Ground.data }, { on := 10, ground := Ground.chain }, { on := 0, ground := Ground.phase }, { on := 1, ground := Ground.phase }, { on := 2, ground := Ground.phase }, { on := 3, ground := Ground.phase }, { on := 4, ground := Ground.phase }, { on := 5, ground := Ground.phase }, { on := 6, ground := Ground.phase }, { on := 7, ground := Ground.phase }, { on := 8, ground := Ground.textOnly Departure.lateStoresUnsure }, { on := 9, ground := Ground.phase }, { on := 10, ground := Ground.phase }], guard := none }) rfl (fun K hK => ?_) (TilkAll.nil)
      obtain ⟨r0, r1, r2, r3, r4, r5⟩ := HP.out.x.six
      have fz := HP.out.x.fz
      go_simp
      clear r0 r1 r2 r3 r4 r5 fz
      replace HP := Lib.hid (HP.out.put4 (.slice avn lns.length cvn))
      replace HA := Lib.hid (row_box (o := 4) (u := (.slice avn lns.length cvn)) HA.out)
      replace HNN2 := Lib.hid (row_box (o := 4) (u := (.slice avn lns.length cvn)) HNN2.out)
      replace HR := Lib.hid (row_box (o := 4) (u := (.slice avn lns.length cvn)) HR.out)
      refine hK.out _ _ trivial (fun hHeld => ?_)
      clear hK K
      try simp only [Act.put, List.setIfInBounds_toArray, List.set_cons_zero, List.set_cons_succ]
      refine tilk_ready (rs := [13]) (by kernel_rfl) (by simp) ?_
      refine TilkAll.last (i := 13) (o := { dst := some 37, op := Op.fieldAddr 25 (Operand.tmp 1) 5, type := 0, pos := "list.go:39", after := #[{ on := 0, ground := Ground.phase }, { on := 1, ground := Ground.phase }, { on := 2, ground := Ground.phase }, { on := 3, ground := Ground.phase }, { on := 4, ground := Ground.phase }, { on := 5, ground := Ground.phase }, { on := 6, ground := Ground.phase }, { on := 7, ground := Ground.phase }, { on := 8, ground := Ground.phase }, { on := 9, ground := Ground.phase }, { on := 10, ground := Ground.phase }, { on := 11, ground := Ground.phase }, { on := 12, ground := Ground.phase }], guard := none }) rfl (fun K hK => ?_) (TilkAll.nil)
      go_simp
      refine hK.out _ _ trivial (fun hHeld => ?_)
      clear hK K
      try simp only [Act.put, List.setIfInBounds_toArray, List.set_cons_zero, List.set_cons_succ]
      refine tilk_ready (rs := [14]) (by kernel_rfl) (by simp) ?_
      refine TilkAll.last (i := 14) (o := { dst := none, op := Op.store 23 (Operand.tmp 37) (Operand.tmp 34), type := 0, pos := "list.go:39", after := #[{ on := 13, ground := Ground.data }, { on := 8, ground := Ground.data }, { on := 12, ground := Ground.chain }, { on := 0, ground := Ground.phase }, { on := 1, ground := Ground.phase }, { on := 2, ground := Ground.phase }, { on := 3, ground := Ground.phase }, { on := 4, ground := Ground.phase }, { on := 5, ground := Ground.phase }, { on := 6, ground := Ground.phase }, { on := 7, ground := Ground.phase }, { on := 8, ground := Ground.phase }, { on := 9, ground := Ground.phase }, { on := 10, ground := Ground.phase }, { on := 11, ground := Ground.phase }, { on := 12, ground := Ground.phase }], guard := none }) rfl (fun K hK => ?_) (TilkAll.nil)
      obtain ⟨r0, r1, r2, r3, r4, r5⟩ := HP.out.x.six
      have fz := HP.out.x.fz
      go_simp
      clear r0 r1 r2 r3 r4 r5 fz
      replace HP := Lib.hid (HP.out.put5 (.slice avr lar.length cvr))
      replace HA := Lib.hid (row_box (o := 5) (u := (.slice avr lar.length cvr)) HA.out)
      replace HNN2 := Lib.hid (row_box (o := 5) (u := (.slice avr lar.length cvr)) HNN2.out)
      replace HR := Lib.hid (row_box (o := 5) (u := (.slice avr lar.length cvr)) HR.out)
      refine hK.out _ _ trivial (fun hHeld => ?_)
      clear hK K
      try simp only [Act.put, List.setIfInBounds_toArray, List.set_cons_zero, List.set_cons_succ]
      refine tilk_done (by kernel_rfl) ?_ _
      clear hHeld
      obtain ⟨WE, hWE⟩ : ∃ X, ((w3.setCell ⟨N, 3, none⟩ (.slice ava lan.length cva)).setCell ⟨N, 4, none⟩ (.slice avn lns.length cvn)).setCell ⟨N, 5, none⟩ (.slice avr lar.length cvr) = X := ⟨_, rfl⟩
      rw [hWE] at HP HA HNN2 HR ⊢
      clear hWE
      obtain ⟨r0, r1, r2, r3, r4, r5⟩ := HP.out.x.six
      obtain ⟨z0, z1, z2, z3, z4, z5⟩ := HP.out.z.six
      have fz := HP.out.x.fz
      have fy := HP.out.z.fz
      go_wp2_with fail
      clear r0 r1 r2 r3 r4 r5 z0 z1 z2 z3 z4 z5 fz fy
      have k6 := cel_put6 HP.out.z (.int .i64 i0) (.int .i64 f0) (.slice qa l.length qc) (.slice ava lan.length cva) (.slice avn lns.length cvn) (.slice avr lar.length cvr)
      have ha := aside_put6 WE (N + 1) (.int .i64 i0) (.int .i64 f0) (.slice qa l.length qc) (.slice ava lan.length cva) (.slice avn lns.length cvn) (.slice avr lar.length cvr)
      obtain ⟨m0, m1, m2, m3, m4, m5⟩ := k6.six
      unfold put6 at m0 m1 m2 m3 m4 m5 ha
      have key : ∀ (v : Value) (l : List Rc), OwnRc WE (N + 2) v l → OwnRc _ N v l := fun v l h => row_base (row_aside h ha fun j hj hg => by have := (World.ownsRow.lt h j hj).1; omega) (by omega)
      refine bodyPost_ret (v := .agg #[.int .i64 i0, .int .i64 f0, .slice qa l.length qc, .slice ava lan.length cva, .slice avn lns.length cvn, .slice avr lar.length cvr]) (by simp [results, Tryz.results54, go_sem, m0, m1, m2, m3, m4, m5]) rfl ⟨_, rfl, ?_, ?_⟩
      · first | exact ⟨_, _, _, _, rfl, row_base (row_aside HP.out.own ha fun j hj hg => by have := (World.ownsRow.lt HP.out.own j hj).1; omega) (by omega), key _ _ HA.out, key _ _ HNN2.out, key _ _ HR.out⟩ | (rw [hN]; exact ⟨_, _, _, _, rfl, row_base (row_aside HP.out.own ha fun j hj hg => by have := (World.ownsRow.lt HP.out.own j hj).1; omega) (by omega), key _ _ HA.out, key _ _ HNN2.out, key _ _ HR.out⟩)
      · first | exact below_aside HP.out.bel ha (fun j hj => ⟨by have := HP.out.size; omega, by omega⟩) | (rw [hN]; exact below_aside HP.out.bel ha (fun j hj => ⟨by have := HP.out.size; omega, by omega⟩))
end Go.Proofs.YteegekpanadmkaaGreat

/-
  A message with the shortest names at its end.
-/
namespace Go.Proofs.YteegekpanadmkaaGreat
open Go.RowKit Go.Shelf
set_option linter.unusedVariables false
set_option linter.unusedSimpArgs false
set_option maxRecDepth 100000

/-- The records of TypeOPT at the end have the shortest names; by how many bytes the others' are more, at least. -/
def brL : List Rc → List Rc
  | [] => []
  | x :: l => if (x :: l).all isO = true then (x :: l).map rt else x :: brL l
def moL : List Rc → Nat
  | [] => 0
  | x :: l => if (x :: l).all isO = true then mors (x :: l) else moL l
def brM (m : Ms) : Ms := { m with ar := brL m.ar }
theorem br_parts : ∀ (A D : List Rc), D.all isO = true → (∀ A' x, A = A' ++ [x] → isO x = false) → brL (A ++ D) = A ++ D.map rt ∧ moL (A ++ D) = mors D
  | [], [], _, _ => ⟨rfl, rfl⟩
  | [], x :: D, h, _ => by
    constructor
    · show brL (x :: D) = _
      rw [brL, if_pos h]; rfl
    · show moL (x :: D) = _
      rw [moL, if_pos h]
  | x :: A, D, h, h2 => by
    have hx : ((x :: (A ++ D)).all isO) = false := by
      rcases List.eq_nil_or_concat A with rfl | ⟨l, y, rfl⟩
      · have := h2 [] x rfl
        simp [this]
      · have := h2 (x :: l) y (by simp)
        simp [this]
    have ih := br_parts A D h (fun A' y e => h2 (x :: A') y (by rw [e]; rfl))
    constructor
    · show brL (x :: (A ++ D)) = _
      rw [brL, if_neg (by rw [hx]; simp), ih.1]; rfl
    · show moL (x :: (A ++ D)) = _
      rw [moL, if_neg (by rw [hx]; simp), ih.2]
/-- Each list is such. -/
theorem br_split : ∀ (l : List Rc), ∃ A D, l = A ++ D ∧ D.all isO = true ∧ ∀ A' x, A = A' ++ [x] → isO x = false
  | [] => ⟨[], [], rfl, rfl, fun A' x h => by simp at h⟩
  | x :: l => by
    obtain ⟨A, D, rfl, hD, hA⟩ := br_split l
    by_cases hx : A = [] ∧ isO x = true
    · obtain ⟨rfl, hx⟩ := hx
      exact ⟨[], x :: D, rfl, by simp [hx]; simpa using hD, fun A' x h => by simp at h⟩
    · refine ⟨x :: A, D, rfl, hD, fun A' y h => ?_⟩
      cases A' with
      | nil =>
        simp at h
        obtain ⟨rfl, rfl⟩ := h
        have : ¬ isO x = true := fun h => hx ⟨rfl, h⟩
        simpa using this
      | cons z A' =>
        simp at h
        exact hA A' y h.2
end Go.Proofs.YteegekpanadmkaaGreat

/-
  A message's bytes, and whether they are few enough.
-/
namespace Go.Proofs.YteegekpanadmkaaGreat
open Go.RowKit Go.Shelf
set_option linter.unusedVariables false
set_option linter.unusedSimpArgs false
set_option maxRecDepth 100000

theorem wrM_how (m : Ms) : (∃ z, wrM m = (some z, 0)) ∨ ∃ e, wrM m = (none, e) ∧ e ≠ 0 := by
  unfold wrM
  by_cases h : chkM m = 0
  · rw [if_neg (by simpa using h)]
    rcases wrIs m.its (headM m) [] 0 with _ | z
    · exact .inr ⟨3, rfl, by decide⟩
    · exact .inl ⟨z, rfl⟩
  · rw [if_pos h]
    exact .inr ⟨_, rfl, h⟩
/-- Is it written in so many bytes? -/
def fitW (m : Ms) (size : Int) : Bool := match (wrM m).1 with | some z => decide ((wrM m).2 = 0) && decide ((z.length : Int) ≤ size) | none => false
def WtPost (w : World) (m : Ms) (size : Int) (e : Ending) (w' : World) : Prop := ∃ v, e = .returned (.tuple #[v, .bool (fitW m size)]) ∧ Below w.heap.size w w' ∧ (fitW m size = true → ∃ z, wrM m = (some z, 0) ∧ OwnB w' w.heap.size v z)

set_option maxHeartbeats 2000000 in
theorem written_any {w : World} {hi : Nat} {u : Value} {m : Ms} (h : Mg w hi u m) (h1 : hi ≤ w.heap.size) (hf : m.Fine) (hn : m.q.length + m.an.length + m.ns.length + m.ar.length ≤ 1100) (size : Int) :
    Calls Tryz.prog 35 #[u, .int .i64 size] w (WtPost w m size) := by
  have hmg := h
  obtain ⟨q, a, n, r, rfl, hq, ha, hn2, hr⟩ := h
  obtain ⟨qa, qc, rfl⟩ := Lst.shape hq
  obtain ⟨aa, ac, rfl⟩ := Lst.shape ha
  obtain ⟨na, nc, rfl⟩ := Lst.shape hn2
  obtain ⟨ra, rc, rfl⟩ := Lst.shape hr
  obtain ⟨i0, hi0⟩ : ∃ i, m.id = i := ⟨_, rfl⟩
  obtain ⟨f0, hf0⟩ : ∃ i, m.fl = i := ⟨_, rfl⟩
  obtain ⟨lq, hlq⟩ : ∃ i, m.q.length = i := ⟨_, rfl⟩
  obtain ⟨la, hla⟩ : ∃ i, m.an.length = i := ⟨_, rfl⟩
  obtain ⟨ln, hln⟩ : ∃ i, m.ns.length = i := ⟨_, rfl⟩
  obtain ⟨lr, hlr⟩ : ∃ i, m.ar.length = i := ⟨_, rfl⟩
  rw [hi0, hf0, hlq, hla, hln, hlr] at hmg ⊢
  have hb : Below w.heap.size w (w.alloc (.cells #[.int .i64 i0, .int .i64 f0, .slice qa lq qc, .slice aa la ac, .slice na ln nc, .slice ra lr rc] 25)) := (Below.refl _ _).alloc (Nat.le_refl _) _
  have HC := Lib.hid (writeM_any ((hmg.wide h1).later hb) (Nat.le_refl _) hf hn)
  have HB := Lib.hid hb
  clear hmg hq ha hn2 hr hi0 hf0 hlq hla hln hlr hb
  go_enter Tryz.func35, Tryz.ntmps35
  go_wp2_with fail
  refine HC.out.mono ?_; rintro e wb ⟨v, rfl, ho, hb⟩
  have HB2 := Lib.hid (bel_call HB.out hb)
  rcases wrM_how m with ⟨z, hz⟩ | ⟨c, hz, hc⟩
  · rw [hz] at ho ⊢
    have ho : OwnB wb _ v z := ho
    have hfit : fitW m size = decide ((z.length : Int) ≤ size) := by unfold fitW; rw [hz]; simp
    have HO := Lib.hid (show ∃ z, wrM m = (some z, 0) ∧ OwnB wb w.heap.size v z from ⟨z, hz, OwnB.mono ho (by simp)⟩)
    have hsh : ∃ a c, v = .slice a z.length c := by
      rcases ho with ⟨rfl, rfl⟩ | ⟨g, cap, fz, rfl, _⟩
      · exact ⟨none, 0, rfl⟩
      · exact ⟨_, _, rfl⟩
    obtain ⟨va, vc, rfl⟩ := hsh
    have HF := Lib.hid hfit
    obtain ⟨L, hL⟩ : ∃ k, z.length = k := ⟨_, rfl⟩
    rw [hL] at HF HO ⊢
    clear ho hb hz hfit hL HC HB
    by_cases hs : (L : Int) ≤ size
    · go_wp2_with fail
      go_ret2
      exact ⟨.slice va L vc, by rw [HF.out]; simp [hs], HB2.out, fun _ => HO.out⟩
    · have hd : decide ((L : Int) ≤ size) = false := by simpa using hs
      go_wp2_with fail
      go_ret2
      exact ⟨.slice va L vc, by rw [HF.out, hd]; rfl, HB2.out, fun _ => HO.out⟩
  · rw [hz] at ho ⊢
    have ho : OwnB wb _ v [] := ho
    have hsh : ∃ a k c, v = .slice a k c := by
      rcases ho with ⟨rfl, _⟩ | ⟨g, cap, fz, rfl, _⟩
      · exact ⟨none, 0, 0, rfl⟩
      · exact ⟨_, _, _, rfl⟩
    obtain ⟨va, vk, vc, rfl⟩ := hsh
    have HF := Lib.hid (show fitW m size = false by unfold fitW; rw [hz])
    have hc2 : (c == 0) = false := by simpa using hc
    have hc3 : decide (c = 0) = false := by simpa using hc
    clear ho hb hz HC HB
    go_wp2_with fail
    go_ret2
    exact ⟨.slice va vk vc, by rw [HF.out]; rfl, HB2.out, fun h => by rw [HF.out] at h; cases h⟩
end Go.Proofs.YteegekpanadmkaaGreat

/-
  A message with one entry less; with which fewest left out it fits.
-/
namespace Go.Proofs.YteegekpanadmkaaGreat
open Go.RowKit Go.Shelf
set_option linter.unusedVariables false
set_option linter.unusedSimpArgs false
set_option maxRecDepth 100000

/-- How many entries there are. -/
def totM (m : Ms) : Nat := m.q.length + m.an.length + m.ns.length + m.ar.length
/-- One entry less, and whether that is to be told. -/
def lessM (m : Ms) : Ms × Bool :=
  if 0 < nA m then ({ m with ar := lop nO 1 m.ar }, false)
  else if 0 < m.ns.length then ({ m with ns := m.ns.take (m.ns.length - 1) }, true)
  else if 0 < m.an.length then ({ m with an := m.an.take (m.an.length - 1) }, true)
  else if 0 < nD m then ({ m with ar := lop isO 1 m.ar }, false)
  else ({ m with q := m.q.take (m.q.length - 1) }, true)
def stepM (m : Ms) : Ms := if (lessM m).2 = true then { (lessM m).1 with fl := tcG (lessM m).1.fl } else (lessM m).1
theorem nA_len (m : Ms) : nA m ≤ m.ar.length := List.countP_le_length
theorem filt_isO (l : List Rc) : l.filter (fun x => !nO x) = l.filter isO := by
  congr 1; funext x; unfold nO; simp
theorem cut_ar_lo (m : Ms) (n : Nat) (h : n ≤ nA m + m.ns.length + m.an.length) : (mcut m n).ar = lop nO n m.ar := by
  show (lop nO n m.ar).take _ = _
  exact take_eq_self _ _ (by omega)
theorem cut_ar_hi (m : Ms) (n : Nat) (h : nA m ≤ n) : (mcut m n).ar = (m.ar.filter isO).take ((m.ar.filter isO).length - (n - (nA m + m.ns.length + m.an.length))) := by
  show (lop nO n m.ar).take _ = _
  rw [lop_all nO n m.ar h, filt_isO]
theorem filt_len (m : Ms) : (m.ar.filter isO).length = nD m := by unfold nD; rw [List.countP_eq_length_filter]
theorem lop_full {l : List Rc} (h : ∀ x ∈ l, isO x = true) : lop isO 1 l = l.take (l.length - 1) := by
  have h1 := lop_filter isO 1 l
  have e1 : l.filter isO = l := List.filter_eq_self.mpr h
  have e2 : (lop isO 1 l).filter isO = lop isO 1 l := List.filter_eq_self.mpr fun x hx => h x (lop_mem _ _ _ hx)
  rw [e1, e2, List.countP_eq_length.mpr (fun x hx => h x hx)] at h1
  exact h1
/-- What is left out is one entry after the other. -/
theorem cut_step (m : Ms) (n : Nat) (hn : n < totM m) (f0 : 0 ≤ m.fl) (f1 : m.fl ≤ 65535) : mcut m (n + 1) = stepM (mcut m n) := by
  have hAD := nA_nD m
  unfold totM at hn
  by_cases c1 : n < nA m
  · have har := cut_ar_lo m n (by omega)
    have har1 := cut_ar_lo m (n + 1) (by omega)
    have hcnt : nA (mcut m n) = nA m - n := by unfold nA; rw [har, lop_count]
    have hL : lessM (mcut m n) = ({ mcut m n with ar := lop nO 1 (mcut m n).ar }, false) := by unfold lessM; rw [if_pos (by omega)]
    unfold stepM
    rw [hL, if_neg (by simp)]
    simp only
    rw [har, lop_one, ← har1]
    unfold mcut
    simp only
    rw [if_neg (by omega), if_neg (by omega), show n + 1 - (nA m + m.ns.length + m.an.length + nD m) = n - (nA m + m.ns.length + m.an.length + nD m) by omega, show n + 1 - (nA m + m.ns.length) = n - (nA m + m.ns.length) by omega, show n + 1 - nA m = n - nA m by omega]
  · have har := cut_ar_hi m n (by omega)
    have hall : ∀ x ∈ (mcut m n).ar, isO x = true := fun x hx => by
      rw [har] at hx
      exact (List.mem_filter.mp (List.mem_of_mem_take hx)).2
    have hcnt : nA (mcut m n) = 0 := by
      unfold nA
      rw [List.countP_eq_zero]
      intro x hx
      simp [nO, hall x hx]
    have hlop : lop nO (n + 1) m.ar = lop nO n m.ar := by rw [lop_all nO n m.ar (by unfold nA at c1; omega), lop_all nO (n + 1) m.ar (by unfold nA at c1; omega)]
    have hns : (mcut m n).ns = m.ns.take (m.ns.length - (n - nA m)) := rfl
    have han : (mcut m n).an = m.an.take (m.an.length - (n - (nA m + m.ns.length))) := rfl
    have hq : (mcut m n).q = m.q.take (m.q.length - (n - (nA m + m.ns.length + m.an.length + nD m))) := rfl
    have hnl : (mcut m n).ns.length = m.ns.length - (n - nA m) := by rw [hns, List.length_take]; omega
    have hal : (mcut m n).an.length = m.an.length - (n - (nA m + m.ns.length)) := by rw [han, List.length_take]; omega
    have hql : (mcut m n).q.length = m.q.length - (n - (nA m + m.ns.length + m.an.length + nD m)) := by rw [hq, List.length_take]; omega
    have hdl : nD (mcut m n) = nD m - (n - (nA m + m.ns.length + m.an.length)) := by
      unfold nD
      rw [List.countP_eq_length.mpr hall, har, List.length_take, filt_len]
      unfold nD; omega
    unfold stepM
    by_cases c2 : n < nA m + m.ns.length
    · have hL : lessM (mcut m n) = ({ mcut m n with ns := (mcut m n).ns.take ((mcut m n).ns.length - 1) }, true) := by unfold lessM; rw [if_neg (by omega), if_pos (by omega)]
      rw [hL, if_pos rfl]
      simp only
      rw [hnl, hns, List.take_take]
      unfold mcut
      simp only
      rw [if_pos (by omega), hlop, show n + 1 - (nA m + m.ns.length + m.an.length + nD m) = n - (nA m + m.ns.length + m.an.length + nD m) by omega, show n + 1 - (nA m + m.ns.length) = n - (nA m + m.ns.length) by omega, show n + 1 - (nA m + m.ns.length + m.an.length) = n - (nA m + m.ns.length + m.an.length) by omega,
        show min (m.ns.length - (n - nA m) - 1) (m.ns.length - (n - nA m)) = m.ns.length - (n + 1 - nA m) by omega]
      split
      · rw [tcG_twice f0 f1]
      · rfl
    · by_cases c3 : n < nA m + m.ns.length + m.an.length
      · have hL : lessM (mcut m n) = ({ mcut m n with an := (mcut m n).an.take ((mcut m n).an.length - 1) }, true) := by unfold lessM; rw [if_neg (by omega), if_neg (by omega), if_pos (by omega)]
        rw [hL, if_pos rfl]
        simp only
        rw [hal, han, List.take_take]
        unfold mcut
        simp only
        rw [if_pos (by omega), hlop, show n + 1 - (nA m + m.ns.length + m.an.length + nD m) = n - (nA m + m.ns.length + m.an.length + nD m) by omega, show n + 1 - (nA m + m.ns.length + m.an.length) = n - (nA m + m.ns.length + m.an.length) by omega,
          show min (m.an.length - (n - (nA m + m.ns.length)) - 1) (m.an.length - (n - (nA m + m.ns.length))) = m.an.length - (n + 1 - (nA m + m.ns.length)) by omega,
          show m.ns.length - (n + 1 - nA m) = m.ns.length - (n - nA m) by omega]
        split
        · rw [tcG_twice f0 f1]
        · rfl
      · by_cases c4 : n < nA m + m.ns.length + m.an.length + nD m
        · have hL : lessM (mcut m n) = ({ mcut m n with ar := lop isO 1 (mcut m n).ar }, false) := by unfold lessM; rw [if_neg (by omega), if_neg (by omega), if_neg (by omega), if_pos (by omega)]
          rw [hL, if_neg (by simp)]
          simp only
          rw [lop_full hall, har, List.length_take, List.take_take, filt_len]
          have har1 := cut_ar_hi m (n + 1) (by omega)
          rw [filt_len] at har1
          rw [show min (min (nD m - (n - (nA m + m.ns.length + m.an.length))) (nD m) - 1) (nD m - (n - (nA m + m.ns.length + m.an.length))) = nD m - (n + 1 - (nA m + m.ns.length + m.an.length)) by omega, ← har1]
          unfold mcut
          simp only
          rw [show n + 1 - (nA m + m.ns.length + m.an.length + nD m) = n - (nA m + m.ns.length + m.an.length + nD m) by omega, show m.an.length - (n + 1 - (nA m + m.ns.length)) = m.an.length - (n - (nA m + m.ns.length)) by omega, show m.ns.length - (n + 1 - nA m) = m.ns.length - (n - nA m) by omega]
          congr 1
          by_cases hc : (nA m < n ∧ 0 < m.ns.length) ∨ (nA m + m.ns.length < n ∧ 0 < m.an.length) ∨ (nA m + m.ns.length + m.an.length + nD m < n ∧ 0 < m.q.length)
          · rw [if_pos hc, if_pos (by omega)]
          · rw [if_neg hc, if_neg (by omega)]
        · have hL : lessM (mcut m n) = ({ mcut m n with q := (mcut m n).q.take ((mcut m n).q.length - 1) }, true) := by unfold lessM; rw [if_neg (by omega), if_neg (by omega), if_neg (by omega), if_neg (by omega)]
          rw [hL, if_pos rfl]
          simp only
          rw [hql, hq, List.take_take]
          have har1 := cut_ar_hi m (n + 1) (by omega)
          rw [filt_len] at har1 har
          rw [show nD m - (n + 1 - (nA m + m.ns.length + m.an.length)) = nD m - (n - (nA m + m.ns.length + m.an.length)) by omega, ← har] at har1
          unfold mcut at har1 ⊢
          simp only at har1 ⊢
          rw [har1, if_pos (by omega), show m.an.length - (n + 1 - (nA m + m.ns.length)) = m.an.length - (n - (nA m + m.ns.length)) by omega, show m.ns.length - (n + 1 - nA m) = m.ns.length - (n - nA m) by omega,
            show min (m.q.length - (n - (nA m + m.ns.length + m.an.length + nD m)) - 1) (m.q.length - (n - (nA m + m.ns.length + m.an.length + nD m))) = m.q.length - (n + 1 - (nA m + m.ns.length + m.an.length + nD m)) by omega]
          split
          · rw [tcG_twice f0 f1]
          · rfl
end Go.Proofs.YteegekpanadmkaaGreat

/-
  With which fewest entries left out a message fits; what the search asks has one turn.
-/
namespace Go.Proofs.YteegekpanadmkaaGreat
open Go.RowKit Go.Shelf
set_option linter.unusedVariables false
set_option linter.unusedSimpArgs false
set_option maxRecDepth 100000

/-- The first number from n on, of so many, of which it is said. -/
def lstN (p : Nat → Bool) : Nat → Nat → Nat
  | 0, n => n
  | k + 1, n => if p n = true then n else lstN p k (n + 1)
theorem lstN_facts (p : Nat → Bool) : ∀ (k n : Nat), p (n + k) = true → p (lstN p k n) = true ∧ n ≤ lstN p k n ∧ lstN p k n ≤ n + k ∧ ∀ t, n ≤ t → t < lstN p k n → p t = false
  | 0, n, h => ⟨h, Nat.le_refl _, Nat.le_refl _, fun t h1 h2 => by simp only [lstN] at h2; omega⟩
  | k + 1, n, h => by
    rw [lstN]
    by_cases hp : p n = true
    · rw [if_pos hp]
      exact ⟨hp, Nat.le_refl _, by omega, fun t h1 h2 => by omega⟩
    · rw [if_neg hp]
      obtain ⟨a, b, c, d⟩ := lstN_facts p k (n + 1) (by rw [show n + 1 + k = n + (k + 1) by omega]; exact h)
      refine ⟨a, by omega, by omega, fun t h1 h2 => ?_⟩
      by_cases e : t = n
      · subst e; simpa using hp
      · exact d t (by omega) h2
/-! ### parts of a message that is cut -/

theorem cut_sub (m : Ms) (n : Nat) : (∀ x ∈ (mcut m n).q, x ∈ m.q) ∧ (∀ x ∈ (mcut m n).an, x ∈ m.an) ∧ (∀ x ∈ (mcut m n).ns, x ∈ m.ns) ∧ ∀ x ∈ (mcut m n).ar, x ∈ m.ar :=
  ⟨fun x h => List.mem_of_mem_take h, fun x h => List.mem_of_mem_take h, fun x h => List.mem_of_mem_take h, fun x h => lop_mem _ _ _ (List.mem_of_mem_take h)⟩
theorem lop_len (p : Rc → Bool) (k : Nat) : ∀ (l : List Rc), (lop p k l).length ≤ l.length
  | [] => Nat.le_refl _
  | x :: l => by
    rw [lop_cons]
    have := lop_len p k l
    split
    · simp; omega
    · simp; omega
theorem cut_tot (m : Ms) (n : Nat) : totM (mcut m n) ≤ totM m := by
  unfold totM
  have := lop_len nO n m.ar
  have e1 : (mcut m n).q.length ≤ m.q.length := by show (m.q.take _).length ≤ _; rw [List.length_take]; omega
  have e2 : (mcut m n).an.length ≤ m.an.length := by show (m.an.take _).length ≤ _; rw [List.length_take]; omega
  have e3 : (mcut m n).ns.length ≤ m.ns.length := by show (m.ns.take _).length ≤ _; rw [List.length_take]; omega
  have e4 : (mcut m n).ar.length ≤ m.ar.length := by show ((lop nO n m.ar).take _).length ≤ _; rw [List.length_take]; omega
  omega
theorem cut_fine {m : Ms} (h : m.Fine) (n : Nat) : (mcut m n).Fine := by
  obtain ⟨a, b, c, d⟩ := cut_sub m n
  exact ⟨fun x hx => h.q x (a x hx), fun x hx => h.an x (b x hx), fun x hx => h.ns x (c x hx), fun x hx => h.ar x (d x hx)⟩
theorem br_mem : ∀ (l : List Rc) {x : Rc}, x ∈ brL l → (x ∈ l) ∨ ∃ y ∈ l, isO y = true ∧ x = rt y
  | [], x, h => by simp [brL] at h
  | y :: l, x, h => by
    rw [brL] at h
    split at h
    · rename_i ha
      obtain ⟨z, hz, rfl⟩ := List.mem_map.mp h
      exact .inr ⟨z, hz, List.all_eq_true.mp ha z hz, rfl⟩
    · rcases List.mem_cons.mp h with rfl | h
      · exact .inl (by simp)
      · rcases br_mem l h with h | ⟨z, hz, h1, h2⟩
        · exact .inl (by simp [h])
        · exact .inr ⟨z, by simp [hz], h1, h2⟩
theorem br_len : ∀ (l : List Rc), (brL l).length = l.length
  | [] => rfl
  | y :: l => by
    rw [brL]
    split
    · simp
    · rw [List.length_cons, List.length_cons, br_len l]
theorem br_fine {m : Ms} (h : m.Fine) : (brM m).Fine :=
  ⟨h.q, h.an, h.ns, fun x hx => by
    rcases br_mem m.ar hx with h1 | ⟨y, h1, _, rfl⟩
    · exact h.ar x h1
    · exact ⟨by show [(0 : UInt8)].length ≤ _; simp, (h.ar y h1).2⟩⟩
theorem br_tot (m : Ms) : totM (brM m) = totM m := by unfold totM brM; simp only [br_len]
theorem fst0_map0 {l : List It} (h : ∀ it ∈ l, it.err = 0) : fst0 (l.map It.err) = 0 := fst0_all fun e he => by obtain ⟨it, hit, rfl⟩ := List.mem_map.mp he; exact h it hit
theorem its_mem (m : Ms) (it : It) : it ∈ m.its ↔ (∃ x ∈ m.q, it = .q x) ∨ (∃ x ∈ m.an, it = .r x) ∨ (∃ x ∈ m.ns, it = .r x) ∨ ∃ x ∈ m.ar, it = .r x := by
  unfold Ms.its
  simp only [List.mem_append, List.mem_map]
  constructor
  · rintro (⟨x, h, rfl⟩ | ⟨x, h, rfl⟩ | ⟨x, h, rfl⟩ | ⟨x, h, rfl⟩)
    · exact .inl ⟨x, h, rfl⟩
    · exact .inr (.inl ⟨x, h, rfl⟩)
    · exact .inr (.inr (.inl ⟨x, h, rfl⟩))
    · exact .inr (.inr (.inr ⟨x, h, rfl⟩))
  · rintro (⟨x, h, rfl⟩ | ⟨x, h, rfl⟩ | ⟨x, h, rfl⟩ | ⟨x, h, rfl⟩)
    · exact .inl ⟨x, h, rfl⟩
    · exact .inr (.inl ⟨x, h, rfl⟩)
    · exact .inr (.inr (.inl ⟨x, h, rfl⟩))
    · exact .inr (.inr (.inr ⟨x, h, rfl⟩))
theorem chk_of {m c : Ms} (h : chkM m = 0) (hid : c.id = m.id) (hfl : 0 ≤ c.fl ∧ c.fl ≤ 65535) (hq : c.q.length ≤ m.q.length) (ha : c.an.length ≤ m.an.length) (hn : c.ns.length ≤ m.ns.length) (hr : c.ar.length ≤ m.ar.length) (hi : ∀ it ∈ c.its, it.err = 0) : chkM c = 0 := by
  obtain ⟨h1, h2, h3, h4, h5, h6, h7, h8, _⟩ := chkM_ok h
  unfold chkM
  rw [if_neg (by omega), if_neg (by omega), fst0_map0 hi]
theorem cut_chk {m : Ms} (h : chkM m = 0) (n : Nat) : chkM (mcut m n) = 0 := by
  obtain ⟨h1, h2, h3, h4, h5, h6, h7, h8, h9⟩ := chkM_ok h
  obtain ⟨a, b, c, d⟩ := cut_sub m n
  have hl := lop_len nO n m.ar
  refine chk_of h rfl ?_ ?_ ?_ ?_ ?_ ?_
  · show 0 ≤ (if _ then tcG m.fl else m.fl) ∧ (if _ then tcG m.fl else m.fl) ≤ 65535
    have := tcG_nat h3 h4
    split <;> omega
  · show (m.q.take _).length ≤ _; rw [List.length_take]; omega
  · show (m.an.take _).length ≤ _; rw [List.length_take]; omega
  · show (m.ns.take _).length ≤ _; rw [List.length_take]; omega
  · show ((lop nO n m.ar).take _).length ≤ _; rw [List.length_take]; omega
  · intro it hit
    apply h9
    rw [its_mem] at hit ⊢
    rcases hit with ⟨x, hx, rfl⟩ | ⟨x, hx, rfl⟩ | ⟨x, hx, rfl⟩ | ⟨x, hx, rfl⟩
    · exact .inl ⟨x, a x hx, rfl⟩
    · exact .inr (.inl ⟨x, b x hx, rfl⟩)
    · exact .inr (.inr (.inl ⟨x, c x hx, rfl⟩))
    · exact .inr (.inr (.inr ⟨x, d x hx, rfl⟩))
theorem br_chk {m : Ms} (h : chkM m = 0) : chkM (brM m) = 0 := by
  obtain ⟨h1, h2, h3, h4, h5, h6, h7, h8, h9⟩ := chkM_ok h
  refine chk_of h rfl ⟨h3, h4⟩ (Nat.le_refl _) (Nat.le_refl _) (Nat.le_refl _) (Nat.le_of_eq (br_len _)) ?_
  intro it hit
  rw [its_mem] at hit
  rcases hit with ⟨x, hx, rfl⟩ | ⟨x, hx, rfl⟩ | ⟨x, hx, rfl⟩ | ⟨x, hx, rfl⟩
  · exact h9 _ ((its_mem _ _).mpr (.inl ⟨x, hx, rfl⟩))
  · exact h9 _ ((its_mem _ _).mpr (.inr (.inl ⟨x, hx, rfl⟩)))
  · exact h9 _ ((its_mem _ _).mpr (.inr (.inr (.inl ⟨x, hx, rfl⟩))))
  · rcases br_mem m.ar hx with h | ⟨y, hy, _, rfl⟩
    · exact h9 _ ((its_mem _ _).mpr (.inr (.inr (.inr ⟨x, h, rfl⟩))))
    · exact chkC_rt (h9 _ ((its_mem _ _).mpr (.inr (.inr (.inr ⟨y, hy, rfl⟩)))))

/-! ### fitting -/

theorem fitW_iff {m : Ms} (h : chkM m = 0) (size : Int) : fitW m size = true ↔ ∃ r, wrN m.its 12 [] 0 = some r ∧ (r.1 : Int) ≤ size := by
  have hN := wrN_is m.its (headM m) [] 0
  rw [headM_len] at hN
  unfold fitW wrM
  rw [if_neg (by simpa using h)]
  rcases hw : wrIs m.its (headM m) [] 0 with _ | z
  · rw [hw] at hN
    simp only [Option.map_none] at hN
    constructor
    · intro h; simp at h
    · rintro ⟨r, hr, _⟩
      rw [hr] at hN
      simp at hN
  · rw [hw] at hN
    simp only [Option.map_some] at hN
    obtain ⟨r, hr, hr2⟩ := Option.map_eq_some_iff.mp hN.symm
    constructor
    · intro h
      refine ⟨r, hr, ?_⟩
      simp only [decide_true, Bool.true_and, decide_eq_true_eq] at h
      omega
    · rintro ⟨r', h1, h2⟩
      rw [hr] at h1
      injection h1 with h1
      subst h1
      simp only [decide_true, Bool.true_and, decide_eq_true_eq]
      omega
/-- All but the records at the end. -/
def hdI (m : Ms) (A : List Rc) : List It := m.q.map .q ++ (m.an.map .r ++ (m.ns.map .r ++ A.map .r))
theorem its_hd (m : Ms) {A D : List Rc} (h : m.ar = A ++ D) : m.its = hdI m A ++ D.map .r := by
  unfold Ms.its hdI
  rw [h, List.map_append]
  simp only [List.append_assoc]
/-- What the search asks, by how many bytes there are. -/
theorem brF_iff {m : Ms} (h : chkM m = 0) {A D : List Rc} (hA : m.ar = A ++ D) (hD : D.all isO = true) (hl : ∀ A' x, A = A' ++ [x] → isO x = false) (size : Int) (hs : size ≤ 65535) :
    fitW (brM m) (size - (moL m.ar : Nat)) = true ↔ ∃ r, wrN (hdI m A) 12 [] 0 = some r ∧ (r.1 : Int) + cst D + mors D ≤ size := by
  obtain ⟨_, _, _, _, _, _, _, _, h9⟩ := chkM_ok h
  obtain ⟨b1, b2⟩ := br_parts A D hD hl
  have hDc : ∀ x ∈ D, chkC x = 0 ∧ isO x = true := fun x hx => ⟨h9 (.r x) ((its_mem _ _).mpr (.inr (.inr (.inr ⟨x, by rw [hA]; simp [hx], rfl⟩)))), List.all_eq_true.mp hD x hx⟩
  have hHe : ∀ it ∈ hdI m A, it.err = 0 := fun it hit => h9 it (by rw [its_hd m hA]; simp [hit])
  have hi : (brM m).its = hdI m A ++ (D.map rt).map .r := by
    have := its_hd (brM m) (A := A) (D := D.map rt) (by show brL m.ar = _; rw [hA]; exact b1)
    exact this
  rw [fitW_iff (br_chk h), hi, wrN_app, hA, b2]
  constructor
  · rintro ⟨r, h1, h2⟩
    rcases hw : wrN (hdI m A) 12 [] 0 with _ | r1
    · rw [hw] at h1; simp at h1
    · rw [hw] at h1
      obtain ⟨k1, k2, k3⟩ := wrN_reach Rch.start (by omega) hHe hw
      have := (opt_just (T := D) k1 k3 hDc).1 r h1
      exact ⟨r1, rfl, by omega⟩
  · rintro ⟨r1, hw, h2⟩
    obtain ⟨k1, k2, k3⟩ := wrN_reach Rch.start (by omega) hHe hw
    obtain ⟨j1, j2⟩ := opt_just (T := D) k1 k3 hDc
    obtain ⟨r, hr⟩ := j2 (by omega)
    have := j1 r hr
    exact ⟨r, by rw [hw]; exact hr, by omega⟩
/-- What fits is found by the search. -/
theorem fit_br {m : Ms} (h : chkM m = 0) (size : Int) (hs : size ≤ 65535) (hf : fitW m size = true) : fitW (brM m) (size - (moL m.ar : Nat)) = true := by
  obtain ⟨A, D, hA, hD, hl⟩ := br_split m.ar
  obtain ⟨_, _, _, _, _, _, _, _, h9⟩ := chkM_ok h
  have hDc : ∀ x ∈ D, chkC x = 0 ∧ isO x = true := fun x hx => ⟨h9 (.r x) ((its_mem _ _).mpr (.inr (.inr (.inr ⟨x, by rw [hA]; simp [hx], rfl⟩)))), List.all_eq_true.mp hD x hx⟩
  have hHe : ∀ it ∈ hdI m A, it.err = 0 := fun it hit => h9 it (by rw [its_hd m hA]; simp [hit])
  rw [brF_iff h hA hD hl size hs]
  obtain ⟨r, h1, h2⟩ := (fitW_iff h size).mp hf
  rw [its_hd m hA, wrN_app] at h1
  rcases hw : wrN (hdI m A) 12 [] 0 with _ | r1
  · rw [hw] at h1; simp at h1
  · rw [hw] at h1
    obtain ⟨k1, k2, k3⟩ := wrN_reach Rch.start (by omega) hHe hw
    have := opt_least (T := D) k1 k3 hDc h1
    exact ⟨r1, rfl, by omega⟩
theorem cst_app (a b : List Rc) : cst (a ++ b) = cst a + cst b := by simp [cst]
theorem mors_app (a b : List Rc) : mors (a ++ b) = mors a + mors b := by simp [mors]
/-- Fewer entries ahead have no more bytes. -/
theorem wrN_less {H T : List It} {r : Nat × KK × Nat} (he : ∀ it ∈ H ++ T, it.err = 0) (h : wrN (H ++ T) 12 [] 0 = some r) : ∃ r0, wrN H 12 [] 0 = some r0 ∧ Rch r0.1 r0.2.1 r0.2.2 ∧ r0.1 ≤ 65535 ∧ wrN T r0.1 r0.2.1 r0.2.2 = some r ∧ r0.1 ≤ r.1 := by
  rw [wrN_app] at h
  rcases hw : wrN H 12 [] 0 with _ | r0
  · rw [hw] at h; simp at h
  · rw [hw] at h
    obtain ⟨k1, k2, k3⟩ := wrN_reach Rch.start (by omega) (fun it hi => he it (by simp [hi])) hw
    have h : wrN T r0.1 r0.2.1 r0.2.2 = some r := h
    exact ⟨r0, rfl, k1, k3, h, (wrN_reach k1 k3 (fun it hi => he it (by simp [hi])) h).2.1⟩
theorem err_hd {m : Ms} (h : chkM m = 0) {A D : List Rc} (hA : m.ar = A ++ D) : ∀ it ∈ hdI m A, it.err = 0 := fun it hit => (chkM_ok h).2.2.2.2.2.2.2.2 it (by rw [its_hd m hA]; simp [hit])
theorem all_of_nA {m : Ms} (h : ¬ 0 < nA m) : m.ar.all isO = true := by
  have h0 : m.ar.countP nO = 0 := by unfold nA at h; omega
  rw [List.all_eq_true]
  intro x hx
  have := List.countP_eq_zero.mp h0 x hx
  simpa [nO] using this
/-- One entry less ahead of the records at the end. -/
theorem br_one {c c' : Ms} (h : chkM c = 0) (h' : chkM c' = 0) (size : Int) (hs : size ≤ 65535) (hal : c.ar.all isO = true) (har : c'.ar = c.ar) (it : It) (hh : hdI c [] = hdI c' [] ++ [it]) (hf : fitW (brM c) (size - (moL c.ar : Nat)) = true) : fitW (brM c') (size - (moL c'.ar : Nat)) = true := by
  rw [brF_iff h' (A := []) (D := c.ar) (by rw [har]; rfl) hal (fun A' x e => by simp at e) size hs]
  obtain ⟨r, h1, h2⟩ := (brF_iff h (A := []) (D := c.ar) rfl hal (fun A' x e => by simp at e) size hs).mp hf
  have he := err_hd h (A := []) (D := c.ar) rfl
  rw [hh] at h1 he
  obtain ⟨r0, k1, _, _, _, k5⟩ := wrN_less he h1
  exact ⟨r0, k1, by omega⟩
theorem take_last {α : Type} (l : List α) (h : 0 < l.length) : ∃ x, l = l.take (l.length - 1) ++ [x] := by
  refine ⟨l[l.length - 1], ?_⟩
  have := List.take_succ_eq_append_getElem (l := l) (i := l.length - 1) (by omega)
  rw [show l.length - 1 + 1 = l.length by omega, List.take_length] at this
  exact this
/-- **With one entry more left out the search asks no more.** -/
theorem br_step {m : Ms} (h : chkM m = 0) (size : Int) (hs : size ≤ 65535) {n : Nat} (hn : n < totM m) (hf : fitW (brM (mcut m n)) (size - (moL (mcut m n).ar : Nat)) = true) : fitW (brM (mcut m (n + 1))) (size - (moL (mcut m (n + 1)).ar : Nat)) = true := by
  obtain ⟨_, _, f0, f1, _⟩ := chkM_ok h
  have hstep := cut_step m n hn f0 f1
  have hc := cut_chk h n
  have hc' := cut_chk h (n + 1)
  obtain ⟨c, hcc⟩ : ∃ c, mcut m n = c := ⟨_, rfl⟩
  obtain ⟨c', hcc'⟩ : ∃ c, mcut m (n + 1) = c := ⟨_, rfl⟩
  rw [hcc] at hc hf hstep
  rw [hcc'] at hc' hstep ⊢
  have hpos : 0 < totM c := by
    rw [← hcc]
    have hAD := nA_nD m
    unfold totM at hn ⊢
    by_cases c1 : n < nA m
    · have : nA (mcut m n) = nA m - n := by unfold nA; rw [cut_ar_lo m n (by omega), lop_count]
      have := nA_len (mcut m n)
      omega
    · have har := cut_ar_hi m n (by omega)
      have e4 : (mcut m n).ar.length = nD m - (n - (nA m + m.ns.length + m.an.length)) := by rw [har, List.length_take, filt_len]; omega
      have e1 : (mcut m n).q.length = m.q.length - (n - (nA m + m.ns.length + m.an.length + nD m)) := by show (m.q.take _).length = _; rw [List.length_take]; omega
      have e2 : (mcut m n).an.length = m.an.length - (n - (nA m + m.ns.length)) := by show (m.an.take _).length = _; rw [List.length_take]; omega
      have e3 : (mcut m n).ns.length = m.ns.length - (n - nA m) := by show (m.ns.take _).length = _; rw [List.length_take]; omega
      omega
  clear hcc hcc' hn h f0 f1
  unfold stepM lessM at hstep
  by_cases c1 : 0 < nA c
  · rw [if_pos c1] at hstep
    have hstep : c' = { c with ar := lop nO 1 c.ar } := hstep
    obtain ⟨A0, D, hA0, hD, hl⟩ := br_split c.ar
    obtain ⟨A, x, rfl⟩ : ∃ A x, A0 = A ++ [x] := by
      rcases List.eq_nil_or_concat A0 with rfl | ⟨l, y, rfl⟩
      · exfalso
        have : nA c = 0 := by
          unfold nA
          rw [hA0, List.nil_append, List.countP_eq_zero]
          intro y hy
          simp [nO, List.all_eq_true.mp hD y hy]
        omega
      · exact ⟨l, y, by simp⟩
    have hx := hl A x rfl
    have e0 : c.ar = A ++ x :: D := by rw [hA0]; simp
    have elop : lop nO 1 c.ar = A ++ D := by
      rw [e0, lop_at nO (A ++ x :: D) A.length (by simp) (by rw [List.getElem_append_right (Nat.le_refl _)]; simp [nO, hx]) (by
        rw [List.drop_append, List.drop_of_length_le (by omega), List.nil_append, show A.length + 1 - A.length = 1 by omega]
        rw [List.countP_eq_zero]
        intro y hy
        have hy : y ∈ D := by simpa using hy
        simp [nO, List.all_eq_true.mp hD y hy])]
      rw [List.take_left, List.drop_append, List.drop_of_length_le (by omega), List.nil_append, show A.length + 1 - A.length = 1 by omega]
      rfl
    obtain ⟨A1, D1, hA1, hD1, hl1⟩ := br_split A
    have har' : c'.ar = A1 ++ (D1 ++ D) := by rw [hstep]; show lop nO 1 c.ar = _; rw [elop, hA1, List.append_assoc]
    have hDD : (D1 ++ D).all isO = true := by rw [List.all_append, hD1, hD]; rfl
    rw [brF_iff hc' har' hDD hl1 size hs]
    obtain ⟨r, k1, k2⟩ := (brF_iff hc hA0 hD hl size hs).mp hf
    have hhd : hdI c (A ++ [x]) = hdI c' A1 ++ (D1.map .r ++ [.r x]) := by
      rw [hstep, hA1]
      unfold hdI
      simp
    have he := err_hd hc hA0
    rw [hhd] at k1 he
    obtain ⟨r0, g1, g2, g3, g4, g5⟩ := wrN_less he k1
    rw [wrN_app] at g4
    rcases hw : wrN (D1.map .r) r0.1 r0.2.1 r0.2.2 with _ | r2
    · rw [hw] at g4; simp at g4
    · rw [hw] at g4
      have hDc : ∀ y ∈ D1, chkC y = 0 ∧ isO y = true := fun y hy => ⟨he (.r y) (by simp [hy]), List.all_eq_true.mp hD1 y hy⟩
      have hmin := opt_least (T := D1) g2 g3 hDc hw
      obtain ⟨q1, q2, q3⟩ := wrN_reach g2 g3 (fun it hi => he it (by simp [hi])) hw
      have g4 : wrN [.r x] r2.1 r2.2.1 r2.2.2 = some r := g4
      have hr := (wrN_reach q1 q3 (fun it hi => he it (by simp [hi])) g4).2.1
      refine ⟨r0, g1, ?_⟩
      rw [cst_app, mors_app]
      omega
  · have hall := all_of_nA c1
    rw [if_neg c1] at hstep
    by_cases c2 : 0 < c.ns.length
    · rw [if_pos c2] at hstep
      have hstep : c' = { c with ns := c.ns.take (c.ns.length - 1), fl := tcG c.fl } := hstep
      obtain ⟨y, hy⟩ := take_last c.ns c2
      refine br_one hc hc' size hs hall (by rw [hstep]) (.r y) ?_ hf
      rw [hstep]
      unfold hdI
      conv => lhs; rw [hy]
      simp
    · have hns : c.ns = [] := List.length_eq_zero_iff.mp (by omega)
      rw [if_neg c2] at hstep
      by_cases c3 : 0 < c.an.length
      · rw [if_pos c3] at hstep
        have hstep : c' = { c with an := c.an.take (c.an.length - 1), fl := tcG c.fl } := hstep
        obtain ⟨y, hy⟩ := take_last c.an c3
        refine br_one hc hc' size hs hall (by rw [hstep]) (.r y) ?_ hf
        rw [hstep]
        unfold hdI
        conv => lhs; rw [hy]
        simp [hns]
      · have han : c.an = [] := List.length_eq_zero_iff.mp (by omega)
        rw [if_neg c3] at hstep
        by_cases c4 : 0 < nD c
        · rw [if_pos c4] at hstep
          have hstep : c' = { c with ar := lop isO 1 c.ar } := hstep
          have hlen : 0 < c.ar.length := by have := List.countP_le_length (p := isO) (l := c.ar); unfold nD at c4; omega
          obtain ⟨y, hy⟩ := take_last c.ar hlen
          have har' : c'.ar = c.ar.take (c.ar.length - 1) := by rw [hstep]; exact lop_full (fun x hx => List.all_eq_true.mp hall x hx)
          have hal' : (c.ar.take (c.ar.length - 1)).all isO = true := by rw [List.all_eq_true]; exact fun x hx => List.all_eq_true.mp hall x (List.mem_of_mem_take hx)
          rw [brF_iff hc' (A := []) (D := c.ar.take (c.ar.length - 1)) (by rw [har']; rfl) hal' (fun A' x e => by simp at e) size hs]
          obtain ⟨r, h1, h2⟩ := (brF_iff hc (A := []) (D := c.ar) rfl hall (fun A' x e => by simp at e) size hs).mp hf
          refine ⟨r, by rw [hstep]; exact h1, ?_⟩
          have e1 : cst c.ar = cst (c.ar.take (c.ar.length - 1)) + cst [y] := by conv => lhs; rw [hy, cst_app]
          have e2 : mors c.ar = mors (c.ar.take (c.ar.length - 1)) + mors [y] := by conv => lhs; rw [hy, mors_app]
          omega
        · rw [if_neg c4] at hstep
          have hstep : c' = { c with q := c.q.take (c.q.length - 1), fl := tcG c.fl } := hstep
          have har : c.ar = [] := by
            apply List.length_eq_zero_iff.mp
            have := nA_nD c
            omega
          have hq : 0 < c.q.length := by unfold totM at hpos; rw [hns, han, har] at hpos; simpa using hpos
          obtain ⟨y, hy⟩ := take_last c.q hq
          refine br_one hc hc' size hs hall (by rw [hstep]) (.q y) ?_ hf
          rw [hstep]
          unfold hdI
          conv => lhs; rw [hy]
          simp [hns, han]
theorem br_mono {m : Ms} (h : chkM m = 0) (size : Int) (hs : size ≤ 65535) {i : Nat} (hf : fitW (brM (mcut m i)) (size - (moL (mcut m i).ar : Nat)) = true) : ∀ d, i + d ≤ totM m → fitW (brM (mcut m (i + d))) (size - (moL (mcut m (i + d)).ar : Nat)) = true
  | 0, _ => hf
  | d + 1, hd => br_step h size hs (n := i + d) (by omega) (br_mono h size hs hf d (by omega))
/-- The fewest. -/
def fitN (m : Ms) (size : Int) : Nat := lstN (fun n => fitW (mcut m n) size) (totM m) 0
theorem cut_all {m : Ms} : (mcut m (totM m)).q = [] ∧ (mcut m (totM m)).an = [] ∧ (mcut m (totM m)).ns = [] ∧ (mcut m (totM m)).ar = [] := by
  have hAD := nA_nD m
  unfold totM
  refine ⟨?_, ?_, ?_, ?_⟩
  · show m.q.take _ = _; rw [show m.q.length - (m.q.length + m.an.length + m.ns.length + m.ar.length - (nA m + m.ns.length + m.an.length + nD m)) = 0 by omega, List.take_zero]
  · show m.an.take _ = _; rw [show m.an.length - (m.q.length + m.an.length + m.ns.length + m.ar.length - (nA m + m.ns.length)) = 0 by omega, List.take_zero]
  · show m.ns.take _ = _; rw [show m.ns.length - (m.q.length + m.an.length + m.ns.length + m.ar.length - nA m) = 0 by omega, List.take_zero]
  · rw [cut_ar_hi m _ (by omega), filt_len, show nD m - (m.q.length + m.an.length + m.ns.length + m.ar.length - (nA m + m.ns.length + m.an.length)) = 0 by omega, List.take_zero]
theorem fit_last {m : Ms} (h : chkM m = 0) {size : Int} (hs : 12 ≤ size) : fitW (mcut m (totM m)) size = true := by
  rw [fitW_iff (cut_chk h _)]
  obtain ⟨h1, h2, h3, h4⟩ := cut_all (m := m)
  refine ⟨(12, [], 0), ?_, hs⟩
  unfold Ms.its
  rw [h1, h2, h3, h4]
  rfl
theorem fitN_facts {m : Ms} (h : chkM m = 0) {size : Int} (hs : 12 ≤ size) : fitW (mcut m (fitN m size)) size = true ∧ fitN m size ≤ totM m ∧ ∀ t, t < fitN m size → fitW (mcut m t) size = false := by
  obtain ⟨a, b, c, d⟩ := lstN_facts (fun n => fitW (mcut m n) size) (totM m) 0 (by rw [Nat.zero_add]; exact fit_last h hs)
  exact ⟨a, by have := c; unfold fitN; omega, fun t ht => d t (Nat.zero_le _) ht⟩
end Go.Proofs.YteegekpanadmkaaGreat

/-
  A record of the additional ones as an entry; a message's entries laid.
-/
namespace Go.Proofs.YteegekpanadmkaaGreat
open Go.RowKit Go.Shelf
set_option linter.unusedVariables false
set_option linter.unusedSimpArgs false
set_option maxRecDepth 100000

/-- The value of an entry. -/
def eV (k : Int) (q : Qn) (x : Rc) : Value := .agg #[.int .i64 k, .string (bs q.n), .int .i64 q.t, .int .i64 q.c, .string (bs x.n), .int .i64 x.t, .int .i64 x.c, .int .i64 x.l, .string (bs x.d), .bool false]

set_option maxHeartbeats 1000000 in
theorem additional_any (w : World) (x : Rc) : Calls Tryz.prog 56 #[.agg #[.string (bs x.n), .int .i64 x.t, .int .i64 x.c, .int .i64 x.l, .string (bs x.d)]] w (Tells w (eV (arK x) q0 x)) := by
  obtain ⟨n, t, c, l, d⟩ := x
  unfold eV q0 arK isO
  simp only
  by_cases h : t = 41
  · subst h
    go_enter Tryz.func56, Tryz.ntmps56
    go_wp2
    refine bodyPost_ret (by simp [results, Tryz.results56, go_sem]; rfl) rfl ⟨rfl, ?_⟩
    exact ((Below.refl _ _).alloc (Nat.le_refl _) _).alloc (by simp) _
  · have h2 : (t == 41) = false := by simpa using h
    rw [show decide (t = 41) = false by simpa using h]
    go_enter Tryz.func56, Tryz.ntmps56
    go_wp2
    refine bodyPost_ret (by simp [results, Tryz.results56, go_sem]; rfl) rfl ⟨rfl, ?_⟩
    exact ((Below.refl _ _).alloc (Nat.le_refl _) _).alloc (by simp) _
end Go.Proofs.YteegekpanadmkaaGreat

/-
  A stretch of a row in order: one by one.
-/
namespace Go.Proofs.YteegekpanadmkaaGreat
open Go.RowKit Go.Shelf
set_option linter.unusedVariables false
set_option linter.unusedSimpArgs false
set_option maxRecDepth 100000

/-- How entries are compared. -/
def lessF : Value := .func (.func 59) #[] #[]

theorem Mrg.step {κ : Nat → Int} {U V X : List Nat} {x : Nat} (h : Mrg κ (U ++ V) X) (hu : ∀ y ∈ U, Bef κ y x) (hv : ∀ y ∈ V, Bef κ x y) : Mrg κ (U ++ x :: V) (X ++ [x]) :=
  ⟨(Mrg.put h.2 hu hv).1.trans (List.Perm.append_right _ h.1), (Mrg.put h.2 hu hv).2⟩

set_option maxHeartbeats 1000000 in
theorem insert_any {w : World} {B b g c N M : Nat} {κ : Nat → Int} {P X S : List Nat} (h : Pr w B b g c N (P ++ (X ++ S))) (hN : N ≤ 1000000) (hK : Kn w b M κ) (hX : ∀ x ∈ X, x < M) (hd : Dns X) (hg : ¬ b = g) (a z : Nat) (ha : P.length = a) (hz : a + X.length = z) :
    Calls Tryz.prog 89 #[.slice (some ⟨g, 0, none⟩) N c, .int .i64 a, .int .i64 z, lessF] w (PrPost w B b g c N (fun l => ∃ C, l = P ++ (C ++ S) ∧ Mrg κ C X)) := by
  have hlen := h.len
  rw [List.length_append, List.length_append] at hlen
  have hcap := h.cap
  obtain ⟨a1, ha1⟩ : ∃ k, k = a + 1 := ⟨_, rfl⟩
  have v1 : (a : Int) + 1 = (a1 : Int) := by omega
  have w1 : IntKind.i64.wrap ((a : Int) + 1) = (a1 : Int) := by rw [IntWalk.i64_in _ (by omega)]; omega
  have H := Lib.hid (And.intro h hK)
  have HX := Lib.hid (And.intro hX hd)
  clear h hK hX hd
  unfold lessF
  by_cases h0 : X.length = 0
  · obtain rfl : X = [] := List.length_eq_zero_iff.mp h0
    have hn : ¬ a1 < z := by simp at hz; omega
    clear ha1
    go_enter Tryz.func89, Tryz.ntmps89
    go_wp2
    refine wp_loop_rounds 1 ?_
    rw [rounds_succ]
    go_wp2
    go_end0
    exact ⟨rfl, _, ⟨[], rfl, Mrg.nil κ⟩, H.out.1, Aside.refl _ _⟩
  · have HA1 := Lib.hid ha1
    clear ha1
    go_enter Tryz.func89, Tryz.ntmps89
    go_wp2
    clear v1 w1
    go_loopg [8] (z - a1) (fun kx s wr => ∃ (i : Nat) (C1 X1 X2 : List Nat), i + kx = z ∧ a < i ∧ s = .int .i64 i ∧ Hid (X = X1 ++ X2 ∧ a + X1.length = i ∧ Mrg κ C1 X1 ∧ Pr wr B b g c N (P ++ (C1 ++ (X2 ++ S))) ∧ Aside (fun k => k = g) w wr))
    case atStart =>
      cases X with
      | nil => exact absurd rfl h0
      | cons x X2 => exact ⟨a1, [x], [x], X2, by have := HA1.out; simp at hz; omega, by have := HA1.out; omega, rfl, Lib.hid ⟨rfl, by have := HA1.out; simp; omega, Mrg.one κ x, H.out.1, Aside.refl _ _⟩⟩
    case round =>
      obtain ⟨i, C1, X1, X2, hi, hai, rfl, HH⟩ := hrel
      by_cases hlt : i < z
      · obtain ⟨x, X3, rfl⟩ : ∃ x l, X2 = x :: l := by
          obtain ⟨k1, k2, _⟩ := HH.out
          cases X2 with
          | nil => rw [k1] at hz; simp at hz; omega
          | cons x l => exact ⟨x, l, rfl⟩
        go_wp2
        go_loopg [9] i (fun ky t wy => ∃ (j : Nat) (U V : List Nat), j ≤ ky ∧ a ≤ j ∧ j ≤ i ∧ t = .int .i64 j ∧ Hid (C1 = U ++ V ∧ a + U.length = j ∧ (∀ v ∈ V, Bef κ x v) ∧ Pr wy B b g c N (P ++ (U ++ x :: (V ++ (X3 ++ S)))) ∧ Aside (fun k => k = g) w wy))
        case atStart =>
          obtain ⟨k1, k2, k3, k4, k5⟩ := HH.out
          exact ⟨i, C1, [], Nat.le_refl _, by omega, Nat.le_refl _, rfl, Lib.hid ⟨by simp, by rw [k3.1.length_eq]; exact k2, fun v hv => by simp at hv, by simpa using k4, k5⟩⟩
        case round =>
          obtain ⟨j, U, V, hj, haj, hji, rfl, HV⟩ := hrel
          obtain ⟨k1, k2, k3, k4, k5⟩ := HH.out
          obtain ⟨l1, l2, l3, l4, l5⟩ := HV.out
          have HM := Lib.hid (show (∀ y ∈ U, Bef κ y x) → Mrg κ (U ++ x :: V) (X1 ++ [x]) from fun hu => Mrg.step (by rw [← l1]; exact k3) hu l3)
          have HX1 := Lib.hid (show X = (X1 ++ [x]) ++ X3 ∧ a + (X1 ++ [x]).length = i + 1 from ⟨by rw [k1]; simp, by simp; omega⟩)
          have HR := Lib.hid (show Pr wr B b g c N (P ++ ((U ++ x :: V) ++ (X3 ++ S))) ∧ Aside (fun k => k = g) w wr from ⟨by simpa using l4, l5⟩)
          have hlx : i < N := by have := l4.len; simp at this; omega
          by_cases hja : a < j
          · obtain ⟨U1, u, rfl⟩ : ∃ l y, U = l ++ [y] := by
              rcases List.eq_nil_or_concat U with rfl | ⟨l, y, rfl⟩
              · simp at l2; omega
              · exact ⟨l, y, by simp⟩
            obtain ⟨j1, hj1⟩ : ∃ k, k + 1 = j := ⟨j - 1, by omega⟩
            have hU1 : a + U1.length = j1 := by simp at l2; omega
            have eL : P ++ (U1 ++ [u] ++ x :: (V ++ (X3 ++ S))) = (P ++ U1) ++ u :: ([] ++ x :: (V ++ (X3 ++ S))) := by simp
            obtain ⟨_, s1, s2, s3, _⟩ := swap_two (P ++ U1) [] (V ++ (X3 ++ S)) u x j1 j (by rw [List.length_append]; omega) (by rw [List.length_append]; simp; omega)
            have l4' := l4
            rw [eL] at l4'
            have c1 := l4'.at_ j1 (by omega) u s2
            have c2 := l4'.at_ j (by omega) x s3
            have hux : x < u := by
              have hd := HX.out.2
              rw [k1] at hd
              exact (Dns.app.mp hd).2.2 u (k3.1.mem_iff.mp (by rw [l1]; simp)) x (by simp)
            have hXM := HX.out.1
            have hL : ∀ n, Calls Tryz.prog 59 #[pe b x, pe b u] (wr.drewN n) fun e w' => e = .returned (.int .i64 (cmpV (κ x) (κ u))) ∧ ∃ q, w' = (wr.drewN n).drewN q := fun n =>
              less_any (N := M) (H.out.2.aside (l5.trans (Aside.drewN _ n)) hg) x u (hXM x (by rw [k1]; simp)) (hXM u (by rw [k1]; exact List.mem_append_left _ (k3.1.mem_iff.mp (by rw [l1]; simp))))
            obtain ⟨r, hr⟩ : ∃ r, cmpV (κ x) (κ u) = r := ⟨_, rfl⟩
            rw [hr] at hL
            have HL := Lib.hid hL
            have v1 : (j : Int) - 1 = (j1 : Int) := by omega
            have w1 : IntKind.i64.wrap ((j : Int) - 1) = (j1 : Int) := by rw [IntWalk.i64_in _ (by omega)]; omega
            have w2 : IntKind.i64.wrap (j1 : Int) = (j1 : Int) := IntWalk.i64_in _ (by omega)
            have b1 : j1 < N := by omega
            have b2 : j < N := by omega
            have hrx : r < 0 ↔ Bef κ x u := by rw [← hr, cmpV_neg, bef_lt hux]
            have HB := Lib.hid hrx
            have HUX := Lib.hid (show x ≠ u by omega)
            have HJ := Lib.hid (And.intro hj1 (And.intro hU1 (And.intro hj (And.intro hji haj))))
            have HV3 := Lib.hid l3
            have HC1 := Lib.hid (And.intro l1 k3.2)
            have HL4 := Lib.hid (And.intro l4' (And.intro s1 l5))
            clear hj1 hU1 k1 k2 k3 k4 k5 l1 l2 l3 l4 l4' l5 eL s1 s2 s3 hux hXM hL hr hrx hj hji haj hlx
            by_cases hr0 : r < 0
            · unfold pe at HL c1 c2
              go_wp2
              go_quiet ((go_at_call 59; exact Calls.quiet_of (HL.out _)))
              obtain ⟨W, hW⟩ : ∃ X, wr.drewN nq = X := ⟨_, rfl⟩
              have hRW : Pr W B b g c N ((P ++ U1) ++ u :: ([] ++ x :: (V ++ (X3 ++ S)))) ∧ Aside (fun k => k = g) w W := by rw [← hW]; exact ⟨HL4.out.1, HL4.out.2.2.trans (Aside.drewN _ _)⟩
              rw [hW]
              clear hW c1 c2
              obtain ⟨s1, s2, s3⟩ := (swap_two (P ++ U1) [] (V ++ (X3 ++ S)) u x j1 j (by have := HJ.out; rw [List.length_append]; omega) (by have := HJ.out; rw [List.length_append]; simp; omega)).2
              have c1 := hRW.1.at_ j1 b1 u s2
              have c2 := hRW.1.at_ j b2 x s3.1
              have c3 := (hRW.1.set j u).at_ j1 b1 u (by rw [List.getElem?_set, if_neg (by omega)]; exact s2)
              have f1 := hRW.1.fz j
              have f2 := (hRW.1.set j u).fz j1
              have HRW := Lib.hid (show Pr ((W.setCell ⟨g, j, none⟩ (pe b u)).setCell ⟨g, j1, none⟩ (pe b x)) B b g c N (P ++ (U1 ++ x :: ((u :: V) ++ (X3 ++ S)))) ∧ Aside (fun k => k = g) w ((W.setCell ⟨g, j, none⟩ (pe b u)).setCell ⟨g, j1, none⟩ (pe b x)) from
                ⟨by have := (hRW.1.set j u).set j1 x; rw [s1] at this; simpa using this, (hRW.2.trans (Aside.setCell _ _ rfl)).trans (Aside.setCell _ _ rfl)⟩)
              clear hRW s1 s2 s3
              unfold pe at *
              go_wp2
              go_region
              go_wp2
              go_roundg j1
              case rel =>
                have := HJ.out
                exact ⟨j1, U1, u :: V, Nat.le_refl _, by omega, by omega, rfl, Lib.hid ⟨by rw [HC1.out.1]; simp, by omega, fun v hv => by
                  rcases List.mem_cons.mp hv with rfl | hv
                  · exact HB.out.mp hr0
                  · exact HV3.out v hv, HRW.out.1, HRW.out.2.trans (Aside.drewN _ 1)⟩⟩
              case measure => have := HJ.out; omega
            · unfold pe at HL c1 c2
              go_wp2
              go_quiet ((go_at_call 59; exact Calls.quiet_of (HL.out _)))
              go_wp2
              go_roundg (z - (i + 1))
              case rel =>
                refine ⟨i + 1, _, _, X3, by omega, by omega, by go_num, Lib.hid ⟨HX1.out.1, HX1.out.2, HM.out (fun y hy => ?_), HR.out.1, HR.out.2.trans (Aside.drewN _ _)⟩⟩
                have hub : Bef κ u x := Bef.total HUX.out (fun h => by have := HB.out.mpr h; omega)
                have hC := HC1.out.2
                rw [HC1.out.1] at hC
                have hU := (Ups.app.mp hC).1
                rcases List.mem_append.mp hy with hy | hy
                · exact ((Ups.app.mp hU).2.2 y hy u (by simp)).trans hub
                · obtain rfl := List.mem_singleton.mp hy
                  exact hub
              case measure => omega
          · have hd : decide ((a : Int) < j) = false := by simpa using hja
            have e1 : U = [] := List.length_eq_zero_iff.mp (by omega)
            subst e1
            clear k1 k2 k3 k4 k5 l1 l2 l3 l4 l5
            go_wp2
            go_quiet (fail)
            go_wp2
            go_roundg (z - (i + 1))
            case rel =>
              exact ⟨i + 1, _, _, X3, by omega, by omega, by go_num, Lib.hid ⟨HX1.out.1, HX1.out.2, HM.out (fun y hy => by simp at hy), HR.out.1, HR.out.2.trans (Aside.drewN _ _)⟩⟩
            case measure => omega
      · go_wp2
        go_end0
        obtain ⟨k1, k2, k3, k4, k5⟩ := HH.out
        have e1 : X2 = [] := List.length_eq_zero_iff.mp (by rw [k1, List.length_append] at hz; omega)
        subst e1
        exact ⟨rfl, _, ⟨C1, by simp, by rw [k1]; simpa using k3⟩, k4, k5⟩
end Go.Proofs.YteegekpanadmkaaGreat
