/-
  Cells of a block; append to a row of fields.
-/
import Derived.Test.YtkoohdacneflfaaGreatDoorZ04
namespace Go.Proofs.YtkoohdacneflfaaGreatDoor
open Go.RowKit Go.Shelf
set_option linter.unusedVariables false
set_option linter.unusedSimpArgs false
set_option maxRecDepth 100000

/-- Cells of a block, none of them frozen. -/
structure Cel (w : World) (q : Nat) (l : List Value) : Prop where
  c : ∀ j (h : j < l.length), w.cell? ⟨q, j, none⟩ = some l[j]
  fz : ∀ j, w.frozen? ⟨q, j, none⟩ = false
section
variable {w w' : World} {q : Nat} {l : List Value}
theorem Cel.lt (h : Cel w q l) (h0 : 0 < l.length) : q < w.heap.size := World.block_lt_of_cell? w ⟨q, 0, none⟩ (h.c 0 h0)
theorem Cel.aside {G : Nat → Prop} (h : Cel w q l) (h0 : 0 < l.length) (ha : Aside G w w') (hg : ¬ G q) : Cel w' q l :=
  ⟨fun j hj => ha.cell_lt (h.c j hj) hg, fun j => (ha.frozen (p := ⟨q, j, none⟩) (h.lt h0) hg).trans (h.fz j)⟩
theorem Cel.below (h : Cel w q l) (h0 : 0 < l.length) (hb : Below w.heap.size w w') : Cel w' q l := h.aside (G := fun _ => False) h0 (Aside.of_all hb) (fun h => h)
theorem Cel.set (h : Cel w q l) {o : Nat} (ho : o < l.length) (v : Value) : Cel (w.setCell ⟨q, o, none⟩ v) q (l.set o v) := by
  refine ⟨fun j hj => ?_, fun j => by rw [World.frozen?_setCell]; exact h.fz j⟩
  rw [List.length_set] at hj
  by_cases hjo : o = j
  · subst hjo
    rw [List.getElem_set_self]
    exact World.cell?_setCell_same _ _ _ (h.c o ho)
  · rw [List.getElem_set_ne hjo, World.cell?_setCell_other _ _ _ _ (fun e => hjo (congrArg Addr.off e))]
    exact h.c j hj
theorem Cel.two {a b : Value} (h : Cel w q [a, b]) : w.cell? ⟨q, 0, none⟩ = some a ∧ w.cell? ⟨q, 1, none⟩ = some b := ⟨h.c 0 (by simp), h.c 1 (by simp)⟩
theorem Cel.four {a b c d : Value} (h : Cel w q [a, b, c, d]) : w.cell? ⟨q, 0, none⟩ = some a ∧ w.cell? ⟨q, 1, none⟩ = some b ∧ w.cell? ⟨q, 2, none⟩ = some c ∧ w.cell? ⟨q, 3, none⟩ = some d :=
  ⟨h.c 0 (by simp), h.c 1 (by simp), h.c 2 (by simp), h.c 3 (by simp)⟩
end
theorem cel_new4 (w : World) (a b c d : Value) (T : TypeId) : Cel (w.alloc (.cells #[a, b, c, d] T)) w.heap.size [a, b, c, d] := ⟨fun j hj => by
    match j, hj with
    | 0, _ => simp [go_sem]
    | 1, _ => simp [go_sem]
    | 2, _ => simp [go_sem]
    | 3, _ => simp [go_sem], fun j => by simp [go_sem]⟩
theorem cel_new2 (w : World) (a b : Value) (T : TypeId) : Cel (w.alloc (.cells #[a, b] T)) w.heap.size [a, b] := ⟨fun j hj => by
    match j, hj with
    | 0, _ => simp [go_sem]
    | 1, _ => simp [go_sem], fun j => by simp [go_sem]⟩
theorem cel_new1 (w : World) (a : Value) (T : TypeId) : Cel (w.alloc (.cells #[a] T)) w.heap.size [a] := ⟨fun j hj => by
    match j, hj with
    | 0, _ => simp [go_sem], fun j => by simp [go_sem]⟩
/-- Four cells stored one after another. -/
def put4 (w : World) (q : Nat) (b0 b1 b2 b3 : Value) : World :=
  (((w.setCell ⟨q, 0, none⟩ b0).setCell ⟨q, 1, none⟩ b1).setCell ⟨q, 2, none⟩ b2).setCell ⟨q, 3, none⟩ b3
theorem cel_put4 {w : World} {q : Nat} {a0 a1 a2 a3 : Value} (h : Cel w q [a0, a1, a2, a3]) (b0 b1 b2 b3 : Value) : Cel (put4 w q b0 b1 b2 b3) q [b0, b1, b2, b3] := by
  have := (((h.set (o := 0) (by simp) b0).set (o := 1) (by simp) b1).set (o := 2) (by simp) b2).set (o := 3) (by simp) b3
  simp only [List.set_cons_zero, List.set_cons_succ] at this
  exact this
theorem aside_put4 (w : World) (q : Nat) (b0 b1 b2 b3 : Value) : Aside (fun k => k = q) w (put4 w q b0 b1 b2 b3) := by
  have st : ∀ (x : World) (o : Nat) (v : Value), Aside (fun k => k = q) x (x.setCell ⟨q, o, none⟩ v) := fun x o v => Aside.setCell x (p := ⟨q, o, none⟩) v rfl
  exact (((st _ _ _).trans (st _ _ _)).trans (st _ _ _)).trans (st _ _ _)

/-! ### rows of fields -/
theorem info_fd : (Tryz.prog.info? 71).map (fun i => (i.zero, i.size, i.bytes)) = some (some (.agg #[.string ⟨#[]⟩, .string ⟨#[]⟩]), 2, 32) := by kernel_rfl
theorem info_parts' {o : Option TypeInfo} {z : Value} {k b : Nat} (h : o.map (fun i => (i.zero, i.size, i.bytes)) = some (some z, k, b)) : ∃ i, o = some i ∧ i.zero = some z ∧ i.size = k ∧ i.bytes = b := by
  cases o with
  | none => cases h
  | some i =>
    simp only [Option.map_some, Option.some.injEq, Prod.mk.injEq] at h
    exact ⟨i, rfl, h.1, h.2.1, h.2.2⟩
theorem run_appF {w : World} {B hi : Nat} {v u : Value} {l m : List Fd} (h : OwnF w B v l) (hx : SF w hi u m) (hnm : l.length + m.length ≤ 1000000) (hB : B ≤ w.heap.size) :
    ∃ a' c' w', (Builtin.append_ #[40, 40] 40 #[v, u]).run Tryz.prog w = .ok (.slice a' (l.length + m.length) c') w' ∧ OwnF w' B (.slice a' (l.length + m.length) c') (l ++ m) ∧ Aside (fun b => v.ownBlock = some b) w w' ∧
      ((Value.slice a' (l.length + m.length) c').ownBlock = v.ownBlock ∨ (Value.slice a' (l.length + m.length) c').ownBlock = some w.heap.size) := by
  obtain ⟨i0, hi, hz0, hz1, hz2⟩ := info_parts' info_fd
  obtain ⟨a', c', w', r1, r2, r3, r4⟩ := row_more 32 Tryz.underlying40 hi hz0 hz1 hz2 (by rfl) (by decide) (by decide) h hx (by rw [acf_len]) (acf_one m) hnm hB
  exact ⟨a', c', w', r1, by unfold OwnF; rw [acf_app, List.length_append]; exact r2, r3, r4⟩
theorem sf_one (w : World) (x : Fd) : SF (w.alloc (.cells #[.string (bs x.1), .string (bs x.2)] 71)) (w.heap.size + 1) (.slice (some ⟨w.heap.size, 0, none⟩) 1 1) [x] :=
  ⟨_, 1, rfl, by simp, fun h => by simp at h, fun _ => ⟨w.heap.size, 0, rfl, by omega, fun i u hu => by
    have hc := cel_new2 w (.string (bs x.1)) (.string (bs x.2)) 71
    rw [Nat.zero_add]
    match i, hu with
    | 0, hu => rw [hc.c 0 (by simp)]; simpa [acf, cf] using hu
    | 1, hu => rw [hc.c 1 (by simp)]; simpa [acf, cf] using hu
    | i + 2, hu => simp [acf, cf] at hu⟩⟩
theorem OwnF.sf {w : World} {B : Nat} {v : Value} {l : List Fd} (h : OwnF w B v l) (hl : l.length ≤ 1000000) : SF w w.heap.size v l := Lst.own h hl

/-- An append of one field, in a walk. -/
theorem wpList_appF {w : World} {ops : Array Oper} {rest : List Oper} {o : Oper} {a : Act} {Q : Exit → Act → World → Prop} (hgd : o.guard = .none) (s x : Operand)
    (ho : o.op = .call { callee := .builtin .append, args := #[s, x], argTypes := #[40, 40] }) (hty : o.type = 40)
    (B hi : Nat) (v xv : Value) (l l' : List Fd) (hs : a.eval s = v) (hx : a.eval x = xv) (hown : OwnF w B v l) (hsl : SF w hi xv l') (hb : l.length + l'.length ≤ 1000000) (hB : B ≤ w.heap.size)
    (h : ∀ a' c' w', Hid (OwnF w' B (.slice a' (l.length + l'.length) c') (l ++ l')) → Hid (Below B w w') → wpList Tryz.prog ops Q rest (a.put o.dst (.slice a' (l.length + l'.length) c')) w') : wpList Tryz.prog ops Q (o :: rest) a w := by
  obtain ⟨a', c', w', h1, h2, h3, _⟩ := run_appF hown hsl hb hB
  have hlt := World.ownsRow.lt hown
  exact wpList_append_run s x 40 40 ho hgd hs hx (by rw [hty]; exact h1) (h a' c' w' h2 (below_aside (Below.refl _ _) h3 fun k hk => ⟨by omega, fun h => by have := (hlt k h).1; omega⟩))
end Go.Proofs.YtkoohdacneflfaaGreatDoor

/-
  The values of all fields of a name.
-/
namespace Go.Proofs.YtkoohdacneflfaaGreatDoor
open Go.RowKit Go.Shelf
set_option linter.unusedVariables false
set_option linter.unusedSimpArgs false
set_option maxRecDepth 100000

theorem vals_step (l : List Fd) (name : List UInt8) (k : Nat) (hk : k < l.length) : vals (l.take (k + 1)) name = vals (l.take k) name ++ if sameN l[k].1 name then [l[k].2] else [] := by
  unfold vals
  rw [List.take_add_one, List.getElem?_eq_getElem hk, List.filter_append, List.map_append]
  congr 1
  simp only [Option.toList_some, List.filter_cons, List.filter_nil]
  split <;> rfl
theorem vals_len (l : List Fd) (name : List UInt8) : (vals l name).length ≤ l.length := by
  unfold vals
  rw [List.length_map]
  exact List.length_filter_le _ _
theorem AtF.keep {w w' : World} {b o : Nat} {x : Fd} (h : AtF w b o x) (hk : ∀ o, w'.cell? ⟨b, o, none⟩ = w.cell? ⟨b, o, none⟩) : AtF w' b o x := ⟨(hk _).trans h.1, (hk _).trans h.2⟩

/-- What values tells. -/
def ValPost (w : World) (L : List (List UInt8)) (e : Ending) (w' : World) : Prop := ∃ v, e = .returned v ∧ OwnT w' w.heap.size v L ∧ Below w.heap.size w w'

set_option maxHeartbeats 4000000 in
theorem values_any {w : World} {hi : Nat} {u : Value} {h : Hd} (name : List UInt8) (hh : Hv w hi u h) (h1 : hi ≤ w.heap.size) (hl : h.fs.length ≤ 900000) (hs : ∀ x ∈ h.fs, x.1.length ≤ 1000000000) :
    Calls Tryz.prog 81 #[u, .string (bs name)] w (ValPost w (vals h.fs name)) := by
  obtain ⟨m, t, v, l⟩ := h
  obtain ⟨sl, rfl, hs0⟩ := hh
  simp only at hs0 hl hs ⊢
  have HN := Lib.hid hl
  have HL := Lib.hid hs
  obtain ⟨a, c, rfl⟩ := Lst.shape hs0
  obtain ⟨N, hN⟩ : ∃ N, w.heap.size = N := ⟨_, rfl⟩
  have hb0 : Below w.heap.size w (w.alloc (.cells #[.string (bs m), .string (bs t), .int .i64 v, .slice a l.length c] 42)) := (Below.refl _ _).alloc (Nat.le_refl _) _
  have hx := cel_new4 w (.string (bs m)) (.string (bs t)) (.int .i64 v) (.slice a l.length c) 42
  have HS := Lib.hid (show SF _ hi _ l from Lst.below hs0 hb0 h1)
  rw [hN] at hx hb0 h1
  have HB0 := Lib.hid hb0
  have HX := Lib.hid hx
  have hsz : (w.alloc (.cells #[.string (bs m), .string (bs t), .int .i64 v, .slice a l.length c] 42)).heap.size = N + 1 := by simp [hN]
  obtain ⟨W, hW⟩ : ∃ W, w.alloc (.cells #[.string (bs m), .string (bs t), .int .i64 v, .slice a l.length c] 42) = W := ⟨_, rfl⟩
  rw [hW] at HB0 HX HS hsz
  have HSZ := Lib.hid hsz
  have HH := Lib.hid h1
  obtain ⟨c0, c1, c2, c3⟩ := HX.out.four
  clear hs0 hb0 hx hsz h1 hl hs
  go_enter Tryz.func81, Tryz.ntmps81
  go_wp2_with fail
  clear c0 c1 c2 c3
  go_loopg [5, 11] l.length (fun g v5 v11 wr => ∃ k : Nat, k + g = l.length ∧ v11 = .int .i64 k ∧ Hid (OwnT wr W.heap.size v5 (vals (l.take k) name)) ∧ Hid (Below W.heap.size W wr))
  case atStart => exact ⟨0, by omega, rfl, OwnT.nil _ _, by first | exact Lib.hid (Below.refl _ _) | (rw [hW]; exact Lib.hid (Below.refl _ _))⟩
  case round =>
    obtain ⟨k, hk, rfl, HO, HB⟩ := hrel
    obtain ⟨a5, c5, rfl⟩ := HO.out.shape
    have hkb : k ≤ 900000 := by have := HN.out; omega
    by_cases hlt : k < l.length
    · obtain ⟨b, off, c2, he, hb, hc⟩ := HS.out.at_ k hlt
      injection he with he hn3 hc3
      clear hn3 hc3
      subst he
      obtain ⟨p0, p1⟩ := hc.keep fun o => HB.out.cell (p := ⟨b, o, none⟩) (by have := HSZ.out; have := HH.out; show b < W.heap.size; omega)
      have hvs := vals_step l name k hlt
      have hln := HL.out l[k] (List.getElem_mem hlt)
      obtain ⟨x, hx⟩ : ∃ x, l[k] = x := ⟨_, rfl⟩
      rw [hx] at p0 p1 hvs hln
      clear hc hx hb
      have HB1 := Lib.hid (show Below W.heap.size W (wr.alloc (.cells #[.string (bs x.1), .string (bs x.2)] 71)) from HB.out.alloc HB.out.size _)
      have HO1 := Lib.hid (HO.out.below ((Below.refl wr.heap.size wr).alloc (Nat.le_refl _) (.cells #[.string (bs x.1), .string (bs x.2)] 71)))
      have HX1 := Lib.hid (cel_new2 wr (.string (bs x.1)) (.string (bs x.2)) 71)
      have HSM := Lib.hid (same_any2 x.1 name hln (wr.alloc (.cells #[.string (bs x.1), .string (bs x.2)] 71)))
      obtain ⟨S, hS⟩ : ∃ S, sameN x.1 name = S := ⟨_, rfl⟩
      rw [hS] at HSM hvs
      have HVS := Lib.hid hvs
      clear hS hvs hln HB
      cases S with
      | true =>
        have hvs := HVS.out
        rw [if_pos rfl] at hvs
        replace HVS := Lib.hid hvs
        have hbl : (vals (l.take k) name).length + 1 ≤ 1000000 := by have := vals_len (l.take k) name; rw [List.length_take] at this; have := HN.out; omega
        clear hvs
        go_wp2_with fail
        refine (HSM.out).mono ?_; rintro e w2 ⟨rfl, hb2⟩
        have HB2 := Lib.hid (HB1.out.trans (hb2.mono HB1.out.size))
        have HO2 := Lib.hid (HO1.out.below hb2)
        obtain ⟨q0, q1⟩ := (HX1.out.below (by simp) hb2).two
        clear hb2 HX1
        go_wp2_with (at_builtin; refine wpList_appT rfl (.tmp 19) (.tmp 22) rfl rfl W.heap.size ?l1 ?h1 _ _ (vals (l.take k) name) [x.2] rfl rfl ?a1 ?b1 ?c1 ?d1 ?_)
        case l1 => exact w2.heap.size
        case h1 => exact w2.heap.size + 1
        case a1 => exact HO2.out.below ((Below.refl _ _).alloc (Nat.le_refl _) _)
        case b1 => exact st_one w2 x.2
        case c1 => simpa using hbl
        case d1 => have := HB2.out.size; simp; omega
        intro a' c' w' HO3 hb3
        have HB3 := Lib.hid ((HB2.out.alloc HB2.out.size _).trans hb3.out)
        have HO4 := Lib.hid (show OwnT w' W.heap.size _ (vals (l.take (k + 1)) name) by rw [HVS.out]; exact HO3.out)
        have hlen : (vals (l.take (k + 1)) name).length = (vals (l.take k) name).length + 1 := by rw [HVS.out]; simp
        clear hb3 HO3
        go_wp2_with fail
        go_roundg (l.length - (k + 1))
        case measure => omega
        case rel => exact ⟨k + 1, by omega, by go_num, HO4, HB3⟩
      | false =>
        have HVS2 := Lib.hid (show vals (l.take (k + 1)) name = vals (l.take k) name by rw [HVS.out]; simp)
        go_wp2_with fail
        refine (HSM.out).mono ?_; rintro e w2 ⟨rfl, hb2⟩
        have HB2 := Lib.hid (HB1.out.trans (hb2.mono HB1.out.size))
        have HO2 := Lib.hid (HO1.out.below hb2)
        clear hb2 HX1
        go_wp2_with fail
        go_roundg (l.length - (k + 1))
        case measure => omega
        case rel => exact ⟨k + 1, by omega, by go_num, by rw [HVS2.out]; exact HO2, HB2⟩
    · have t1 : ¬ ((k : Int) < l.length) := by omega
      have hke : k = l.length := by omega
      subst hke
      have hO := HO.out
      rw [List.take_length] at hO
      have HO2 := Lib.hid (hO.mono (B' := w.heap.size) (by rw [hN, HSZ.out]; omega))
      have HBB := Lib.hid (HB0.out.trans (HB.out.mono (by rw [HSZ.out]; omega)))
      rw [List.take_length] at *
      clear hO HO
      go_wp2_with fail
      go_ret
      exact ⟨_, rfl, HO2.out, by rw [hN]; exact HBB.out⟩
end Go.Proofs.YtkoohdacneflfaaGreatDoor

/-
  The first value of a name, how many there are; hosts: as landed, as the document has them.
-/
namespace Go.Proofs.YtkoohdacneflfaaGreatDoor
open Go.RowKit Go.Shelf
set_option linter.unusedVariables false
set_option linter.unusedSimpArgs false
set_option maxRecDepth 100000

/-- A head's fields are no longer than memory. -/
def Fits (h : Hd) : Prop := h.fs.length ≤ 900000 ∧ ∀ x ∈ h.fs, x.1.length ≤ 900000 ∧ x.2.length ≤ 140737488351232
theorem Fits.n {h : Hd} (hf : Fits h) : ∀ x ∈ h.fs, x.1.length ≤ 1000000000 := fun x hx => by have := (hf.2 x hx).1; omega
theorem vals_mem {l : List Fd} {name v : List UInt8} (h : v ∈ vals l name) : ∃ x ∈ l, v = x.2 := by
  unfold vals at h
  obtain ⟨x, hx, rfl⟩ := List.mem_map.mp h
  exact ⟨x, (List.mem_filter.mp hx).1, rfl⟩

theorem st_at {w : World} {lo hi c : Nat} {a : Option Addr} {l : List (List UInt8)} (h : St w lo hi (.slice a l.length c) l) : 0 < l.length → ∃ b off, a = some ⟨b, off, none⟩ ∧ lo ≤ b ∧ b < hi ∧ ∀ j (hj : j < l.length), w.cell? ⟨b, off + j, none⟩ = some (.string (bs l[j])) := by
  intro h0
  obtain ⟨b, off, e, h1, h2, h3⟩ := h.cell h0
  refine ⟨b, off, e, h1, h2, fun j hj => ?_⟩
  rw [h3 j hj, List.getD, List.getElem?_eq_getElem hj]
  rfl

theorem clone_big (s : ByteArray) (hs : s.size ≤ 140737488351232) (w : World) : Calls Tryz.prog 82 #[.string s] w (Tells w (.string s)) := by
  have H := Lib.hid (fun w => Tryz.stringslite_Clone s w (by omega))
  go_enter Tryz.func82, Tryz.ntmps82
  go_wp2_with (go_at_call 103; refine (H.out _).mono ?_; rintro e w1 ⟨rfl, hb⟩; have HB := Lib.hid hb; clear hb)
  go_ret
  exact ⟨rfl, HB.out⟩

set_option maxHeartbeats 4000000 in
theorem field_any {w : World} {hi : Nat} {u : Value} {h : Hd} (name : List UInt8) (hh : Hv w hi u h) (h1 : hi ≤ w.heap.size) (hf : Fits h) :
    Calls Tryz.prog 51 #[u, .string (bs name)] w (Tells w (.tuple #[.string (bs (fldH h.fs name).1), .int .i64 (fldH h.fs name).2])) := by
  obtain ⟨m, t, v, l⟩ := h
  have HF := Lib.hid hf
  have HH := Lib.hid hh
  obtain ⟨sl, rfl, hs0⟩ := hh
  have hb0 : Below w.heap.size w (w.alloc (.cells #[.string (bs m), .string (bs t), .int .i64 v, sl] 42)) := (Below.refl _ _).alloc (Nat.le_refl _) _
  have HB0 := Lib.hid hb0
  have HV := Lib.hid (values_any name (HH.out.below hb0 h1) (Nat.le_trans h1 hb0.size) hf.1 hf.n)
  have HM := Lib.hid (fun x (h : x ∈ vals l name) => vals_mem h)
  unfold fldH
  simp only at HV ⊢
  obtain ⟨L, hL⟩ : ∃ L, vals l name = L := ⟨_, rfl⟩
  rw [hL] at HV HM ⊢
  clear hs0 hb0 hf hL
  go_enter Tryz.func51, Tryz.ntmps51
  go_wp2_with fail
  refine (HV.out).mono ?_; rintro e w2 ⟨r, rfl, ho, hb2⟩
  have HB2 := Lib.hid (HB0.out.trans (hb2.mono HB0.out.size))
  have HO := Lib.hid ho
  clear hb2 ho
  obtain ⟨a, c, rfl⟩ := HO.out.shape
  cases L with
  | nil =>
    go_wp2_with fail
    go_ret2
    exact ⟨rfl, HB2.out⟩
  | cons y r =>
    have t1 : ((((y :: r).length : Nat) : Int) == 0) = false := by rw [beq_eq_false_iff_ne, List.length_cons]; omega
    obtain ⟨g, off, rfl, _, _, hc⟩ := st_at HO.out.st (by simp)
    have c0 := hc 0 (by simp)
    simp only [Nat.add_zero, List.getElem_cons_zero] at c0
    have hy : (bs y).size ≤ 140737488351232 := by
      obtain ⟨x, hx, e⟩ := HM.out y (by simp)
      have := (HF.out.2 x hx).2
      rw [bs_size, e]; omega
    have HC := Lib.hid (clone_big (bs y) hy w2)
    clear hc hy HV HM
    go_wp2_with fail
    refine (HC.out).mono ?_; rintro e w3 ⟨rfl, hb3⟩
    have HB3 := Lib.hid (bel_call HB2.out hb3)
    clear hb3
    go_wp2_with fail
    go_ret2
    exact ⟨rfl, HB3.out⟩

set_option maxHeartbeats 4000000 in
theorem rfield_any {w : World} {hi : Nat} {u : Value} {h : Hd} (name : List UInt8) (hh : Hv w hi u h) (h1 : hi ≤ w.heap.size) (hf : Fits h) :
    Calls Tryz.prog 38 #[u, .string (bs name)] w (Tells w (.tuple #[.string (bs (fldH h.fs name).1), .int .i64 (fldH h.fs name).2])) := by
  obtain ⟨m, t, v, l⟩ := h
  obtain ⟨sl, rfl, hs0⟩ := hh
  unfold Fits at hf
  unfold fldH
  simp only at hs0 hf ⊢
  have HF := Lib.hid hf
  obtain ⟨a, c, rfl⟩ := Lst.shape hs0
  obtain ⟨N, hN⟩ : ∃ N, w.heap.size = N := ⟨_, rfl⟩
  have hb0 : Below w.heap.size w (w.alloc (.cells #[.string (bs m), .string (bs t), .int .i64 v, .slice a l.length c] 42)) := (Below.refl _ _).alloc (Nat.le_refl _) _
  have hx := cel_new4 w (.string (bs m)) (.string (bs t)) (.int .i64 v) (.slice a l.length c) 42
  have HS := Lib.hid (show SF _ hi _ l from Lst.below hs0 hb0 h1)
  rw [hN] at hx hb0 h1
  have HB0 := Lib.hid hb0
  have HX := Lib.hid hx
  have hsz : (w.alloc (.cells #[.string (bs m), .string (bs t), .int .i64 v, .slice a l.length c] 42)).heap.size = N + 1 := by simp [hN]
  obtain ⟨W, hW⟩ : ∃ W, w.alloc (.cells #[.string (bs m), .string (bs t), .int .i64 v, .slice a l.length c] 42) = W := ⟨_, rfl⟩
  rw [hW] at HB0 HX HS hsz
  have HSZ := Lib.hid hsz
  have HH := Lib.hid h1
  clear hs0 hb0 hx hsz h1 hf
  go_enter Tryz.func38, Tryz.ntmps38
  go_wp2_with fail
  go_loopg [6, 7, 8] l.length (fun g v6 v7 v8 wr => ∃ (k : Nat) (L : List (List UInt8)), k + g = l.length ∧ v8 = .int .i64 k ∧ Hid (vals (l.take k) name = L) ∧ v6 = .string (bs (L.head?.getD [])) ∧ v7 = .int .i64 (L.length : Nat) ∧ Hid (Below W.heap.size W wr))
  case atStart => exact ⟨0, [], by omega, rfl, rfl, rfl, rfl, by first | exact Lib.hid (Below.refl _ _) | (rw [hW]; exact Lib.hid (Below.refl _ _))⟩
  case round =>
    obtain ⟨k, L, hk, rfl, HL, rfl, rfl, HB⟩ := hrel
    have hkb : k ≤ 900000 := by have := HF.out.1; omega
    have HLK := Lib.hid (show L.length ≤ k by have := vals_len (l.take k) name; rw [List.length_take, HL.out] at this; omega)
    obtain ⟨c0, c1, c2, c3⟩ := (HX.out.below (by simp) HB.out).four
    by_cases hlt : k < l.length
    · obtain ⟨b, off, c2', he, hb, hc⟩ := HS.out.at_ k hlt
      injection he with he hn3 hc3
      clear hn3 hc3
      subst he
      obtain ⟨p0, p1⟩ := hc.keep fun o => HB.out.cell (p := ⟨b, o, none⟩) (by have := HSZ.out; have := HH.out; show b < W.heap.size; omega)
      have hvs := vals_step l name k hlt
      rw [HL.out] at hvs
      have hln := HF.out.2 l[k] (List.getElem_mem hlt)
      have HAT := Lib.hid (And.intro hc (show b < W.heap.size by have := HSZ.out; have := HH.out; omega))
      obtain ⟨x, hx⟩ : ∃ x, l[k] = x := ⟨_, rfl⟩
      rw [hx] at p0 p1 hvs hln HAT
      have HSM := Lib.hid (rsame_any x.1 name (by omega) wr)
      obtain ⟨S, hS⟩ : ∃ S, sameN x.1 name = S := ⟨_, rfl⟩
      rw [hS] at HSM hvs
      have HVS := Lib.hid hvs
      clear hS hvs hln hc hx hb
      cases S with
      | true =>
        have hvs := HVS.out
        rw [if_pos rfl] at hvs
        replace HVS := Lib.hid hvs
        clear hvs
        go_wp2_with fail
        refine (HSM.out).mono ?_; rintro e w2 ⟨rfl, hb2⟩
        have HB2 := Lib.hid (HB.out.trans (hb2.mono HB.out.size))
        obtain ⟨d0, d1, d2, d3⟩ := (HX.out.below (by simp) HB2.out).four
        obtain ⟨q0, q1⟩ := HAT.out.1.keep fun o => HB2.out.cell (p := ⟨b, o, none⟩) HAT.out.2
        clear hb2 c0 c1 c2 c3 p0 p1
        cases L with
        | nil =>
          go_wp2_with fail
          go_roundg (l.length - (k + 1))
          case measure => omega
          case rel => exact ⟨k + 1, [x.2], by omega, by go_num, HVS, rfl, rfl, HB2⟩
        | cons y r =>
          have hll : r.length + 1 ≤ 900000 := by have := HLK.out; rw [List.length_cons] at this; omega
          have t1 : ((((y :: r).length : Nat) : Int) == 0) = false := by rw [beq_eq_false_iff_ne, List.length_cons]; omega
          go_wp2_with fail
          go_roundg (l.length - (k + 1))
          case measure => omega
          case rel => exact ⟨k + 1, (y :: r) ++ [x.2], by omega, by go_num, HVS, rfl, by simp only [List.length_append, List.length_cons, List.length_nil]; go_num, HB2⟩
      | false =>
        have HVS2 := Lib.hid (show vals (l.take (k + 1)) name = L by rw [HVS.out]; simp)
        go_wp2_with fail
        refine (HSM.out).mono ?_; rintro e w2 ⟨rfl, hb2⟩
        have HB2 := Lib.hid (HB.out.trans (hb2.mono HB.out.size))
        clear hb2 c0 c1 c2 c3 p0 p1
        go_wp2_with fail
        go_roundg (l.length - (k + 1))
        case measure => omega
        case rel => exact ⟨k + 1, L, by omega, by go_num, HVS2, rfl, rfl, HB2⟩
    · have t1 : ¬ ((k : Int) < l.length) := by omega
      have HLL := Lib.hid (show vals l name = L by rw [← HL.out, List.take_of_length_le (by omega)])
      have HBB := Lib.hid (HB0.out.trans (HB.out.mono (by rw [HSZ.out]; omega)))
      go_wp2_with fail
      go_ret2
      exact ⟨by rw [HLL.out]; simp only [List.headD_eq_head?_getD]; rfl, by rw [hN]; exact HBB.out⟩

set_option maxHeartbeats 1000000 in
theorem hosted_any {w : World} {hi : Nat} {u : Value} {h : Hd} (hh : Hv w hi u h) (h1 : hi ≤ w.heap.size) (hf : Fits h) :
    Calls Tryz.prog 70 #[u] w (Tells w (.bool (hostL h.fs h.v))) := by
  have HH := Lib.hid hh
  obtain ⟨m, t, v, l⟩ := h
  obtain ⟨sl, rfl, hs0⟩ := hh
  have hb0 : Below w.heap.size w (w.alloc (.cells #[.string (bs m), .string (bs t), .int .i64 v, sl] 42)) := (Below.refl _ _).alloc (Nat.le_refl _) _
  have HB0 := Lib.hid hb0
  have HX := Lib.hid (cel_new4 w (.string (bs m)) (.string (bs t)) (.int .i64 v) sl 42)
  have HV := Lib.hid (field_any nHost (HH.out.below hb0 h1) (Nat.le_trans h1 hb0.size) hf)
  unfold fldH at HV
  unfold hostL
  simp only at HV ⊢
  obtain ⟨n, hn⟩ : ∃ n, (vals l nHost).length = n := ⟨_, rfl⟩
  obtain ⟨x, hx⟩ : ∃ x, (vals l nHost).headD [] = x := ⟨_, rfl⟩
  rw [hn, hx] at HV
  rw [hn]
  clear hs0 hb0 hf hn hx
  go_enter Tryz.func70, Tryz.ntmps70
  go_wp2_with fail
  refine (HV.out).mono ?_; rintro e w2 ⟨rfl, hb2⟩
  have HB2 := Lib.hid (HB0.out.trans (hb2.mono HB0.out.size))
  obtain ⟨c0, c1, c2, c3⟩ := (HX.out.below (by simp) hb2).four
  clear hb2
  by_cases e1 : n = 1
  · subst e1
    go_wp2_with fail
    go_ret
    exact ⟨rfl, HB2.out⟩
  · by_cases e0 : n = 0
    · subst e0
      go_wp2_with fail
      go_ret
      exact ⟨rfl, HB2.out⟩
    · have t1 : ((n : Int) == 1) = false := by rw [beq_eq_false_iff_ne]; omega
      have t0 : ((n : Int) == 0) = false := by rw [beq_eq_false_iff_ne]; omega
      have s1 : (n == 1) = false := by rw [beq_eq_false_iff_ne]; omega
      have s0 : (n == 0) = false := by rw [beq_eq_false_iff_ne]; omega
      go_wp2_with fail
      go_ret
      exact ⟨by rw [s1, s0]; rfl, HB2.out⟩
end Go.Proofs.YtkoohdacneflfaaGreatDoor

/-
  The document's hosts; the version of a first line.
-/
namespace Go.Proofs.YtkoohdacneflfaaGreatDoor
open Go.RowKit Go.Shelf
set_option linter.unusedVariables false
set_option linter.unusedSimpArgs false
set_option maxRecDepth 100000

set_option maxHeartbeats 1000000 in
theorem rhosts_any {w : World} {hi : Nat} {u : Value} {h : Hd} (hh : Hv w hi u h) (h1 : hi ≤ w.heap.size) (hf : Fits h) :
    Calls Tryz.prog 61 #[u] w (Tells w (.bool (hostL h.fs h.v))) := by
  have HH := Lib.hid hh
  obtain ⟨m, t, v, l⟩ := h
  obtain ⟨sl, rfl, hs0⟩ := hh
  have hb0 : Below w.heap.size w (w.alloc (.cells #[.string (bs m), .string (bs t), .int .i64 v, sl] 42)) := (Below.refl _ _).alloc (Nat.le_refl _) _
  have HB0 := Lib.hid hb0
  have HX := Lib.hid (cel_new4 w (.string (bs m)) (.string (bs t)) (.int .i64 v) sl 42)
  have HV := Lib.hid (rfield_any nHost (HH.out.below hb0 h1) (Nat.le_trans h1 hb0.size) hf)
  unfold fldH at HV
  unfold hostL
  simp only at HV ⊢
  obtain ⟨n, hn⟩ : ∃ n, (vals l nHost).length = n := ⟨_, rfl⟩
  obtain ⟨x, hx⟩ : ∃ x, (vals l nHost).headD [] = x := ⟨_, rfl⟩
  rw [hn, hx] at HV
  rw [hn]
  clear hs0 hb0 hf hn hx
  go_enter Tryz.func61, Tryz.ntmps61
  go_wp2_with fail
  refine (HV.out).mono ?_; rintro e w2 ⟨rfl, hb2⟩
  have HB2 := Lib.hid (HB0.out.trans (hb2.mono HB0.out.size))
  obtain ⟨c0, c1, c2, c3⟩ := (HX.out.below (by simp) hb2).four
  clear hb2
  by_cases e1 : n = 1
  · subst e1
    go_wp2_with fail
    go_ret
    exact ⟨rfl, HB2.out⟩
  · by_cases e0 : n = 0
    · subst e0
      go_wp2_with fail
      go_ret
      exact ⟨rfl, HB2.out⟩
    · have t1 : ((n : Int) == 1) = false := by rw [beq_eq_false_iff_ne]; omega
      have t0 : ((n : Int) == 0) = false := by rw [beq_eq_false_iff_ne]; omega
      have s1 : (n == 1) = false := by rw [beq_eq_false_iff_ne]; omega
      have s0 : (n == 0) = false := by rw [beq_eq_false_iff_ne]; omega
      go_wp2_with fail
      go_ret
      exact ⟨by rw [s1, s0]; rfl, HB2.out⟩

theorem pre_take (l p : List UInt8) : p.isPrefixOf l = (l.take p.length == p) := by
  induction p generalizing l with
  | nil => simp
  | cons x p ih =>
    cases l with
    | nil => simp
    | cons y l =>
      rw [List.length_cons, List.take_succ_cons, List.isPrefixOf_cons_cons, ih, List.cons_beq_cons, BEq.comm (a := x)]
theorem bs_data (l : List UInt8) : (bs l).data.toList = l := rfl
theorem cutpre_any (l : List UInt8) (w : World) : Calls Tryz.prog 115 #[.string (bs l), .string ⟨#[72, 84, 84, 80, 47]⟩] w fun e w' =>
    e = .returned (.tuple #[.string (bs (if l.take 5 = http then l.drop 5 else l)), .bool (l.take 5 == http)]) ∧ w' = w := by
  have h := Tryz.strings_CutPrefix (bs l) ⟨#[72, 84, 84, 80, 47]⟩ w
  have e1 : Lib.hasPrefix (bs l).data.toList [72, 84, 84, 80, 47] = (l.take 5 == http) := by rw [bs_data]; exact pre_take l http
  have e2 : Lib.trimPrefix (bs l).data.toList [72, 84, 84, 80, 47] = if l.take 5 = http then l.drop 5 else l := by
    unfold Lib.trimPrefix
    rw [e1, bs_data]
    by_cases h : l.take 5 = http
    · rw [if_pos h, if_pos (by rw [h]; rfl)]; rfl
    · rw [if_neg h, if_neg (by simpa using h)]
  refine h.mono ?_
  rintro e w' ⟨rfl, rfl⟩
  refine ⟨?_, rfl⟩
  show Ending.returned (.tuple #[.string ⟨(Lib.trimPrefix (bs l).data.toList [72, 84, 84, 80, 47]).toArray⟩, .bool (Lib.hasPrefix (bs l).data.toList [72, 84, 84, 80, 47])]) = _
  rw [e1, e2]
  rfl

theorem verN_no {l : List UInt8} (h : l.length ≠ 3) : verN l = (0, 400) := by
  match l, h with
  | [], _ => rfl
  | [_], _ => rfl
  | [_, _], _ => rfl
  | [_, _, _], h => exact absurd rfl h
  | _ :: _ :: _ :: _ :: _, _ => rfl

set_option maxHeartbeats 2000000 in
theorem version_any (l : List UInt8) (hl : l.length ≤ 1000000000) (w : World) : Calls Tryz.prog 101 #[.string (bs l)] w (Tells w (.tuple #[.int .i64 (verL l).1, .int .i64 (verL l).2])) := by
  have HC := Lib.hid (cutpre_any l w)
  have HB := Lib.hid (Below.refl w.heap.size w)
  unfold verL
  by_cases h5 : l.take 5 = http
  · have e5 : (l.take 5 == http) = true := by rw [h5]; rfl
    rw [e5, if_pos h5] at HC
    rw [if_pos h5]
    have hnl : (l.drop 5).length ≤ 1000000000 := by rw [List.length_drop]; omega
    obtain ⟨n, hn⟩ : ∃ n, l.drop 5 = n := ⟨_, rfl⟩
    rw [hn] at HC hnl ⊢
    clear h5 e5 hn hl
    by_cases h3 : n.length = 3
    · obtain ⟨a, b, c, rfl⟩ : ∃ a b c, n = [a, b, c] := by
        match n, h3 with
        | [a, b, c], _ => exact ⟨a, b, c, rfl⟩
      have i1 := ix_run [a, b, c] 1 (by simp)
      have s1 := take_run [a, b, c] 1 (by simp)
      have s2 := from_run [a, b, c] 2 (by simp)
      have i1 : ∀ (w : World), (Instr.index 9 (.string (bs [a, b, c])) (.int .i64 1)).run Tryz.prog w = .ok (.int .u8 (b.toNat : Nat)) w := i1
      have s1 : ∀ (w : World), (Instr.slice 9 (.string (bs [a, b, c])) none (some (.int .i64 1)) none).run Tryz.prog w = .ok (.string (bs [a])) w := s1
      have s2 : ∀ (w : World), (Instr.slice 9 (.string (bs [a, b, c])) (some (.int .i64 2)) none none).run Tryz.prog w = .ok (.string (bs [c])) w := s2
      have HD1 := Lib.hid (fun w => digits_any [a] (by simp) w)
      have HD2 := Lib.hid (fun w => digits_any [c] (by simp) w)
      have HN : Hid (verN [a, b, c] = if onlyR dR [a] && (b == 46 && onlyR dR [c]) then (if [a, b, c] = [49, 46, 48] then (0, 200) else if [a, b, c] = [49, 46, 49] then (1, 200) else (0, 505)) else (0, 400)) := Lib.hid rfl
      obtain ⟨D1, hD1⟩ : ∃ D, onlyR dR [a] = D := ⟨_, rfl⟩
      obtain ⟨D2, hD2⟩ : ∃ D, onlyR dR [c] = D := ⟨_, rfl⟩
      rw [hD1] at HD1 HN
      rw [hD2] at HD2 HN
      clear hD1 hD2
      cases D1 with
      | false =>
        rw [HN.out]
        go_enter Tryz.func101, Tryz.ntmps101
        go_wp2_with fail
        refine (HC.out).mono ?_; rintro e w1 ⟨rfl, rfl⟩
        go_wp2_with fail
        refine (HD1.out _).mono ?_; rintro e w2 ⟨rfl, hb2⟩
        replace HB := Lib.hid hb2
        clear hb2
        go_wp2_with fail
        go_ret2
        exact ⟨rfl, HB.out⟩
      | true =>
        by_cases g2 : b = 46
        · have g2' : (b == 46) = true := by rw [g2]; rfl
          have t2 : ((b.toNat : Int) != 46) = false := by rw [g2]; rfl
          rw [g2'] at HN
          cases D2 with
          | false =>
            rw [HN.out]
            clear g2 g2'
            go_enter Tryz.func101, Tryz.ntmps101
            go_wp2_with fail
            refine (HC.out).mono ?_; rintro e w1 ⟨rfl, rfl⟩
            go_wp2_with fail
            refine (HD1.out _).mono ?_; rintro e w2 ⟨rfl, hb2⟩
            replace HB := Lib.hid hb2
            clear hb2
            go_wp2_with fail
            refine (tell_on HB (HD2.out _)).mono ?_; rintro e w3 ⟨rfl, HB3⟩
            go_wp2_with fail
            go_ret2
            exact ⟨rfl, HB3.out⟩
          | true =>
            by_cases g4 : [a, b, c] = [49, 46, 48]
            · rw [HN.out, if_pos (by rfl), if_pos g4]
              have q1 : ((bs [a, b, c]).toList == [49, 46, 48]) = true := by rw [bs_toList, g4]; rfl
              clear g2 g2' g4
              go_enter Tryz.func101, Tryz.ntmps101
              go_wp2_with fail
              refine (HC.out).mono ?_; rintro e w1 ⟨rfl, rfl⟩
              go_wp2_with fail
              refine (HD1.out _).mono ?_; rintro e w2 ⟨rfl, hb2⟩
              replace HB := Lib.hid hb2
              clear hb2
              go_wp2_with fail
              refine (tell_on HB (HD2.out _)).mono ?_; rintro e w3 ⟨rfl, HB3⟩
              go_wp2_with fail
              go_ret2
              exact ⟨rfl, HB3.out⟩
            · by_cases g5 : [a, b, c] = [49, 46, 49]
              · rw [HN.out, if_pos (by rfl), if_neg g4, if_pos g5]
                have q1 : ((bs [a, b, c]).toList == [49, 46, 48]) = false := by rw [bs_toList, g5]; rfl
                have q2 : ((bs [a, b, c]).toList == [49, 46, 49]) = true := by rw [bs_toList, g5]; rfl
                clear g2 g2' g4 g5
                go_enter Tryz.func101, Tryz.ntmps101
                go_wp2_with fail
                refine (HC.out).mono ?_; rintro e w1 ⟨rfl, rfl⟩
                go_wp2_with fail
                refine (HD1.out _).mono ?_; rintro e w2 ⟨rfl, hb2⟩
                replace HB := Lib.hid hb2
                clear hb2
                go_wp2_with fail
                refine (tell_on HB (HD2.out _)).mono ?_; rintro e w3 ⟨rfl, HB3⟩
                go_wp2_with fail
                go_ret2
                exact ⟨rfl, HB3.out⟩
              · rw [HN.out, if_pos (by rfl), if_neg g4, if_neg g5]
                have q1 : ((bs [a, b, c]).toList == [49, 46, 48]) = false := by rw [bs_toList]; simpa using g4
                have q2 : ((bs [a, b, c]).toList == [49, 46, 49]) = false := by rw [bs_toList]; simpa using g5
                clear g2 g2' g4 g5
                go_enter Tryz.func101, Tryz.ntmps101
                go_wp2_with fail
                refine (HC.out).mono ?_; rintro e w1 ⟨rfl, rfl⟩
                go_wp2_with fail
                refine (HD1.out _).mono ?_; rintro e w2 ⟨rfl, hb2⟩
                replace HB := Lib.hid hb2
                clear hb2
                go_wp2_with fail
                refine (tell_on HB (HD2.out _)).mono ?_; rintro e w3 ⟨rfl, HB3⟩
                go_wp2_with fail
                go_ret2
                exact ⟨rfl, HB3.out⟩
        · have g2' : (b == 46) = false := by simpa using g2
          have t2 : ((b.toNat : Int) != 46) = true := by
            rw [bne_iff_ne]
            intro e
            exact g2 (UInt8.toNat_inj.mp (by show b.toNat = 46; omega))
          rw [HN.out, g2']
          clear g2 g2'
          go_enter Tryz.func101, Tryz.ntmps101
          go_wp2_with fail
          refine (HC.out).mono ?_; rintro e w1 ⟨rfl, rfl⟩
          go_wp2_with fail
          refine (HD1.out _).mono ?_; rintro e w2 ⟨rfl, hb2⟩
          replace HB := Lib.hid hb2
          clear hb2
          go_wp2_with fail
          go_ret2
          exact ⟨rfl, HB.out⟩
    · have t3 : ((n.length : Int) != 3) = true := by rw [bne_iff_ne]; omega
      rw [verN_no h3]
      clear h3
      go_enter Tryz.func101, Tryz.ntmps101
      go_wp2_with fail
      refine (HC.out).mono ?_; rintro e w1 ⟨rfl, rfl⟩
      go_wp2_with fail
      go_ret2
      exact ⟨rfl, HB.out⟩
  · have e5 : (l.take 5 == http) = false := by simpa using h5
    rw [e5, if_neg h5] at HC
    rw [if_neg h5]
    clear h5 e5
    go_enter Tryz.func101, Tryz.ntmps101
    go_wp2_with fail
    refine (HC.out).mono ?_; rintro e w1 ⟨rfl, rfl⟩
    go_wp2_with fail
    go_ret2
    exact ⟨rfl, HB.out⟩
end Go.Proofs.YtkoohdacneflfaaGreatDoor

/-
  The words of a line; the first line.
-/
namespace Go.Proofs.YtkoohdacneflfaaGreatDoor
open Go.RowKit Go.Shelf
set_option linter.unusedVariables false
set_option linter.unusedSimpArgs false
set_option maxRecDepth 100000

theorem splitB_spl (l : List UInt8) (c : UInt8) : Lib.splitB ⟨#[c]⟩ 0 (Lib.countB (bs l) ⟨#[c]⟩) (bs l) = (spl c l).map bs := by
  have h := Lib.splitB_data ⟨#[c]⟩ 0 (Lib.countB (bs l) ⟨#[c]⟩) (bs l)
  have e : Lib.splitK [c] 0 (Lib.countB (bs l) ⟨#[c]⟩) l = spl c l := spl_split c _ l rfl
  have h : (Lib.splitB ⟨#[c]⟩ 0 (Lib.countB (bs l) ⟨#[c]⟩) (bs l)).map (·.data.toList) = spl c l := h.trans e
  rw [← h, List.map_map]
  conv => lhs; rw [← List.map_id (Lib.splitB _ _ _ _)]
  apply List.map_congr_left
  intro x _
  exact bs_eta x
theorem countB_spl (l : List UInt8) (c : UInt8) : Lib.countB (bs l) ⟨#[c]⟩ + 1 = (spl c l).length := (spl_len c l).symm

/-- strings.Split at one byte. -/
def SplitPost (w : World) (L : List (List UInt8)) (e : Ending) (w' : World) : Prop := e = .returned (.slice (some ⟨w.heap.size, 0, none⟩) L.length L.length) ∧ Below w.heap.size w w' ∧ w'.heap.size = w.heap.size + 1 ∧ ∀ j (hj : j < L.length), w'.cell? ⟨w.heap.size, 0 + j, none⟩ = some (.string (bs L[j]))
theorem split_any {w : World} (l : List UInt8) (c : UInt8) (hE : Env w) (hl : l.length ≤ 1000000) : Calls Tryz.prog 99 #[.string (bs l), .string ⟨#[c]⟩] w (SplitPost w (spl c l)) := by
  obtain ⟨m, hm⟩ := hE.mx
  refine (Tryz.strings_Split (bs l) ⟨#[c]⟩ m w (by rw [bs_size]; omega) hm (Nat.le_refl 1)).mono ?_
  rintro e w' ⟨rfl, rfl⟩
  rw [splitB_spl, countB_spl]
  refine ⟨rfl, (Below.refl _ _).alloc (Nat.le_refl _) _, by simp, fun j hj => ?_⟩
  rw [Nat.zero_add, World.cell?, heap_alloc_new]
  simp [List.getElem?_toArray, List.getElem?_map, List.getElem?_eq_getElem hj]

/-- The value of a head without fields. -/
def hdv (h : Hd) : Value := .agg #[.string (bs h.m), .string (bs h.t), .int .i64 h.v, .slice none 0 0]
def FstPost (w : World) (l : List UInt8) (e : Ending) (w' : World) : Prop := e = .returned (.tuple #[hdv (fstL l).1, .int .i64 (fstL l).2]) ∧ Below w.heap.size w w'

theorem fstL_no {l : List UInt8} (h : (spl 32 l).length ≠ 3) : fstL l = (z0, 400) := by
  unfold fstL
  match hs : spl 32 l, h with
  | [], _ => rfl
  | [_], _ => rfl
  | [_, _], _ => rfl
  | [_, _, _], h => exact absurd rfl h
  | _ :: _ :: _ :: _ :: _, _ => rfl
theorem fstL_3 {l a b c : List UInt8} (h : spl 32 l = [a, b, c]) : fstL l = fst3 a b c := by
  unfold fstL; rw [h]
theorem fst_fs (l : List UInt8) : (fstL l).1.fs = [] := by
  unfold fstL
  split
  · unfold fst3
    repeat' split
    all_goals rfl
  · rfl

theorem spl_sum (c : UInt8) (l : List UInt8) : ∀ x ∈ spl c l, x.length ≤ l.length := by
  induction l with
  | nil => intro x hx; simp [spl] at hx; subst hx; exact Nat.le_refl _
  | cons y r ih =>
    intro x hx
    unfold spl at hx
    split at hx
    · rcases List.mem_cons.mp hx with rfl | hx
      · exact Nat.zero_le _
      · have := ih x hx; rw [List.length_cons]; omega
    · split at hx
      · simp at hx; subst hx; simp
      · rename_i w ws e
        rw [e] at ih
        rcases List.mem_cons.mp hx with rfl | hx
        · have := ih w (by simp); simp only [List.length_cons]; omega
        · have := ih x (by simp [hx]); rw [List.length_cons]; omega

/-- slices.Contains of an empty word. -/
theorem contE_any {w : World} {g off n c : Nat} (L : List (List UInt8)) (hn : n = L.length) (hl : L.length ≤ 1000000) (hc : ∀ j (hj : j < L.length), w.cell? ⟨g, off + j, none⟩ = some (.string (bs L[j]))) :
    Calls Tryz.prog 100 #[.slice (some ⟨g, off, none⟩) n c, .string ⟨#[]⟩] w fun e w' => e = .returned (.bool (L.contains [])) ∧ w' = w := by
  subst hn
  refine (Tryz.slices_Contains_string g off L.length c (L.map bs) ⟨#[]⟩ w (by simp) (by omega) (fun j hj => ?_)).mono ?_
  · rw [List.length_map] at hj
    rw [hc j hj, List.getD, List.getElem?_map, List.getElem?_eq_getElem hj]
    rfl
  · rintro e w' ⟨rfl, rfl⟩
    refine ⟨congrArg (fun b => Ending.returned (Value.bool b)) ?_, rfl⟩
    rw [Bool.eq_iff_iff, Lib.containsS_iff, List.take_of_length_le (by simp), List.contains_iff_mem, List.mem_map]
    constructor
    · rintro ⟨x, hx, e⟩
      have : x = [] := by
        have := congrArg (fun s : ByteArray => s.data.toList) e
        exact this
      exact this ▸ hx
    · intro h; exact ⟨[], h, rfl⟩
end Go.Proofs.YtkoohdacneflfaaGreatDoor
