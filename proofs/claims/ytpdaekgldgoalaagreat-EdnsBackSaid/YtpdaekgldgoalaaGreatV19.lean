/-
  What a message says besides, its whole code, how many bytes its sender takes: Of, Code, Room.
-/
import Derived.Test.YtpdaekgldgoalaaGreatV18
import Derived.Test.YtpdaekgldgoalaaGreatV17
namespace Go.Proofs.YtpdaekgldgoalaaGreat
open Go.RowKit Go.Shelf
set_option linter.unusedVariables false
set_option linter.unusedSimpArgs false
set_option maxRecDepth 100000

/-- A message in its box, and the answer's. -/
structure Of2 (w wr : World) (N : Nat) (i f : Int) (q a n r : Value) : Prop where
  bel : Below N w wr
  x : Cel wr N [.int .i64 i, .int .i64 f, q, a, n, r]
  z : Cel wr (N + 1) [.int .i64 0, .int .i64 0, .int .i64 0, .bool false, .slice none 0 0]
  size : N + 2 ≤ wr.heap.size
section
variable {w wr w' : World} {N : Nat} {i f : Int} {q a n r : Value}
theorem Of2.later (h : Of2 w wr N i f q a n r) (hb : Below wr.heap.size wr w') : Of2 w w' N i f q a n r :=
  ⟨below_aside h.bel (Aside.of_all hb : Aside (fun _ => False) wr w') (fun k hk => ⟨by have := h.size; omega, id⟩), h.x.below (by simp) hb, h.z.below (by simp) hb, Nat.le_trans h.size hb.size⟩
theorem of2_start (w : World) (i f : Int) (q a n r : Value) (hN : w.heap.size = N) :
    Of2 w ((w.alloc (.cells #[.int .i64 i, .int .i64 f, q, a, n, r] 25)).alloc (.cells #[.int .i64 0, .int .i64 0, .int .i64 0, .bool false, .slice none 0 0] 28)) N i f q a n r := by
  subst hN
  have hz := cel_new (w.alloc (.cells #[.int .i64 i, .int .i64 f, q, a, n, r] 25)) (.int .i64 0) (.int .i64 0) (.int .i64 0) (.bool false) (.slice none 0 0) 28
  rw [World.size_alloc] at hz
  exact ⟨((Below.refl _ _).alloc (Nat.le_refl _) _).alloc (by simp) _, (cel_new6 w (.int .i64 i) (.int .i64 f) q a n r 25).below (by simp) ((Below.refl _ _).alloc (Nat.le_refl _) _), hz, by simp⟩
theorem Of2.fin (h : Of2 w wr N i f q a n r) (v0 v1 v2 v3 v4 : Value) : Below N w (put5 wr (N + 1) v0 v1 v2 v3 v4) ∧ Cel (put5 wr (N + 1) v0 v1 v2 v3 v4) (N + 1) [v0, v1, v2, v3, v4] ∧ Aside (fun k => k = N + 1) wr (put5 wr (N + 1) v0 v1 v2 v3 v4) :=
  ⟨below_aside h.bel (aside_put5 _ _ _ _ _ _ _) (fun k hk => ⟨by have := h.size; omega, by omega⟩), cel_put5 h.z _ _ _ _ _, aside_put5 _ _ _ _ _ _ _⟩
end

/-- What Of tells. -/
def OfPost (w : World) (m : Ms) (e : Ending) (w' : World) : Prop := ∃ v, e = .returned (.tuple #[v, .bool (ofM m).2.1, .int .i64 (ofM m).2.2]) ∧ Egw w' w.heap.size v (ofM m).1 ∧ Below w.heap.size w w'
theorem opL_len (l : List Rc) : (opL l).length ≤ l.length := List.length_filter_le _ _
theorem opL_mem {l : List Rc} {x : Rc} (h : x ∈ opL l) : x ∈ l := (List.mem_filter.mp h).1

/-- What is told of so many records elsewhere, and these here. -/
def ofL (s : Nat) (L : List Rc) : Ed × Bool × Int :=
  if s = 0 ∧ L = [] then (ed0, false, 0)
  else match s, L with
    | 0, [x] => ((recE x).1, decide ((recE x).2 = 0), (recE x).2)
    | _, _ => (ed0, false, 4)
theorem ofL_none : ofL 0 [] = (ed0, false, 0) := rfl
theorem ofL_one (x : Rc) : ofL 0 [x] = ((recE x).1, decide ((recE x).2 = 0), (recE x).2) := rfl
theorem ofL_bad {s : Nat} {L : List Rc} (h0 : ¬ (s = 0 ∧ L = [])) (h1 : ¬ (s = 0 ∧ L.length = 1)) : ofL s L = (ed0, false, 4) := by
  unfold ofL
  rw [if_neg h0]
  match s, L with
  | 0, [] => exact absurd ⟨rfl, rfl⟩ h0
  | 0, [x] => exact absurd ⟨rfl, rfl⟩ h1
  | 0, _ :: _ :: _ => rfl
  | _ + 1, _ => rfl

set_option maxHeartbeats 4000000 in
theorem of_any {w : World} {hi : Nat} {u : Value} {m : Ms} (h : Mg w hi u m) (h1 : hi ≤ w.heap.size) (hm : Mild m) :
    Calls Tryz.prog 9 #[u] w (OfPost w m) := by
  obtain ⟨i0, f0, l, lan, lns, lar⟩ := m
  obtain ⟨q, a, n, r, rfl, hq, h2, h3, h4⟩ := h
  have hl := hm.1
  have hmd := hm.2.2.2.2
  unfold OfPost
  rw [show ofM ⟨i0, f0, l, lan, lns, lar⟩ = ofL ((opL lan).length + (opL lns).length) (opL lar) from rfl]
  simp only at hl hmd hq h2 h3 h4 ⊢
  obtain ⟨N, hN⟩ : ∃ g, w.heap.size = g := ⟨_, rfl⟩
  have HCA := Lib.hid (fun wx (hb : Below N w wx) => opts_any (Lst.below h2 hb (by omega)) (Nat.le_trans (by omega : hi ≤ N) (by have := hb.size; omega)) (by omega))
  have HCN := Lib.hid (fun wx (hb : Below N w wx) => opts_any (Lst.below h3 hb (by omega)) (Nat.le_trans (by omega : hi ≤ N) (by have := hb.size; omega)) (by omega))
  have HCR := Lib.hid (fun wx (hb : Below N w wx) => opts_any (Lst.below h4 hb (by omega)) (Nat.le_trans (by omega : hi ≤ N) (by have := hb.size; omega)) (by omega))
  have hoa := opL_len lan
  have hon := opL_len lns
  have hor := opL_len lar
  have HMD := Lib.hid (show ∀ x ∈ opL lar, x.d.length ≤ 900000 from fun x hx => (hmd x (opL_mem hx)).2)
  obtain ⟨xa, xc, rfl⟩ := Lst.shape hq
  obtain ⟨aa, ac, rfl⟩ := Lst.shape h2
  obtain ⟨na, nc, rfl⟩ := Lst.shape h3
  obtain ⟨ra, rc, rfl⟩ := Lst.shape h4
  obtain ⟨la, hla⟩ : ∃ i, lan.length = i := ⟨_, rfl⟩
  obtain ⟨ln, hln⟩ : ∃ i, lns.length = i := ⟨_, rfl⟩
  obtain ⟨lr, hlr⟩ : ∃ i, lar.length = i := ⟨_, rfl⟩
  obtain ⟨lq, hlq⟩ : ∃ i, l.length = i := ⟨_, rfl⟩
  obtain ⟨LA, hLA⟩ : ∃ i, opL lan = i := ⟨_, rfl⟩
  obtain ⟨LN, hLN⟩ : ∃ i, opL lns = i := ⟨_, rfl⟩
  obtain ⟨LR, hLR⟩ : ∃ i, opL lar = i := ⟨_, rfl⟩
  rw [hla, hLA] at HCA
  rw [hln, hLN] at HCN
  rw [hlr, hLR] at HCR
  rw [hLR] at HMD
  rw [hLA, hLN, hLR, hla, hln, hlr, hlq]
  rw [hla, hLA] at hoa
  rw [hln, hLN] at hon
  rw [hlr, hLR] at hor
  rw [hla, hln, hlr, hlq] at hl
  obtain ⟨kA, hkA⟩ : ∃ i, LA.length = i := ⟨_, rfl⟩
  obtain ⟨kN, hkN⟩ : ∃ i, LN.length = i := ⟨_, rfl⟩
  obtain ⟨kR, hkR⟩ : ∃ i, LR.length = i := ⟨_, rfl⟩
  rw [hkA, hkN]
  obtain ⟨RE, hRE⟩ : ∃ x, ofL (kA + kN) LR = x := ⟨_, rfl⟩
  rw [hRE]
  rw [hkA] at hoa
  rw [hkN] at hon
  rw [hkR] at hor
  have HB := Lib.hid (show kA ≤ 900000 ∧ kN ≤ 900000 ∧ kR ≤ 900000 by omega)
  have HKA := Lib.hid hkA
  have HKN := Lib.hid hkN
  have HKR := Lib.hid hkR
  have hw1 : IntKind.i64.wrap ((kA : Int) + kN) = (kA : Int) + kN := wr64 _ (by omega) (by omega)
  have HP := Lib.hid ((of2_start w i0 f0 (.slice xa lq xc) (.slice aa la ac) (.slice na ln nc) (.slice ra lr rc) hN).later (Below.refl _ _).drew)
  clear hq h2 h3 h4 h1 hm hl hmd hla hln hlr hlq hLA hLN hLR hoa hon hor hkA hkN hkR
  go_enter Tryz.func9, Tryz.ntmps9
  go_wp2_with fail
  refine wp_region_held_drew (S := (fun wx => wx.cell? ⟨N, 3, none⟩ = some (.slice aa la ac) ∧ wx.cell? ⟨N, 4, none⟩ = some (.slice na ln nc) ∧ wx.cell? ⟨N, 5, none⟩ = some (.slice ra lr rc))) (by kernel_rfl) ⟨HP.out.x.c 3 (by simp), HP.out.x.c 4 (by simp), HP.out.x.c 5 (by simp)⟩ (fun hHeld => ?_)
  refine wpAnyH_take (i := 0) (oi := { dst := some 9, op := Op.fieldAddr 25 (Operand.tmp 1) 3, type := 0, pos := "edns.go:25", after := #[], guard := none }) (v := ?_) rfl (by kernel_rfl) (by kernel_rfl) (by kernel_rfl) (fun _ _ _ h => h) (Or.inl ⟨by rfl, ?_⟩) (by assumption) ?_
  rotate_left 1
  · intro w hSw; (try dsimp only at hSw); go_simp; try (with_reducible rfl)
  try simp only [Act.put, List.setIfInBounds_toArray, List.set_cons_zero, List.set_cons_succ]
  refine wpAnyH_take (i := 1) (oi := { dst := some 10, op := Op.load 23 (Operand.tmp 9), type := 23, pos := "edns.go:25", after := #[{ on := 0, ground := Ground.data }], guard := none }) (v := ?_) rfl (by kernel_rfl) (by kernel_rfl) (by kernel_rfl) (fun _ _ _ h => h) (Or.inl ⟨by rfl, ?_⟩) (by assumption) ?_
  rotate_left 1
  · intro w hSw; (try dsimp only at hSw); go_simp; try (with_reducible rfl)
  try simp only [Act.put, List.setIfInBounds_toArray, List.set_cons_zero, List.set_cons_succ]
  refine wpAnyH_take (i := 4) (oi := { dst := some 13, op := Op.fieldAddr 25 (Operand.tmp 1) 4, type := 0, pos := "edns.go:25", after := #[], guard := none }) (v := ?_) rfl (by kernel_rfl) (by kernel_rfl) (by kernel_rfl) (fun _ _ _ h => h) (Or.inl ⟨by rfl, ?_⟩) (by assumption) ?_
  rotate_left 1
  · intro w hSw; (try dsimp only at hSw); go_simp; try (with_reducible rfl)
  try simp only [Act.put, List.setIfInBounds_toArray, List.set_cons_zero, List.set_cons_succ]
  refine wpAnyH_take (i := 5) (oi := { dst := some 14, op := Op.load 23 (Operand.tmp 13), type := 23, pos := "edns.go:25", after := #[{ on := 4, ground := Ground.data }], guard := none }) (v := ?_) rfl (by kernel_rfl) (by kernel_rfl) (by kernel_rfl) (fun _ _ _ h => h) (Or.inl ⟨by rfl, ?_⟩) (by assumption) ?_
  rotate_left 1
  · intro w hSw; (try dsimp only at hSw); go_simp; try (with_reducible rfl)
  try simp only [Act.put, List.setIfInBounds_toArray, List.set_cons_zero, List.set_cons_succ]
  refine wpAnyH_take (i := 9) (oi := { dst := some 18, op := Op.fieldAddr 25 (Operand.tmp 1) 5, type := 0, pos := "edns.go:25", after := #[], guard := none }) (v := ?_) rfl (by kernel_rfl) (by kernel_rfl) (by kernel_rfl) (fun _ _ _ h => h) (Or.inl ⟨by rfl, ?_⟩) (by assumption) ?_
  rotate_left 1
  · intro w hSw; (try dsimp only at hSw); go_simp; try (with_reducible rfl)
  try simp only [Act.put, List.setIfInBounds_toArray, List.set_cons_zero, List.set_cons_succ]
  refine wpAnyH_take (i := 10) (oi := { dst := some 19, op := Op.load 23 (Operand.tmp 18), type := 23, pos := "edns.go:25", after := #[{ on := 9, ground := Ground.data }], guard := none }) (v := ?_) rfl (by kernel_rfl) (by kernel_rfl) (by kernel_rfl) (fun _ _ _ h => h) (Or.inl ⟨by rfl, ?_⟩) (by assumption) ?_
  rotate_left 1
  · intro w hSw; (try dsimp only at hSw); go_simp; try (with_reducible rfl)
  try simp only [Act.put, List.setIfInBounds_toArray, List.set_cons_zero, List.set_cons_succ]
  refine wpAnyH_ready (rs := [2]) (by kernel_rfl) (by simp) ?_
  refine AllReadyH.cons (o := { dst := some 11, op := Op.call { callee := Callee.value (Operand.func 20), args := #[Operand.tmp 10], argTypes := #[23] }, type := 23, pos := "edns.go:25", after := #[{ on := 1, ground := Ground.data }], guard := none }) rfl (fun K hK => ?_) (AllReadyH.nil)
  go_simp
  refine (HCA.out _ HP.out.bel).mono ?_; rintro e w1 ⟨vva, rfl, ho, hb⟩
  obtain ⟨ava, cva, rfl⟩ := ho.shape
  rw [HKA.out]
  have HRR := Lib.hid ho
  replace HP := Lib.hid (HP.out.later hb)
  clear ho hb
  try go_wp2_with fail
  refine hK.out _ _ ⟨HP.out.x.c 3 (by simp), HP.out.x.c 4 (by simp), HP.out.x.c 5 (by simp)⟩ (fun hHeld => ?_)
  clear hK K
  try simp only [Act.put, List.setIfInBounds_toArray, List.set_cons_zero, List.set_cons_succ]
  refine wpAnyH_take (i := 3) (oi := { dst := some 12, op := Op.call { callee := Callee.builtin Builtin.len, args := #[Operand.tmp 11], argTypes := #[23] }, type := 3, pos := "edns.go:25", after := #[{ on := 2, ground := Ground.data }], guard := none }) (v := ?_) rfl (by kernel_rfl) (by kernel_rfl) (by kernel_rfl) (fun _ _ _ h => h) (Or.inl ⟨by rfl, ?_⟩) (by assumption) ?_
  rotate_left 1
  · intro w hSw; (try dsimp only at hSw); go_simp; try (with_reducible rfl)
  try simp only [Act.put, List.setIfInBounds_toArray, List.set_cons_zero, List.set_cons_succ]
  refine wpAnyH_ready (rs := [6]) (by kernel_rfl) (by simp) ?_
  refine AllReadyH.cons (o := { dst := some 15, op := Op.call { callee := Callee.value (Operand.func 20), args := #[Operand.tmp 14], argTypes := #[23] }, type := 23, pos := "edns.go:25", after := #[{ on := 5, ground := Ground.data }, { on := 2, ground := Ground.chain }], guard := none }) rfl (fun K hK => ?_) (AllReadyH.nil)
  go_simp
  refine (HCN.out _ HP.out.bel).mono ?_; rintro e w2 ⟨vvn, rfl, ho, hb⟩
  obtain ⟨avn, cvn, rfl⟩ := ho.shape
  rw [HKN.out]
  have HRR := Lib.hid ho
  replace HP := Lib.hid (HP.out.later hb)
  clear ho hb
  try go_wp2_with fail
  refine hK.out _ _ ⟨HP.out.x.c 3 (by simp), HP.out.x.c 4 (by simp), HP.out.x.c 5 (by simp)⟩ (fun hHeld => ?_)
  clear hK K
  try simp only [Act.put, List.setIfInBounds_toArray, List.set_cons_zero, List.set_cons_succ]
  refine wpAnyH_take (i := 7) (oi := { dst := some 16, op := Op.call { callee := Callee.builtin Builtin.len, args := #[Operand.tmp 15], argTypes := #[23] }, type := 3, pos := "edns.go:25", after := #[{ on := 6, ground := Ground.data }], guard := none }) (v := ?_) rfl (by kernel_rfl) (by kernel_rfl) (by kernel_rfl) (fun _ _ _ h => h) (Or.inl ⟨by rfl, ?_⟩) (by assumption) ?_
  rotate_left 1
  · intro w hSw; (try dsimp only at hSw); go_simp; try (with_reducible rfl)
  try simp only [Act.put, List.setIfInBounds_toArray, List.set_cons_zero, List.set_cons_succ]
  refine wpAnyH_take (i := 8) (oi := { dst := some 17, op := Op.binOp BinOp.add 3 (Operand.tmp 12) (Operand.tmp 16) 3, type := 3, pos := "edns.go:25", after := #[{ on := 3, ground := Ground.data }, { on := 7, ground := Ground.data }], guard := none }) (v := ?_) rfl (by kernel_rfl) (by kernel_rfl) (by kernel_rfl) (fun _ _ _ h => h) (Or.inl ⟨by rfl, ?_⟩) (by assumption) ?_
  rotate_left 1
  · intro w hSw; (try dsimp only at hSw); go_simp; try (with_reducible rfl)
  try simp only [Act.put, List.setIfInBounds_toArray, List.set_cons_zero, List.set_cons_succ]
  refine wpAnyH_ready (rs := [11]) (by kernel_rfl) (by simp) ?_
  refine AllReadyH.cons (o := { dst := some 20, op := Op.call { callee := Callee.value (Operand.func 20), args := #[Operand.tmp 19], argTypes := #[23] }, type := 23, pos := "edns.go:25", after := #[{ on := 10, ground := Ground.data }, { on := 6, ground := Ground.chain }], guard := none }) rfl (fun K hK => ?_) (AllReadyH.nil)
  go_simp
  refine (HCR.out _ HP.out.bel).mono ?_; rintro e w3 ⟨vvr, rfl, ho, hb⟩
  obtain ⟨avr, cvr, rfl⟩ := ho.shape
  rw [HKR.out]
  have HRR := Lib.hid ho
  replace HP := Lib.hid (HP.out.later hb)
  clear ho hb
  try go_wp2_with fail
  refine hK.out _ _ ⟨HP.out.x.c 3 (by simp), HP.out.x.c 4 (by simp), HP.out.x.c 5 (by simp)⟩ (fun hHeld => ?_)
  clear hK K
  try simp only [Act.put, List.setIfInBounds_toArray, List.set_cons_zero, List.set_cons_succ]
  refine wpAnyH_take (i := 12) (oi := { dst := some 5, op := Op.assign (Operand.tmp 17), type := 3, pos := "edns.go:25", after := #[{ on := 8, ground := Ground.data }, { on := 11, ground := Ground.chain }, { on := 0, ground := Ground.phase }, { on := 1, ground := Ground.phase }, { on := 2, ground := Ground.phase }, { on := 3, ground := Ground.phase }, { on := 4, ground := Ground.phase }, { on := 5, ground := Ground.phase }, { on := 6, ground := Ground.phase }, { on := 7, ground := Ground.phase }, { on := 8, ground := Ground.phase }, { on := 9, ground := Ground.textOnly Departure.lateStores }, { on := 10, ground := Ground.textOnly Departure.lateStores }, { on := 11, ground := Ground.textOnly Departure.lateStoresUnsure }], guard := none }) (v := ?_) rfl (by kernel_rfl) (by kernel_rfl) (by kernel_rfl) (fun _ _ _ h => h) (Or.inl ⟨by rfl, ?_⟩) (by assumption) ?_
  rotate_left 1
  · intro w hSw; (try dsimp only at hSw); go_simp; try (with_reducible rfl)
  try simp only [Act.put, List.setIfInBounds_toArray, List.set_cons_zero, List.set_cons_succ]
  refine wpAnyH_take (i := 13) (oi := { dst := some 6, op := Op.assign (Operand.tmp 20), type := 23, pos := "edns.go:25", after := #[{ on := 11, ground := Ground.data }, { on := 12, ground := Ground.chain }, { on := 0, ground := Ground.phase }, { on := 1, ground := Ground.phase }, { on := 2, ground := Ground.phase }, { on := 3, ground := Ground.phase }, { on := 4, ground := Ground.phase }, { on := 5, ground := Ground.phase }, { on := 6, ground := Ground.phase }, { on := 7, ground := Ground.phase }, { on := 8, ground := Ground.phase }, { on := 9, ground := Ground.phase }, { on := 10, ground := Ground.phase }, { on := 11, ground := Ground.phase }, { on := 12, ground := Ground.phase }], guard := none }) (v := ?_) rfl (by kernel_rfl) (by kernel_rfl) (by kernel_rfl) (fun _ _ _ h => h) (Or.inl ⟨by rfl, ?_⟩) (by assumption) ?_
  rotate_left 1
  · intro w hSw; (try dsimp only at hSw); go_simp; try (with_reducible rfl)
  try simp only [Act.put, List.setIfInBounds_toArray, List.set_cons_zero, List.set_cons_succ]
  refine wpAnyH_done (by kernel_rfl) ?_ _
  clear hHeld
  obtain ⟨WR, hWR⟩ : ∃ X, w3 = X := ⟨_, rfl⟩
  rw [hWR] at HP HRR ⊢
  clear hWR
  obtain ⟨z0, z1, z2, z3, z4⟩ := HP.out.z.five
  have fz := HP.out.z.fz
  have hB := HB.out
  by_cases hA : kA + kN = 0 ∧ LR = []
  · obtain ⟨hA1, rfl⟩ := hA
    have hk0 : kR = 0 := HKR.out.symm
    subst hk0
    have e1 : ((kA : Int) + kN == 0) = true := by simp; omega
    rw [hA1, ofL_none] at hRE
    subst hRE
    clear hA1
    go_wp2_with fail
    have hk := HP.out.fin (.int .i64 0) (.int .i64 0) (.int .i64 0) (.bool false) (.slice none 0 0)
    obtain ⟨m0, m1, m2, m3, m4⟩ := hk.2.1.five
    have hbF := hk.1
    unfold put5 at m0 m1 m2 m3 m4 hbF
    clear z0 z1 z2 z3 z4 fz
    refine bodyPost_ret (v := .tuple #[.agg #[.int .i64 0, .int .i64 0, .int .i64 0, .bool false, .slice none 0 0], .bool false, .int .i64 0]) (by simp [results, Tryz.results9, go_sem, m0, m1, m2, m3, m4]) rfl ⟨_, rfl, egw_zero _ _, by first | exact hbF | (rw [hN]; exact hbF)⟩
  · by_cases hC : kA + kN = 0 ∧ kR = 1
    · obtain ⟨hC1, rfl⟩ := hC
      obtain ⟨x, rfl⟩ : ∃ x, LR = [x] := List.length_eq_one_iff.mp HKR.out
      have e0 : ((kA : Int) + kN == 0) = true := by simp; omega
      have e1 : ¬ ((0 : Int) < (kA : Int) + kN) := by omega
      have e2 : decide ((0 : Int) < (kA : Int) + kN) = false := by simp; omega
      rw [hC1, ofL_one] at hRE
      have hsr := HRR.out.sr (by simp)
      obtain ⟨b, off, c2, he, hb, hc⟩ := SR.at_ hsr 0 (by simp)
      injection he with he hn3 hc3
      clear hn3 hc3
      subst he
      obtain ⟨c0, c1, c2, c3, c4⟩ := hc
      simp only [List.getElem_cons_zero, Nat.zero_mul, Nat.add_zero] at c0 c1 c2 c3 c4
      have HRD := Lib.hid (readx_any x WR (HMD.out x (by simp)))
      obtain ⟨r1, hr1⟩ : ∃ y, (recE x).1 = y := ⟨_, rfl⟩
      obtain ⟨r2, hr2⟩ : ∃ y, (recE x).2 = y := ⟨_, rfl⟩
      unfold RdPostE at HRD
      rw [hr1, hr2] at HRD
      rw [hr1, hr2] at hRE
      subst hRE
      clear hC1 hsr hb hA hr1 hr2
      go_wp2_with fail
      refine HRD.out.mono ?_; rintro e w5 ⟨v, rfl, hv, hb⟩
      have HV := Lib.hid (hv.base HP.out.size)
      replace HP := Lib.hid (HP.out.later hb)
      obtain ⟨o, rfl, hso⟩ := hv
      obtain ⟨oa, oc, rfl⟩ := row_shape hso
      obtain ⟨g, hg⟩ : ∃ g, w5.heap.size = g := ⟨_, rfl⟩
      have hb6 : Below w5.heap.size w5 (w5.alloc (.cells #[.int .i64 r1.s, .int .i64 r1.x, .int .i64 r1.v, .bool r1.b, .slice oa r1.o.length oc] 28)) := (Below.refl _ _).alloc (Nat.le_refl _) _
      have HP6 := Lib.hid (HP.out.later hb6)
      have HV6 := Lib.hid (HV.out.below hb6)
      have hbox := cel_new w5 (.int .i64 r1.s) (.int .i64 r1.x) (.int .i64 r1.v) (.bool r1.b) (.slice oa r1.o.length oc) 28
      rw [hg] at hbox
      obtain ⟨y0, y1, y2, y3, y4⟩ := hbox.five
      clear z0 z1 z2 z3 z4 fz hb hso hb6 hbox HV HRD c0 c1 c2 c3 c4
      obtain ⟨z0, z1, z2, z3, z4⟩ := HP6.out.z.five
      have fz := HP6.out.z.fz
      have hne : N + 1 ≠ g := by have := HP.out.size; omega
      go_wp2_with fail
      have hk := HP6.out.fin (.int .i64 r1.s) (.int .i64 r1.x) (.int .i64 r1.v) (.bool r1.b) (.slice oa r1.o.length oc)
      obtain ⟨m0, m1, m2, m3, m4⟩ := hk.2.1.five
      have hbF := hk.1
      have hvF := (HV6.out.aside hk.2.2 (fun k hk => by omega)).base (show N ≤ N + 2 by omega)
      unfold put5 at m0 m1 m2 m3 m4 hbF hvF
      clear z0 z1 z2 z3 z4 fz y0 y1 y2 y3 y4
      refine bodyPost_ret (v := .tuple #[.agg #[.int .i64 r1.s, .int .i64 r1.x, .int .i64 r1.v, .bool r1.b, .slice oa r1.o.length oc], .bool (r2 == 0), .int .i64 r2]) (by simp [results, Tryz.results9, go_sem, m0, m1, m2, m3, m4]) rfl ⟨_, rfl, by first | exact hvF | (rw [hN]; exact hvF), by first | exact hbF | (rw [hN]; exact hbF)⟩
    · rw [ofL_bad hA (by rw [HKR.out]; exact hC)] at hRE
      subst hRE
      by_cases hz : kA + kN = 0
      · have e0 : ((kA : Int) + kN == 0) = true := by simp; omega
        have hk2 : 1 < kR := by
          have h0 : kR ≠ 0 := fun h => hA ⟨hz, List.length_eq_zero_iff.mp (by rw [HKR.out, h])⟩
          have h1 : kR ≠ 1 := fun h => hC ⟨hz, h⟩
          omega
        have e1 : ((kR : Int) == 0) = false := by simp; omega
        have e2 : decide ((0 : Int) < (kA : Int) + kN) = false := by simp; omega
        have e3 : decide ((1 : Int) < (kR : Int)) = true := by simp; omega
        clear hA hC hz hk2
        go_wp2_with fail
        have hk := HP.out.fin (.int .i64 0) (.int .i64 0) (.int .i64 0) (.bool false) (.slice none 0 0)
        obtain ⟨m0, m1, m2, m3, m4⟩ := hk.2.1.five
        have hbF := hk.1
        unfold put5 at m0 m1 m2 m3 m4 hbF
        clear z0 z1 z2 z3 z4 fz
        refine bodyPost_ret (v := .tuple #[.agg #[.int .i64 0, .int .i64 0, .int .i64 0, .bool false, .slice none 0 0], .bool false, .int .i64 4]) (by simp [results, Tryz.results9, go_sem, m0, m1, m2, m3, m4]) rfl ⟨_, rfl, egw_zero _ _, by first | exact hbF | (rw [hN]; exact hbF)⟩
      · have e0 : ((kA : Int) + kN == 0) = false := by simp; omega
        have e2 : decide ((0 : Int) < (kA : Int) + kN) = true := by simp; omega
        clear hA hC hz
        go_wp2_with fail
        have hk := HP.out.fin (.int .i64 0) (.int .i64 0) (.int .i64 0) (.bool false) (.slice none 0 0)
        obtain ⟨m0, m1, m2, m3, m4⟩ := hk.2.1.five
        have hbF := hk.1
        unfold put5 at m0 m1 m2 m3 m4 hbF
        clear z0 z1 z2 z3 z4 fz
        refine bodyPost_ret (v := .tuple #[.agg #[.int .i64 0, .int .i64 0, .int .i64 0, .bool false, .slice none 0 0], .bool false, .int .i64 4]) (by simp [results, Tryz.results9, go_sem, m0, m1, m2, m3, m4]) rfl ⟨_, rfl, egw_zero _ _, by first | exact hbF | (rw [hN]; exact hbF)⟩
end Go.Proofs.YtpdaekgldgoalaaGreat

/-
  A message that says something besides: Put.
-/
namespace Go.Proofs.YtpdaekgldgoalaaGreat
open Go.RowKit Go.Shelf
set_option linter.unusedVariables false
set_option linter.unusedSimpArgs false
set_option maxRecDepth 100000

/-- A list without room is cut to itself. -/
theorem full_rc (a : Option Addr) (n c : Nat) (hn : n ≤ c) (wx : World) : (Instr.slice 23 (.slice a n c) none (some (.int .i64 n)) (some (.int .i64 n))).run Tryz.prog wx = .ok (.slice a n n) wx := by
  rw [run_slice_hm (P := Tryz.prog) wx 23 a n c Tryz.underlying23 .i64 .i64 n n (by omega) (by omega) (by omega), size_rc]
  show Result.ok (sliced a 0 n n 5) wx = _
  unfold sliced
  by_cases h0 : n = 0
  · rw [if_pos h0, Nat.sub_zero]
  · rw [if_neg h0, Nat.sub_zero]
    cases a with
    | none => rfl
    | some x => simp [Addr.add]
/-- A record behind those of somebody else's list: all in new memory. -/
theorem app_full {w : World} {hi hi' B c : Nat} {a : Option Addr} {u : Value} {l : List Rc} {x : Rc} (h : SR w hi (.slice a l.length c) l) (hx : SR w hi' u [x]) (hl : l.length + 1 ≤ 1000000) (hB : B ≤ w.heap.size) :
    ∃ a' c' w', (Builtin.append_ #[23, 23] 23 #[.slice a l.length l.length, u]).run Tryz.prog w = .ok (.slice a' (l.length + 1) c') w' ∧ OwnRc w' B (.slice a' (l.length + 1) c') (l ++ [x]) ∧ Below w.heap.size w w' := by
  obtain ⟨a2, c2, he, hn, h0, hc⟩ := h
  injection he with he1 he2 he3
  subst he1; subst he3
  cases a with
  | none =>
    obtain ⟨hz, _⟩ := h0 rfl
    have hl0 : l = [] := List.length_eq_zero_iff.mp hz
    subst hl0
    obtain ⟨a', c', w', h1, h2, h3, _⟩ := run_appRc (show OwnRc w B (.slice none 0 0) [] from World.ownsRow_nil w B 52 5) hx hl hB
    exact ⟨a', c', w', h1, h2, h3.below fun k hk => ⟨hk, by simp [Value.ownBlock]⟩⟩
  | some ad =>
    obtain ⟨ua, uc, rfl, _, _, hx2⟩ := hx
    obtain ⟨b, off, rfl, _, h4⟩ := hx2 (by simp)
    obtain ⟨i0, hi0, hz0, hz1, hz2⟩ := info_parts info_rc
    have holds : ∀ j v, (acr l)[j]? = some v → w.cell? (ad.add j) = some v := by
      intro j v hv
      have hp : 0 < l.length := by
        rcases Nat.eq_zero_or_pos l.length with h | h
        · rw [List.length_eq_zero_iff.mp h] at hv; simp [acr] at hv
        · exact h
      obtain ⟨b1, off1, e1, _, h5⟩ := hc hp
      injection e1 with e1
      subst e1
      rw [WideShapes.add_plain]
      exact h5 j v hv
    have hr := run_append_grow (P := Tryz.prog) w 23 23 52 i0 _ Tryz.underlying23 hi0 hz0 ad l.length l.length (acr l) (by rw [acr_len, hz1]) holds ⟨b, off, none⟩ 1 uc (acr [x]) (by rw [acr_len, hz1]; rfl)
      (fun j v hv => by rw [WideShapes.add_plain]; exact h4 j v hv) (by omega) (by omega) (by rw [hz2]; exact growslice_fits (by omega) (by omega))
    have hg := grownCap_ge w (l.length + 1) l.length 52
    have hcm := grownCap_le_maxLen w (l.length + 1) l.length 52 (by unfold maxLen; omega)
    obtain ⟨G, hG⟩ : ∃ G, grownCap w (l.length + 1) l.length 52 = G := ⟨_, rfl⟩
    rw [hG] at hr hg hcm
    refine ⟨_, _, _, hr, ⟨by rw [acr_len], .inr ⟨w.heap.size, _, _, by rw [List.length_append, List.length_singleton], hB, World.alloc_heap_new w.drew _, by rw [List.length_append, List.length_singleton]; exact hg, hcm, ?_, ?_⟩⟩, ?_⟩
    · have e1 : (acr [x]).length = 5 := rfl
      simp only [Array.size_append, List.size_toArray, size_zeroCells, e1, acr_len]
      show l.length * 5 + 5 + (G - (l.length + 1)) * 5 = G * 5
      omega
    · rw [acr_app, List.length_append, List.length_singleton]
      simp only [Array.toList_append, List.append_assoc, List.toList_toArray]
      rw [← List.append_assoc]
      refine List.take_left' ?_
      rw [List.length_append, acr_len, acr_len]
      simp
      omega
    · exact ⟨rfl, rfl, rfl, by simp, fun k hk => Below.heap_alloc w.drew _ k hk⟩

/-- The message's box, what is said, the answer's. -/
structure Pb (w wr : World) (N : Nat) (i f : Int) (q a n r : Value) (es ex ev : Int) (eb : Bool) (o : Value) : Prop where
  bel : Below N w wr
  x : Cel wr N [.int .i64 i, .int .i64 f, q, a, n, r]
  e : Cel wr (N + 1) [.int .i64 es, .int .i64 ex, .int .i64 ev, .bool eb, o]
  z : Cel wr (N + 2) [.int .i64 0, .int .i64 0, .slice none 0 0, .slice none 0 0, .slice none 0 0, .slice none 0 0]
  size : N + 3 ≤ wr.heap.size
section
variable {w wr w' : World} {N : Nat} {i f : Int} {q a n r : Value} {es ex ev : Int} {eb : Bool} {o : Value}
theorem Pb.later (h : Pb w wr N i f q a n r es ex ev eb o) (hb : Below wr.heap.size wr w') : Pb w w' N i f q a n r es ex ev eb o :=
  ⟨below_aside h.bel (Aside.of_all hb : Aside (fun _ => False) wr w') (fun k hk => ⟨by have := h.size; omega, id⟩), h.x.below (by simp) hb, h.e.below (by simp) hb, h.z.below (by simp) hb, Nat.le_trans h.size hb.size⟩
theorem Pb.put5 (h : Pb w wr N i f q a n r es ex ev eb o) (v : Value) : Pb w (wr.setCell ⟨N, 5, none⟩ v) N i f q a n v es ex ev eb o :=
  ⟨below_aside h.bel (bm_side _ _ _ _) (fun k hk => ⟨by have := h.size; omega, by omega⟩), h.x.set (o := 5) (by simp) v, h.e.other (a := ⟨N, 5, none⟩) (by show N ≠ N + 1; omega) _, h.z.other (a := ⟨N, 5, none⟩) (by show N ≠ N + 2; omega) _, Nat.le_trans h.size (bm_side wr N 5 v).size⟩
theorem Pb.fin (h : Pb w wr N i f q a n r es ex ev eb o) (v0 v1 v2 v3 v4 v5 : Value) : Below N w (put6 wr (N + 2) v0 v1 v2 v3 v4 v5) ∧ Cel (put6 wr (N + 2) v0 v1 v2 v3 v4 v5) (N + 2) [v0, v1, v2, v3, v4, v5] ∧ Aside (fun k => k = N + 2) wr (put6 wr (N + 2) v0 v1 v2 v3 v4 v5) :=
  ⟨below_aside h.bel (aside_put6 _ _ _ _ _ _ _ _) (fun k hk => ⟨by have := h.size; omega, by omega⟩), cel_put6 h.z _ _ _ _ _ _, aside_put6 _ _ _ _ _ _ _ _⟩
theorem pb_start (w : World) (i f : Int) (q a n r : Value) (es ex ev : Int) (eb : Bool) (o : Value) (hN : w.heap.size = N) :
    Pb w (((w.alloc (.cells #[.int .i64 i, .int .i64 f, q, a, n, r] 25)).alloc (.cells #[.int .i64 es, .int .i64 ex, .int .i64 ev, .bool eb, o] 28)).alloc (.cells #[.int .i64 0, .int .i64 0, .slice none 0 0, .slice none 0 0, .slice none 0 0, .slice none 0 0] 25)) N i f q a n r es ex ev eb o := by
  subst hN
  have hb1 : ∀ (x : World) (o : Obj), Below x.heap.size x (x.alloc o) := fun x o => (Below.refl _ _).alloc (Nat.le_refl _) o
  have hx := ((cel_new6 w (.int .i64 i) (.int .i64 f) q a n r 25).below (by simp) (hb1 _ (.cells #[.int .i64 es, .int .i64 ex, .int .i64 ev, .bool eb, o] 28))).below (by simp) (hb1 _ (.cells #[.int .i64 0, .int .i64 0, .slice none 0 0, .slice none 0 0, .slice none 0 0, .slice none 0 0] 25))
  have he := (cel_new (w.alloc (.cells #[.int .i64 i, .int .i64 f, q, a, n, r] 25)) (.int .i64 es) (.int .i64 ex) (.int .i64 ev) (.bool eb) o 28).below (by simp) (hb1 _ (.cells #[.int .i64 0, .int .i64 0, .slice none 0 0, .slice none 0 0, .slice none 0 0, .slice none 0 0] 25))
  have hz := cel_new6 ((w.alloc (.cells #[.int .i64 i, .int .i64 f, q, a, n, r] 25)).alloc (.cells #[.int .i64 es, .int .i64 ex, .int .i64 ev, .bool eb, o] 28)) (.int .i64 0) (.int .i64 0) (.slice none 0 0) (.slice none 0 0) (.slice none 0 0) (.slice none 0 0) 25
  rw [World.size_alloc] at he
  rw [World.size_alloc, World.size_alloc] at hz
  exact ⟨(((Below.refl _ _).alloc (Nat.le_refl _) _).alloc (by simp) _).alloc (by simp; omega) _, hx, he, hz, by simp⟩
end
def ms00 : Ms := ⟨0, 0, [], [], [], []⟩
theorem ownM_zero (w : World) (B : Nat) : OwnM w B (.agg #[.int .i64 0, .int .i64 0, .slice none 0 0, .slice none 0 0, .slice none 0 0, .slice none 0 0]) ms00 :=
  ⟨_, _, _, _, rfl, World.ownsRow_nil _ _ _ _, World.ownsRow_nil _ _ _ _, World.ownsRow_nil _ _ _ _, World.ownsRow_nil _ _ _ _⟩

/-- The last list has no less room than entries. -/
def CapR (v : Value) (n : Nat) : Prop := ∃ i f q a s ra rc, v = .agg #[i, f, q, a, s, .slice ra n rc] ∧ n ≤ rc
/-- What Put tells. -/
def PuPost (w : World) (m : Ms) (e : Ed) (x : Ending) (w' : World) : Prop := ∃ v, x = .returned (.tuple #[v, .int .i64 (puM m e).2]) ∧ OwnM w' w.heap.size v (puM m e).1 ∧ Below w.heap.size w w'

set_option maxHeartbeats 4000000 in
theorem put_any {w : World} {hi hi' : Nat} {u v : Value} {m : Ms} {e : Ed} (h : Mg w hi u m) (h1 : hi ≤ w.heap.size) (hm : Mild m) (hm2 : m.q.length + m.an.length + m.ns.length + m.ar.length ≤ 800000) (hcap : CapR u m.ar.length)
    (he : Eg w hi' v e) (h1' : hi' ≤ w.heap.size) (hel : e.o.length ≤ 900000) (hed : ∀ x ∈ e.o, x.d.length ≤ 1000000) :
    Calls Tryz.prog 7 #[u, v] w (PuPost w m e) := by
  have hmad : chkE e = 0 → Mild (adM m e) := fun hc => by
    obtain ⟨g1, g2, g3, g4, g5⟩ := hm
    obtain ⟨_, _, _, _, hs⟩ := chkE_in hc
    refine ⟨?_, g2, g3, g4, fun x hx => ?_⟩
    · unfold adM; simp only [List.length_append, List.length_singleton]; omega
    · unfold adM at hx
      simp only [List.mem_append, List.mem_singleton] at hx
      rcases hx with hx | rfl
      · exact g5 x hx
      · unfold edR; simp only [List.length_singleton]; rw [otsB_len]; omega
  have HMAD := Lib.hid hmad
  obtain ⟨ii, ff, qq, aa2, ss, ra2, rc2, hcv, hcc⟩ := hcap
  obtain ⟨i0, f0, l, lan, lns, lar⟩ := m
  obtain ⟨es, ex, ev, eb, lo⟩ := e
  have HE0 := Lib.hid he
  obtain ⟨q, a, n, r, rfl, hq, h2, h3, h4⟩ := h
  obtain ⟨o, rfl, hso⟩ := he
  injection hcv with hcv
  simp only [Array.mk.injEq, List.cons.injEq, and_true] at hcv
  obtain ⟨k1, k2, k3, k4, k5, k6⟩ := hcv
  subst k1; subst k2; subst k3; subst k4; subst k5; subst k6
  have hl := hm.1
  simp only at hl hm2 hq h2 h3 h4 hcc hso hel hed ⊢
  obtain ⟨oa, oc, rfl⟩ := Lst.shape hso
  obtain ⟨N, hN⟩ : ∃ g, w.heap.size = g := ⟨_, rfl⟩
  obtain ⟨EC, hEC⟩ : ∃ x, chkE ⟨es, ex, ev, eb, lo⟩ = x := ⟨_, rfl⟩
  have HE := Lib.hid (fun wx (hb : Below N w wx) => (HE0.out.below hb (by omega) : Eg wx hi' _ ⟨es, ex, ev, eb, lo⟩))
  have HCK := Lib.hid (fun wx (hb : Below N w wx) => checkE_any (HE.out wx hb) (Nat.le_trans (by omega : hi' ≤ N) (by have := hb.size; omega)) hel hed)
  rw [hEC] at HCK
  have HCA := Lib.hid (fun wx (hb : Below N w wx) => opts_any (Lst.below h2 hb (by omega)) (Nat.le_trans (by omega : hi ≤ N) (by have := hb.size; omega)) (by omega))
  have HCN := Lib.hid (fun wx (hb : Below N w wx) => opts_any (Lst.below h3 hb (by omega)) (Nat.le_trans (by omega : hi ≤ N) (by have := hb.size; omega)) (by omega))
  have HCR := Lib.hid (fun wx (hb : Below N w wx) => opts_any (Lst.below h4 hb (by omega)) (Nat.le_trans (by omega : hi ≤ N) (by have := hb.size; omega)) (by omega))
  have HQ := Lib.hid (fun wx (hb : Below N w wx) => Lst.below hq hb (by omega : hi ≤ N))
  have HA2 := Lib.hid (fun wx (hb : Below N w wx) => Lst.below h2 hb (by omega : hi ≤ N))
  have HN2 := Lib.hid (fun wx (hb : Below N w wx) => Lst.below h3 hb (by omega : hi ≤ N))
  have HR2 := Lib.hid (fun wx (hb : Below N w wx) => (Lst.below h4 hb (by omega : hi ≤ N) : SR wx hi (.slice ra2 lar.length rc2) lar))
  have HHI := Lib.hid (show hi ≤ N ∧ hi' ≤ N by omega)
  have HL := Lib.hid hm2
  have hoa := opL_len lan
  have hon := opL_len lns
  have hor := opL_len lar
  obtain ⟨xa, xc, rfl⟩ := Lst.shape hq
  obtain ⟨aa, ac, rfl⟩ := Lst.shape h2
  obtain ⟨na, nc, rfl⟩ := Lst.shape h3
  obtain ⟨la, hla⟩ : ∃ i, lan.length = i := ⟨_, rfl⟩
  obtain ⟨ln, hln⟩ : ∃ i, lns.length = i := ⟨_, rfl⟩
  obtain ⟨lr, hlr⟩ : ∃ i, lar.length = i := ⟨_, rfl⟩
  obtain ⟨lq, hlq⟩ : ∃ i, l.length = i := ⟨_, rfl⟩
  obtain ⟨kA, hkA⟩ : ∃ i, (opL lan).length = i := ⟨_, rfl⟩
  obtain ⟨kN, hkN⟩ : ∃ i, (opL lns).length = i := ⟨_, rfl⟩
  obtain ⟨kR, hkR⟩ : ∃ i, (opL lar).length = i := ⟨_, rfl⟩
  obtain ⟨PU, hPU⟩ : ∃ x, puM ⟨i0, f0, l, lan, lns, lar⟩ ⟨es, ex, ev, eb, lo⟩ = x := ⟨_, rfl⟩
  unfold PuPost
  rw [hPU]
  unfold puM at hPU
  simp only [hEC, hkA, hkN, hkR] at hPU
  rw [hla] at HCA
  rw [hln] at HCN
  rw [hlr] at HCR HR2
  rw [hla, hln, hlr, hlq]
  rw [hla, hkA] at hoa
  rw [hln, hkN] at hon
  rw [hlr, hkR] at hor
  rw [hlr] at hcc
  rw [hla, hln, hlr, hlq] at hl
  have hcut := fun wx => full_rc ra2 lr rc2 hcc wx
  have HKA := Lib.hid hkA
  have HKN := Lib.hid hkN
  have HKR := Lib.hid hkR
  have HLR := Lib.hid hlr
  have HLA := Lib.hid hla
  have HLN := Lib.hid hln
  have HLQ := Lib.hid hlq
  have hw1 : IntKind.i64.wrap ((kA : Int) + kN) = (kA : Int) + kN := wr64 _ (by omega) (by omega)
  have hw2 : IntKind.i64.wrap ((kA : Int) + kN + kR) = (kA : Int) + kN + kR := wr64 _ (by omega) (by omega)
  obtain ⟨kk, hkk⟩ : ∃ k, kA + kN + kR = k := ⟨_, rfl⟩
  have HPU := Lib.hid hPU
  have HEC := Lib.hid hEC
  have HP := Lib.hid (pb_start w i0 f0 (.slice xa lq xc) (.slice aa la ac) (.slice na ln nc) (.slice ra2 lr rc2) es ex ev eb (.slice oa lo.length oc) hN)
  have HB0 := Lib.hid (HP.out.bel)
  clear hq h2 h3 h4 h1 h1' hm hm2 hl hla hln hlr hlq hoa hon hor hkA hkN hkR hso hel hed hPU hEC hmad
  go_enter Tryz.func7, Tryz.ntmps7
  go_wp2_with fail
  refine (HCK.out _ HB0.out).mono ?_; rintro e w1 ⟨rfl, hb⟩
  replace HP := Lib.hid (HP.out.later (by simpa using hb))
  clear hb HB0
  obtain ⟨z0, z1, z2, z3, z4, z5⟩ := HP.out.z.six
  have fz := HP.out.z.fz
  by_cases hE0 : EC = 0
  · subst hE0
    go_wp2_with fail
    clear z0 z1 z2 z3 z4 z5 fz
    replace HP := Lib.hid (HP.out.later (Below.refl _ _).drew)
    refine wp_region_held_drew (S := (fun wx => wx.cell? ⟨N, 3, none⟩ = some (.slice aa la ac) ∧ wx.cell? ⟨N, 4, none⟩ = some (.slice na ln nc) ∧ wx.cell? ⟨N, 5, none⟩ = some (.slice ra2 lr rc2))) (by kernel_rfl) ⟨HP.out.x.c 3 (by simp), HP.out.x.c 4 (by simp), HP.out.x.c 5 (by simp)⟩ (fun hHeld => ?_)
    refine wpAnyH_take (i := 0) (oi := { dst := some 13, op := Op.fieldAddr 25 (Operand.tmp 2) 3, type := 0, pos := "edns.go:41", after := #[], guard := none }) (v := ?_) rfl (by kernel_rfl) (by kernel_rfl) (by kernel_rfl) (fun _ _ _ h => h) (Or.inl ⟨by rfl, ?_⟩) (by assumption) ?_
    rotate_left 1
    · intro w hSw; (try dsimp only at hSw); go_simp; try (with_reducible rfl)
    try simp only [Act.put, List.setIfInBounds_toArray, List.set_cons_zero, List.set_cons_succ]
    refine wpAnyH_take (i := 1) (oi := { dst := some 14, op := Op.load 23 (Operand.tmp 13), type := 23, pos := "edns.go:41", after := #[{ on := 0, ground := Ground.data }], guard := none }) (v := ?_) rfl (by kernel_rfl) (by kernel_rfl) (by kernel_rfl) (fun _ _ _ h => h) (Or.inl ⟨by rfl, ?_⟩) (by assumption) ?_
    rotate_left 1
    · intro w hSw; (try dsimp only at hSw); go_simp; try (with_reducible rfl)
    try simp only [Act.put, List.setIfInBounds_toArray, List.set_cons_zero, List.set_cons_succ]
    refine wpAnyH_take (i := 4) (oi := { dst := some 17, op := Op.fieldAddr 25 (Operand.tmp 2) 4, type := 0, pos := "edns.go:41", after := #[], guard := none }) (v := ?_) rfl (by kernel_rfl) (by kernel_rfl) (by kernel_rfl) (fun _ _ _ h => h) (Or.inl ⟨by rfl, ?_⟩) (by assumption) ?_
    rotate_left 1
    · intro w hSw; (try dsimp only at hSw); go_simp; try (with_reducible rfl)
    try simp only [Act.put, List.setIfInBounds_toArray, List.set_cons_zero, List.set_cons_succ]
    refine wpAnyH_take (i := 5) (oi := { dst := some 18, op := Op.load 23 (Operand.tmp 17), type := 23, pos := "edns.go:41", after := #[{ on := 4, ground := Ground.data }], guard := none }) (v := ?_) rfl (by kernel_rfl) (by kernel_rfl) (by kernel_rfl) (fun _ _ _ h => h) (Or.inl ⟨by rfl, ?_⟩) (by assumption) ?_
    rotate_left 1
    · intro w hSw; (try dsimp only at hSw); go_simp; try (with_reducible rfl)
    try simp only [Act.put, List.setIfInBounds_toArray, List.set_cons_zero, List.set_cons_succ]
    refine wpAnyH_take (i := 9) (oi := { dst := some 22, op := Op.fieldAddr 25 (Operand.tmp 2) 5, type := 0, pos := "edns.go:41", after := #[], guard := none }) (v := ?_) rfl (by kernel_rfl) (by kernel_rfl) (by kernel_rfl) (fun _ _ _ h => h) (Or.inl ⟨by rfl, ?_⟩) (by assumption) ?_
    rotate_left 1
    · intro w hSw; (try dsimp only at hSw); go_simp; try (with_reducible rfl)
    try simp only [Act.put, List.setIfInBounds_toArray, List.set_cons_zero, List.set_cons_succ]
    refine wpAnyH_take (i := 10) (oi := { dst := some 23, op := Op.load 23 (Operand.tmp 22), type := 23, pos := "edns.go:41", after := #[{ on := 9, ground := Ground.data }], guard := none }) (v := ?_) rfl (by kernel_rfl) (by kernel_rfl) (by kernel_rfl) (fun _ _ _ h => h) (Or.inl ⟨by rfl, ?_⟩) (by assumption) ?_
    rotate_left 1
    · intro w hSw; (try dsimp only at hSw); go_simp; try (with_reducible rfl)
    try simp only [Act.put, List.setIfInBounds_toArray, List.set_cons_zero, List.set_cons_succ]
    refine wpAnyH_ready (rs := [2]) (by kernel_rfl) (by simp) ?_
    refine AllReadyH.cons (o := { dst := some 15, op := Op.call { callee := Callee.value (Operand.func 20), args := #[Operand.tmp 14], argTypes := #[23] }, type := 23, pos := "edns.go:41", after := #[{ on := 1, ground := Ground.data }], guard := none }) rfl (fun K hK => ?_) (AllReadyH.nil)
    go_simp
    refine (HCA.out _ HP.out.bel).mono ?_; rintro e w2 ⟨vva, rfl, ho, hb⟩
    obtain ⟨ava, cva, rfl⟩ := ho.shape
    rw [HKA.out]
    replace HP := Lib.hid (HP.out.later hb)
    clear ho hb
    try go_wp2_with fail
    refine hK.out _ _ ⟨HP.out.x.c 3 (by simp), HP.out.x.c 4 (by simp), HP.out.x.c 5 (by simp)⟩ (fun hHeld => ?_)
    clear hK K
    try simp only [Act.put, List.setIfInBounds_toArray, List.set_cons_zero, List.set_cons_succ]
    refine wpAnyH_take (i := 3) (oi := { dst := some 16, op := Op.call { callee := Callee.builtin Builtin.len, args := #[Operand.tmp 15], argTypes := #[23] }, type := 3, pos := "edns.go:41", after := #[{ on := 2, ground := Ground.data }], guard := none }) (v := ?_) rfl (by kernel_rfl) (by kernel_rfl) (by kernel_rfl) (fun _ _ _ h => h) (Or.inl ⟨by rfl, ?_⟩) (by assumption) ?_
    rotate_left 1
    · intro w hSw; (try dsimp only at hSw); go_simp; try (with_reducible rfl)
    try simp only [Act.put, List.setIfInBounds_toArray, List.set_cons_zero, List.set_cons_succ]
    refine wpAnyH_ready (rs := [6]) (by kernel_rfl) (by simp) ?_
    refine AllReadyH.cons (o := { dst := some 19, op := Op.call { callee := Callee.value (Operand.func 20), args := #[Operand.tmp 18], argTypes := #[23] }, type := 23, pos := "edns.go:41", after := #[{ on := 5, ground := Ground.data }, { on := 2, ground := Ground.chain }], guard := none }) rfl (fun K hK => ?_) (AllReadyH.nil)
    go_simp
    refine (HCN.out _ HP.out.bel).mono ?_; rintro e w3 ⟨vvn, rfl, ho, hb⟩
    obtain ⟨avn, cvn, rfl⟩ := ho.shape
    rw [HKN.out]
    replace HP := Lib.hid (HP.out.later hb)
    clear ho hb
    try go_wp2_with fail
    refine hK.out _ _ ⟨HP.out.x.c 3 (by simp), HP.out.x.c 4 (by simp), HP.out.x.c 5 (by simp)⟩ (fun hHeld => ?_)
    clear hK K
    try simp only [Act.put, List.setIfInBounds_toArray, List.set_cons_zero, List.set_cons_succ]
    refine wpAnyH_take (i := 7) (oi := { dst := some 20, op := Op.call { callee := Callee.builtin Builtin.len, args := #[Operand.tmp 19], argTypes := #[23] }, type := 3, pos := "edns.go:41", after := #[{ on := 6, ground := Ground.data }], guard := none }) (v := ?_) rfl (by kernel_rfl) (by kernel_rfl) (by kernel_rfl) (fun _ _ _ h => h) (Or.inl ⟨by rfl, ?_⟩) (by assumption) ?_
    rotate_left 1
    · intro w hSw; (try dsimp only at hSw); go_simp; try (with_reducible rfl)
    try simp only [Act.put, List.setIfInBounds_toArray, List.set_cons_zero, List.set_cons_succ]
    refine wpAnyH_take (i := 8) (oi := { dst := some 21, op := Op.binOp BinOp.add 3 (Operand.tmp 16) (Operand.tmp 20) 3, type := 3, pos := "edns.go:41", after := #[{ on := 3, ground := Ground.data }, { on := 7, ground := Ground.data }], guard := none }) (v := ?_) rfl (by kernel_rfl) (by kernel_rfl) (by kernel_rfl) (fun _ _ _ h => h) (Or.inl ⟨by rfl, ?_⟩) (by assumption) ?_
    rotate_left 1
    · intro w hSw; (try dsimp only at hSw); go_simp; try (with_reducible rfl)
    try simp only [Act.put, List.setIfInBounds_toArray, List.set_cons_zero, List.set_cons_succ]
    refine wpAnyH_ready (rs := [11]) (by kernel_rfl) (by simp) ?_
    refine AllReadyH.cons (o := { dst := some 24, op := Op.call { callee := Callee.value (Operand.func 20), args := #[Operand.tmp 23], argTypes := #[23] }, type := 23, pos := "edns.go:41", after := #[{ on := 10, ground := Ground.data }, { on := 6, ground := Ground.chain }], guard := none }) rfl (fun K hK => ?_) (AllReadyH.nil)
    go_simp
    refine (HCR.out _ HP.out.bel).mono ?_; rintro e w4 ⟨vvr, rfl, ho, hb⟩
    obtain ⟨avr, cvr, rfl⟩ := ho.shape
    rw [HKR.out]
    replace HP := Lib.hid (HP.out.later hb)
    clear ho hb
    try go_wp2_with fail
    refine hK.out _ _ ⟨HP.out.x.c 3 (by simp), HP.out.x.c 4 (by simp), HP.out.x.c 5 (by simp)⟩ (fun hHeld => ?_)
    clear hK K
    try simp only [Act.put, List.setIfInBounds_toArray, List.set_cons_zero, List.set_cons_succ]
    refine wpAnyH_take (i := 12) (oi := { dst := some 25, op := Op.call { callee := Callee.builtin Builtin.len, args := #[Operand.tmp 24], argTypes := #[23] }, type := 3, pos := "edns.go:41", after := #[{ on := 11, ground := Ground.data }], guard := none }) (v := ?_) rfl (by kernel_rfl) (by kernel_rfl) (by kernel_rfl) (fun _ _ _ h => h) (Or.inl ⟨by rfl, ?_⟩) (by assumption) ?_
    rotate_left 1
    · intro w hSw; (try dsimp only at hSw); go_simp; try (with_reducible rfl)
    try simp only [Act.put, List.setIfInBounds_toArray, List.set_cons_zero, List.set_cons_succ]
    refine wpAnyH_take (i := 13) (oi := { dst := some 26, op := Op.binOp BinOp.add 3 (Operand.tmp 21) (Operand.tmp 25) 3, type := 3, pos := "edns.go:41", after := #[{ on := 8, ground := Ground.data }, { on := 12, ground := Ground.data }], guard := none }) (v := ?_) rfl (by kernel_rfl) (by kernel_rfl) (by kernel_rfl) (fun _ _ _ h => h) (Or.inl ⟨by rfl, ?_⟩) (by assumption) ?_
    rotate_left 1
    · intro w hSw; (try dsimp only at hSw); go_simp; try (with_reducible rfl)
    try simp only [Act.put, List.setIfInBounds_toArray, List.set_cons_zero, List.set_cons_succ]
    refine wpAnyH_take (i := 14) (oi := { dst := some 27, op := Op.binOp BinOp.gtr 3 (Operand.tmp 26) (Operand.const (Value.int IntKind.i64 0)) 3, type := 4, pos := "edns.go:41", after := #[{ on := 13, ground := Ground.data }], guard := none }) (v := ?_) rfl (by kernel_rfl) (by kernel_rfl) (by kernel_rfl) (fun _ _ _ h => h) (Or.inl ⟨by rfl, ?_⟩) (by assumption) ?_
    rotate_left 1
    · intro w hSw; (try dsimp only at hSw); go_simp; try (with_reducible rfl)
    try simp only [Act.put, List.setIfInBounds_toArray, List.set_cons_zero, List.set_cons_succ]
    refine wpAnyH_done (by kernel_rfl) ?_ _
    clear hHeld
    obtain ⟨WR, hWR⟩ : ∃ X, w4 = X := ⟨_, rfl⟩
    rw [hWR] at HP ⊢
    clear hWR
    obtain ⟨z0, z1, z2, z3, z4, z5⟩ := HP.out.z.six
    have fz := HP.out.z.fz
    by_cases hk0 : 0 < kk
    · have t1 : decide ((0 : Int) < (kA : Int) + kN + kR) = true := by simp; omega
      have e7 : PU = (ms00, 7) := by rw [← HPU.out, if_neg (by simp), if_pos (by omega)]; rfl
      subst e7
      go_wp2_with fail
      clear z0 z1 z2 z3 z4 z5 fz
      have hk := HP.out.fin (.int .i64 0) (.int .i64 0) (.slice none 0 0) (.slice none 0 0) (.slice none 0 0) (.slice none 0 0)
      obtain ⟨m0, m1, m2, m3, m4, m5⟩ := hk.2.1.six
      have hbF := hk.1
      unfold put6 at m0 m1 m2 m3 m4 m5 hbF
      refine bodyPost_ret (v := .tuple #[.agg #[.int .i64 0, .int .i64 0, .slice none 0 0, .slice none 0 0, .slice none 0 0, .slice none 0 0], .int .i64 7]) (by simp [results, Tryz.results7, go_sem, m0, m1, m2, m3, m4, m5]) rfl ⟨_, rfl, ownM_zero _ _, by first | exact hbF | (rw [hN]; exact hbF)⟩
    · have t1 : decide ((0 : Int) < (kA : Int) + kN + kR) = false := by simp; omega
      obtain ⟨LX, hLX⟩ : ∃ L, lar ++ [edR ⟨es, ex, ev, eb, lo⟩] = L := ⟨_, rfl⟩
      have HLX := Lib.hid hLX
      have hAM : adM ⟨i0, f0, l, lan, lns, lar⟩ ⟨es, ex, ev, eb, lo⟩ = ⟨i0, f0, l, lan, lns, LX⟩ := by rw [← hLX]; rfl
      have e7 : PU = (⟨i0, f0, l, lan, lns, LX⟩, 0) := by rw [← HPU.out, if_neg (by simp), if_neg (by omega), hAM]
      have HMX := Lib.hid (by have h := HMAD.out HEC.out; rw [hAM] at h; exact h : Mild ⟨i0, f0, l, lan, lns, LX⟩)
      clear hLX hAM
      subst e7
      go_wp2_with fail
      clear z0 z1 z2 z3 z4 z5 fz
      replace HP := Lib.hid (HP.out.later (Below.refl _ _).drew)
      obtain ⟨XR, hXR⟩ : ∃ x, edR ⟨es, ex, ev, eb, lo⟩ = x := ⟨_, rfl⟩
      have HREC2 := Lib.hid (fun wx (hb : Below N w wx) => record_any (HE.out wx hb) (Nat.le_trans HHI.out.2 (by have := hb.size; omega)) HEC.out)
      rw [hXR] at HREC2
      refine wp_region_tilk (S := (fun wx => wx.cell? ⟨N, 5, none⟩ = some (.slice ra2 lr rc2) ∧ wx.cell? ⟨N + 1, 0, none⟩ = some (.int .i64 es) ∧ wx.cell? ⟨N + 1, 1, none⟩ = some (.int .i64 ex) ∧ wx.cell? ⟨N + 1, 2, none⟩ = some (.int .i64 ev) ∧ wx.cell? ⟨N + 1, 3, none⟩ = some (.bool eb) ∧ wx.cell? ⟨N + 1, 4, none⟩ = some (.slice oa lo.length oc))) [14] (by kernel_rfl) ⟨HP.out.x.c 5 (by simp), HP.out.e.five⟩ (fun hHeld => ?_)
      refine tilk_take (i := 0) (oi := { dst := some 29, op := Op.fieldAddr 25 (Operand.tmp 2) 5, type := 0, pos := "edns.go:45", after := #[], guard := none }) (v := ?_) rfl (by kernel_rfl) (by kernel_rfl) (by kernel_rfl) (fun _ _ _ h => h) (Or.inl ⟨by rfl, ?_⟩) (by assumption) ?_
      rotate_left 1
      · intro w hSw; (try dsimp only at hSw); go_simp; try (with_reducible rfl)
      try simp only [Act.put, List.setIfInBounds_toArray, List.set_cons_zero, List.set_cons_succ]
      refine tilk_take (i := 1) (oi := { dst := some 30, op := Op.load 23 (Operand.tmp 29), type := 23, pos := "edns.go:45", after := #[{ on := 0, ground := Ground.data }], guard := none }) (v := ?_) rfl (by kernel_rfl) (by kernel_rfl) (by kernel_rfl) (fun _ _ _ h => h) (Or.inl ⟨by rfl, ?_⟩) (by assumption) ?_
      rotate_left 1
      · intro w hSw; (try dsimp only at hSw); go_simp; try (with_reducible rfl)
      try simp only [Act.put, List.setIfInBounds_toArray, List.set_cons_zero, List.set_cons_succ]
      refine tilk_take (i := 2) (oi := { dst := some 31, op := Op.fieldAddr 25 (Operand.tmp 2) 5, type := 0, pos := "edns.go:45", after := #[], guard := none }) (v := ?_) rfl (by kernel_rfl) (by kernel_rfl) (by kernel_rfl) (fun _ _ _ h => h) (Or.inl ⟨by rfl, ?_⟩) (by assumption) ?_
      rotate_left 1
      · intro w hSw; (try dsimp only at hSw); go_simp; try (with_reducible rfl)
      try simp only [Act.put, List.setIfInBounds_toArray, List.set_cons_zero, List.set_cons_succ]
      refine tilk_take (i := 3) (oi := { dst := some 32, op := Op.load 23 (Operand.tmp 31), type := 23, pos := "edns.go:45", after := #[{ on := 2, ground := Ground.data }], guard := none }) (v := ?_) rfl (by kernel_rfl) (by kernel_rfl) (by kernel_rfl) (fun _ _ _ h => h) (Or.inl ⟨by rfl, ?_⟩) (by assumption) ?_
      rotate_left 1
      · intro w hSw; (try dsimp only at hSw); go_simp; try (with_reducible rfl)
      try simp only [Act.put, List.setIfInBounds_toArray, List.set_cons_zero, List.set_cons_succ]
      refine tilk_take (i := 4) (oi := { dst := some 33, op := Op.call { callee := Callee.builtin Builtin.len, args := #[Operand.tmp 32], argTypes := #[23] }, type := 3, pos := "edns.go:45", after := #[{ on := 3, ground := Ground.data }], guard := none }) (v := ?_) rfl (by kernel_rfl) (by kernel_rfl) (by kernel_rfl) (fun _ _ _ h => h) (Or.inl ⟨by rfl, ?_⟩) (by assumption) ?_
      rotate_left 1
      · intro w hSw; (try dsimp only at hSw); go_simp; try (with_reducible rfl)
      try simp only [Act.put, List.setIfInBounds_toArray, List.set_cons_zero, List.set_cons_succ]
      refine tilk_take (i := 5) (oi := { dst := some 34, op := Op.fieldAddr 25 (Operand.tmp 2) 5, type := 0, pos := "edns.go:45", after := #[], guard := none }) (v := ?_) rfl (by kernel_rfl) (by kernel_rfl) (by kernel_rfl) (fun _ _ _ h => h) (Or.inl ⟨by rfl, ?_⟩) (by assumption) ?_
      rotate_left 1
      · intro w hSw; (try dsimp only at hSw); go_simp; try (with_reducible rfl)
      try simp only [Act.put, List.setIfInBounds_toArray, List.set_cons_zero, List.set_cons_succ]
      refine tilk_take (i := 6) (oi := { dst := some 35, op := Op.load 23 (Operand.tmp 34), type := 23, pos := "edns.go:45", after := #[{ on := 5, ground := Ground.data }], guard := none }) (v := ?_) rfl (by kernel_rfl) (by kernel_rfl) (by kernel_rfl) (fun _ _ _ h => h) (Or.inl ⟨by rfl, ?_⟩) (by assumption) ?_
      rotate_left 1
      · intro w hSw; (try dsimp only at hSw); go_simp; try (with_reducible rfl)
      try simp only [Act.put, List.setIfInBounds_toArray, List.set_cons_zero, List.set_cons_succ]
      refine tilk_take (i := 7) (oi := { dst := some 36, op := Op.call { callee := Callee.builtin Builtin.len, args := #[Operand.tmp 35], argTypes := #[23] }, type := 3, pos := "edns.go:45", after := #[{ on := 6, ground := Ground.data }], guard := none }) (v := ?_) rfl (by kernel_rfl) (by kernel_rfl) (by kernel_rfl) (fun _ _ _ h => h) (Or.inl ⟨by rfl, ?_⟩) (by assumption) ?_
      rotate_left 1
      · intro w hSw; (try dsimp only at hSw); go_simp; try (with_reducible rfl)
      try simp only [Act.put, List.setIfInBounds_toArray, List.set_cons_zero, List.set_cons_succ]
      refine tilk_take (i := 8) (oi := { dst := some 37, op := Op.slice 23 (Operand.tmp 30) none (some (Operand.tmp 33)) (some (Operand.tmp 36)), type := 23, pos := "edns.go:45", after := #[{ on := 1, ground := Ground.data }, { on := 4, ground := Ground.data }, { on := 7, ground := Ground.data }], guard := none }) (v := ?_) rfl (by kernel_rfl) (by kernel_rfl) (by kernel_rfl) (fun _ _ _ h => h) (Or.inl ⟨by rfl, ?_⟩) (by assumption) ?_
      rotate_left 1
      · intro w hSw; (try dsimp only at hSw); go_simp; try (with_reducible rfl)
      try simp only [Act.put, List.setIfInBounds_toArray, List.set_cons_zero, List.set_cons_succ]
      refine tilk_take (i := 9) (oi := { dst := some 38, op := Op.load 28 (Operand.tmp 3), type := 28, pos := "edns.go:45", after := #[], guard := none }) (v := ?_) rfl (by kernel_rfl) (by kernel_rfl) (by kernel_rfl) (fun _ _ _ h => h) (Or.inl ⟨by rfl, ?_⟩) (by assumption) ?_
      rotate_left 1
      · intro w hSw; (try dsimp only at hSw); go_simp; try (with_reducible rfl)
      try simp only [Act.put, List.setIfInBounds_toArray, List.set_cons_zero, List.set_cons_succ]
      refine tilk_ready (rs := [10]) (by kernel_rfl) (by simp) ?_
      refine TilkAll.cons (o := { dst := some 39, op := Op.call { callee := Callee.value (Operand.func 21), args := #[Operand.tmp 38], argTypes := #[28] }, type := 52, pos := "edns.go:45", after := #[{ on := 9, ground := Ground.data }], guard := none }) rfl (fun K hK => ?_) (TilkAll.nil)
      go_simp
      refine (HREC2.out _ HP.out.bel).mono ?_; rintro e w5 ⟨rfl, hb⟩
      replace HP := Lib.hid (HP.out.later hb)
      clear hb
      try go_wp2_with fail
      refine hK.out _ _ ⟨HP.out.x.c 5 (by simp), HP.out.e.five⟩ (fun hHeld => ?_)
      clear hK K
      try simp only [Act.put, List.setIfInBounds_toArray, List.set_cons_zero, List.set_cons_succ]
      refine tilk_ready (rs := [11]) (by kernel_rfl) (by simp) ?_
      refine TilkAll.cons (o := { dst := some 40, op := Op.buildSlice 23 1 #[(0, Operand.tmp 39)], type := 23, pos := "edns.go:45", after := #[{ on := 10, ground := Ground.data }], guard := none }) rfl (fun K hK => ?_) (TilkAll.nil)
      have hone := sr_one w5 XR
      obtain ⟨wn, hwn⟩ : ∃ X, w5.alloc (.cells #[.string (bs XR.n), .int .i64 XR.t, .int .i64 XR.c, .int .i64 XR.l, .string (bs XR.d)] 52) = X := ⟨_, rfl⟩
      have hb : Below w5.heap.size w5 wn := by rw [← hwn]; exact (Below.refl _ _).alloc (Nat.le_refl _) _
      rw [hwn] at hone
      have HONE := Lib.hid hone
      replace HP := Lib.hid (HP.out.later hb)
      go_simp
      clear hone hb hwn
      refine hK.out _ _ ⟨HP.out.x.c 5 (by simp), HP.out.e.five⟩ (fun hHeld => ?_)
      clear hK K
      try simp only [Act.put, List.setIfInBounds_toArray, List.set_cons_zero, List.set_cons_succ]
      refine tilk_ready (rs := [12]) (by kernel_rfl) (by simp) ?_
      refine TilkAll.cons (o := { dst := some 41, op := Op.call { callee := Callee.builtin Builtin.append, args := #[Operand.tmp 37, Operand.tmp 40], argTypes := #[23, 23] }, type := 23, pos := "edns.go:45", after := #[{ on := 8, ground := Ground.data }, { on := 11, ground := Ground.data }, { on := 10, ground := Ground.chain }], guard := none }) rfl (fun K hK => ?_) (TilkAll.nil)
      obtain ⟨a6, c6, w6, hr6, ho6, hb6⟩ := app_full (B := N + 2) (by have h := HR2.out _ HP.out.bel; rw [← HLR.out] at h; exact h) HONE.out (by have := HL.out; omega) (by have := HP.out.size; omega)
      rw [HLR.out] at hr6 ho6
      have HR6 := Lib.hid hr6
      have HSR6 := Lib.hid ho6
      replace HP := Lib.hid (HP.out.later hb6)
      clear hr6 ho6 hb6
      refine oper_app_run (.tmp 37) (.tmp 40) 23 23 rfl rfl rfl rfl HR6.out ?_
      refine hK.out _ _ ⟨HP.out.x.c 5 (by simp), HP.out.e.five⟩ (fun hHeld => ?_)
      clear hK K
      try simp only [Act.put, List.setIfInBounds_toArray, List.set_cons_zero, List.set_cons_succ]
      refine tilk_take (i := 13) (oi := { dst := some 42, op := Op.fieldAddr 25 (Operand.tmp 2) 5, type := 0, pos := "edns.go:45", after := #[{ on := 0, ground := Ground.phase }, { on := 1, ground := Ground.phase }, { on := 2, ground := Ground.phase }, { on := 3, ground := Ground.phase }, { on := 4, ground := Ground.phase }, { on := 5, ground := Ground.phase }, { on := 6, ground := Ground.phase }, { on := 7, ground := Ground.phase }, { on := 8, ground := Ground.phase }, { on := 9, ground := Ground.phase }, { on := 10, ground := Ground.phase }, { on := 11, ground := Ground.phase }, { on := 12, ground := Ground.phase }], guard := none }) (v := ?_) rfl (by kernel_rfl) (by kernel_rfl) (by kernel_rfl) (fun _ _ _ h => h) (Or.inl ⟨by rfl, ?_⟩) (by assumption) ?_
      rotate_left 1
      · intro w hSw; (try dsimp only at hSw); go_simp; try (with_reducible rfl)
      try simp only [Act.put, List.setIfInBounds_toArray, List.set_cons_zero, List.set_cons_succ]
      refine tilk_ready (rs := [14]) (by kernel_rfl) (by simp) ?_
      refine TilkAll.last (i := 14) (o := { dst := none, op := Op.store 23 (Operand.tmp 42) (Operand.tmp 41), type := 0, pos := "edns.go:45", after := #[{ on := 13, ground := Ground.data }, { on := 12, ground := Ground.data }, { on := 12, ground := Ground.chain }, { on := 0, ground := Ground.phase }, { on := 1, ground := Ground.phase }, { on := 2, ground := Ground.phase }, { on := 3, ground := Ground.phase }, { on := 4, ground := Ground.phase }, { on := 5, ground := Ground.phase }, { on := 6, ground := Ground.phase }, { on := 7, ground := Ground.phase }, { on := 8, ground := Ground.phase }, { on := 9, ground := Ground.phase }, { on := 10, ground := Ground.phase }, { on := 11, ground := Ground.phase }, { on := 12, ground := Ground.phase }], guard := none }) rfl (fun K hK => ?_) (TilkAll.nil)
      obtain ⟨r0, r1, r2, r3, r4, r5⟩ := HP.out.x.six
      have fz := HP.out.x.fz
      go_simp
      clear r0 r1 r2 r3 r4 r5 fz
      replace HP := Lib.hid (HP.out.put5 (.slice a6 (lr + 1) c6))
      replace HSR6 := Lib.hid (row_box (o := 5) (u := .slice a6 (lr + 1) c6) HSR6.out)
      refine hK.out _ _ trivial (fun hHeld => ?_)
      clear hK K
      try simp only [Act.put, List.setIfInBounds_toArray, List.set_cons_zero, List.set_cons_succ]
      refine tilk_done (by kernel_rfl) ?_ _
      clear hHeld
      obtain ⟨WE, hWE⟩ : ∃ X, w6.setCell ⟨N, 5, none⟩ (.slice a6 (lr + 1) c6) = X := ⟨_, rfl⟩
      rw [hWE] at HP HSR6 ⊢
      clear hWE
      obtain ⟨r0, r1, r2, r3, r4, r5⟩ := HP.out.x.six
      obtain ⟨z0, z1, z2, z3, z4, z5⟩ := HP.out.z.six
      have fy := HP.out.z.fz
      have g1 : SQ WE WE.heap.size (.slice xa lq xc) l := by rw [← HLQ.out]; exact (HQ.out _ HP.out.bel).wide (by have := HP.out.size; have := HHI.out; omega)
      have g2 : SR WE WE.heap.size (.slice aa la ac) lan := by rw [← HLA.out]; exact (HA2.out _ HP.out.bel).wide (by have := HP.out.size; have := HHI.out; omega)
      have g3 : SR WE WE.heap.size (.slice na ln nc) lns := by rw [← HLN.out]; exact (HN2.out _ HP.out.bel).wide (by have := HP.out.size; have := HHI.out; omega)
      have g4 : SR WE WE.heap.size (.slice a6 (lr + 1) c6) (lar ++ [XR]) := Lst.own HSR6.out (by have := HL.out; have := HLR.out; simp; omega)
      rw [← hXR, HLX.out] at g4
      have hmg : Mg WE WE.heap.size (.agg #[.int .i64 i0, .int .i64 f0, .slice xa lq xc, .slice aa la ac, .slice na ln nc, .slice a6 (lr + 1) c6]) ⟨i0, f0, l, lan, lns, LX⟩ := ⟨_, _, _, _, rfl, g1, g2, g3, g4⟩
      have HOW := Lib.hid (ownMild_any hmg (Nat.le_refl _) HMX.out)
      clear hmg g1 g2 g3 g4 HCA HCN HCR
      go_wp2_with fail
      refine HOW.out.mono ?_; rintro e w7 ⟨v, rfl, ho, hb⟩
      have HSE := Lib.hid HP.out.size
      replace HP := Lib.hid (HP.out.later hb)
      have HO := Lib.hid ho
      obtain ⟨o1, o2, o3, o4, rfl, j1, j2, j3, j4⟩ := ho
      obtain ⟨b1, e1, rfl⟩ := row_shape j1
      obtain ⟨b2, e2, rfl⟩ := row_shape j2
      obtain ⟨b3, e3, rfl⟩ := row_shape j3
      obtain ⟨b4, e4, rfl⟩ := row_shape j4
      clear r0 r1 r2 r3 r4 r5 z0 z1 z2 z3 z4 z5 fy hb j1 j2 j3 j4
      obtain ⟨z0, z1, z2, z3, z4, z5⟩ := HP.out.z.six
      have fy := HP.out.z.fz
      go_wp2_with fail
      clear z0 z1 z2 z3 z4 z5 fy
      have hk := HP.out.fin (.int .i64 i0) (.int .i64 f0) (.slice b1 l.length e1) (.slice b2 lan.length e2) (.slice b3 lns.length e3) (.slice b4 LX.length e4)
      obtain ⟨m0, m1, m2, m3, m4, m5⟩ := hk.2.1.six
      have HF := Lib.hid (And.intro hk.1 (HO.out.aside hk.2.2 (fun k hk => by have := HSE.out; omega)))
      unfold put6 at m0 m1 m2 m3 m4 m5 HF
      clear hk
      refine bodyPost_ret (v := .tuple #[.agg #[.int .i64 i0, .int .i64 f0, .slice b1 l.length e1, .slice b2 lan.length e2, .slice b3 lns.length e3, .slice b4 LX.length e4], .int .i64 0]) (by simp [results, Tryz.results7, go_sem, m0, m1, m2, m3, m4, m5]) rfl ⟨_, rfl, ?_, ?_⟩
      · first | exact HF.out.2.base (by have := HSE.out; omega) | (rw [hN]; exact HF.out.2.base (by have := HSE.out; omega))
      · first | exact HF.out.1 | (rw [hN]; exact HF.out.1)
  · have e7 : PU = (ms00, EC) := by rw [← HPU.out, if_pos hE0]; rfl
    subst e7
    have t1 : (EC != 0) = true := by simpa using hE0
    go_wp2_with fail
    clear z0 z1 z2 z3 z4 z5 fz
    have hk := HP.out.fin (.int .i64 0) (.int .i64 0) (.slice none 0 0) (.slice none 0 0) (.slice none 0 0) (.slice none 0 0)
    obtain ⟨m0, m1, m2, m3, m4, m5⟩ := hk.2.1.six
    have hbF := hk.1
    unfold put6 at m0 m1 m2 m3 m4 m5 hbF
    refine bodyPost_ret (v := .tuple #[.agg #[.int .i64 0, .int .i64 0, .slice none 0 0, .slice none 0 0, .slice none 0 0, .slice none 0 0], .int .i64 EC]) (by simp [results, Tryz.results7, go_sem, m0, m1, m2, m3, m4, m5]) rfl ⟨_, rfl, ownM_zero _ _, by first | exact hbF | (rw [hN]; exact hbF)⟩
end Go.Proofs.YtpdaekgldgoalaaGreat

/-
  What is put is told: plainly.
-/
namespace Go.Proofs.YtpdaekgldgoalaaGreat
open Go.RowKit Go.Shelf
set_option linter.unusedVariables false
set_option linter.unusedSimpArgs false
set_option maxRecDepth 100000

theorem u8n (n : Int) (h0 : 0 ≤ n) (h1 : n ≤ 255) : (UInt8.ofNat n.toNat).toNat = n.toNat := by rw [UInt8.toNat_ofNat']; omega
/-- Two bytes read where they stand. -/
theorem n2_b2 (pre post : List UInt8) (n : Int) (h0 : 0 ≤ n) (h1 : n ≤ 65535) : n2 (pre ++ (b2 n ++ post)) pre.length = n.toNat := by
  unfold n2 b2
  have e0 : (pre ++ ([UInt8.ofNat (n / 256).toNat, UInt8.ofNat (n % 256).toNat] ++ post)).getD pre.length 0 = UInt8.ofNat (n / 256).toNat := by
    rw [List.getD, List.getElem?_append_right (Nat.le_refl _), Nat.sub_self]; rfl
  have e1 : (pre ++ ([UInt8.ofNat (n / 256).toNat, UInt8.ofNat (n % 256).toNat] ++ post)).getD (pre.length + 1) 0 = UInt8.ofNat (n % 256).toNat := by
    rw [List.getD, List.getElem?_append_right (by omega), show pre.length + 1 - pre.length = 1 by omega]; rfl
  rw [e0, e1, u8n _ (by omega) (by omega), u8n _ (by omega) (by omega)]
  omega
/-- An option read where it stands. -/
theorem otR_at (pre post : List UInt8) (x : Ot) (h0 : 0 ≤ x.c) (h1 : x.c ≤ 65535) (hd : x.d.length ≤ 65535) : otR (pre ++ (otB x ++ post)) pre.length = .ok x (pre ++ otB x).length := by
  have eb : pre ++ (otB x ++ post) = pre ++ (b2 x.c ++ (b2 x.d.length ++ (x.d ++ post))) := by unfold otB; simp [List.append_assoc]
  have eb2 : pre ++ (otB x ++ post) = (pre ++ b2 x.c) ++ (b2 x.d.length ++ (x.d ++ post)) := by rw [eb, List.append_assoc]
  have n0 : n2 (pre ++ (otB x ++ post)) pre.length = x.c.toNat := by rw [eb]; exact n2_b2 _ _ _ h0 h1
  have n1 : n2 (pre ++ (otB x ++ post)) (pre.length + 2) = x.d.length := by
    have h := n2_b2 (pre ++ b2 x.c) (x.d ++ post) (x.d.length : Int) (by omega) (by omega)
    rw [List.length_append, b2_len, ← eb2] at h
    rw [h]; rfl
  have hl : (pre ++ (otB x ++ post)).length = pre.length + (4 + x.d.length) + post.length := by rw [List.length_append, List.length_append, otB_len]; omega
  have hdrop : (pre ++ (otB x ++ post)).drop (pre.length + 4) = x.d ++ post := by
    have e : pre ++ (otB x ++ post) = (pre ++ (b2 x.c ++ b2 (x.d.length : Nat))) ++ (x.d ++ post) := by rw [eb]; simp [List.append_assoc]
    rw [e, show pre.length + 4 = (pre ++ (b2 x.c ++ b2 (x.d.length : Nat))).length by simp [b2_len], List.drop_left]
  unfold otR
  rw [n0, n1, if_neg (by omega), if_neg (by omega), hdrop, List.take_left]
  have hc : ((x.c.toNat : Nat) : Int) = x.c := by omega
  rw [hc, List.length_append, otB_len]
  congr 1
  omega
theorem otsR_at : ∀ (l : List Ot) (pre : List UInt8) (n : Nat), (∀ x ∈ l, (0 ≤ x.c ∧ x.c ≤ 65535) ∧ x.d.length ≤ 65535) → (otsB l).length ≤ n → otsR (pre ++ otsB l) n pre.length = (l, true)
  | [], pre, n, _, _ => by
    have e : otsB [] = [] := rfl
    rw [e, List.append_nil]
    cases n with
    | zero => rfl
    | succ n => unfold otsR; rw [if_pos (Nat.le_refl _)]
  | x :: r, pre, n, h, hn => by
    have e : otsB (x :: r) = otB x ++ otsB r := rfl
    have hx := h x (by simp)
    have hl := otB_len x
    rw [e, List.length_append] at hn
    match n, hn with
    | 0, hn => omega
    | n + 1, hn =>
      have hr := otR_at pre (otsB r) x hx.1.1 hx.1.2 hx.2
      have ih := otsR_at r (pre ++ otB x) n (fun y hy => h y (by simp [hy])) (by omega)
      rw [List.append_assoc] at ih
      unfold otsR
      rw [e, if_neg (by rw [List.length_append, List.length_append]; omega), hr]
      simp only
      rw [ih]
theorem ed_ttl (x v : Int) (b : Bool) (h0 : 0 ≤ x) (h1 : x ≤ 127) (h2 : 0 ≤ v) (h3 : v ≤ 255) :
    (x * 16777216 + v * 65536 + (if b = true then 32768 else 0)) / 16777216 = x ∧ (x * 16777216 + v * 65536 + (if b = true then 32768 else 0)) / 65536 % 256 = v ∧
      decide ((x * 16777216 + v * 65536 + (if b = true then (32768 : Int) else 0)) / 32768 % 2 = 1) = b ∧ 0 ≤ x * 16777216 + v * 65536 + (if b = true then 32768 else 0) ∧ x * 16777216 + v * 65536 + (if b = true then 32768 else 0) ≤ 2147483647 := by
  cases b with
  | true => refine ⟨?_, ?_, ?_, ?_, ?_⟩ <;> simp <;> omega
  | false => refine ⟨?_, ?_, ?_, ?_, ?_⟩ <;> simp <;> omega
theorem recR_edR {e : Ed} (h : chkE e = 0) : recE (edR e) = (e, 0) := by
  obtain ⟨hs, hx, hv, hc, hz⟩ := chkE_in h
  obtain ⟨t1, t2, t3, t4, t5⟩ := ed_ttl e.x e.v e.b hx.1 hx.2 hv.1 hv.2
  have hr := otsR_at e.o [] (otsB e.o).length (fun x hxm => ⟨hc x hxm, by have := szO_mem hxm; omega⟩) (Nat.le_refl _)
  rw [List.nil_append, List.length_nil] at hr
  unfold recE edR
  simp only [hr]
  rw [if_pos ⟨trivial, hs, ⟨t4, t5⟩, trivial⟩, t1, t2, t3]
theorem opL_app (a b : List Rc) : opL (a ++ b) = opL a ++ opL b := List.filter_append ..
theorem edR_isO (e : Ed) : opL [edR e] = [edR e] := rfl
/-- What is put is told. -/
theorem ofM_adM {m : Ms} {e : Ed} (h : chkE e = 0) (h0 : (opL m.an).length + (opL m.ns).length + (opL m.ar).length = 0) : ofM (adM m e) = (e, true, 0) := by
  have e1 : opL m.ar = [] := List.length_eq_zero_iff.mp (by omega)
  show ofL ((opL m.an).length + (opL m.ns).length) (opL (m.ar ++ [edR e])) = _
  rw [opL_app, e1, edR_isO, List.nil_append, show (opL m.an).length + (opL m.ns).length = 0 by omega, ofL_one, recR_edR h]
  simp
theorem puM_adM {m : Ms} {e : Ed} (h : chkE e = 0) : puM (adM m e) e = (⟨0, 0, [], [], [], []⟩, 7) := by
  unfold puM
  rw [if_neg (by rw [h]; simp), if_pos]
  show 0 < (opL m.an).length + (opL m.ns).length + (opL (m.ar ++ [edR e])).length
  rw [opL_app, edR_isO, List.length_append, List.length_singleton]
  omega
theorem noL_none {l : List Rc} (h : opL l = []) : noL l = l := by
  unfold noL
  rw [List.filter_eq_self]
  intro x hx
  have h2 := List.filter_eq_nil_iff.mp h x hx
  simpa using h2
theorem stM_adM {m : Ms} {e : Ed} (h0 : (opL m.an).length + (opL m.ns).length + (opL m.ar).length = 0) : stM (adM m e) = m := by
  have e1 := noL_none (List.length_eq_zero_iff.mp (show (opL m.an).length = 0 by omega))
  have e2 := noL_none (List.length_eq_zero_iff.mp (show (opL m.ns).length = 0 by omega))
  have e3 := noL_none (List.length_eq_zero_iff.mp (show (opL m.ar).length = 0 by omega))
  have e4 : noL (m.ar ++ [edR e]) = m.ar := by
    unfold noL at e3 ⊢
    rw [List.filter_append, e3]
    exact List.append_nil _
  unfold stM
  rw [show (adM m e).an = m.an from rfl, show (adM m e).ns = m.ns from rfl, show (adM m e).ar = m.ar ++ [edR e] from rfl, e1, e2, e4]
  rfl
theorem codM_adM {m : Ms} {e : Ed} (h : chkE e = 0) (h0 : (opL m.an).length + (opL m.ns).length + (opL m.ar).length = 0) : codM (adM m e) = m.fl % 16 + 16 * e.x := by
  unfold codM
  rw [ofM_adM h h0]
  rfl
theorem roM_adM {m : Ms} {e : Ed} (h : chkE e = 0) (h0 : (opL m.an).length + (opL m.ns).length + (opL m.ar).length = 0) : roM (adM m e) = if 512 ≤ e.s then e.s else 512 := by
  unfold roM
  rw [ofM_adM h h0]
/-- What Put tells: the error of Check; or that there is one; or the message. -/
theorem puM_ways (m : Ms) (e : Ed) : (chkE e ≠ 0 ∧ puM m e = (⟨0, 0, [], [], [], []⟩, chkE e)) ∨ (chkE e = 0 ∧ puM m e = (⟨0, 0, [], [], [], []⟩, 7)) ∨ (chkE e = 0 ∧ (opL m.an).length + (opL m.ns).length + (opL m.ar).length = 0 ∧ puM m e = (adM m e, 0)) := by
  unfold puM
  by_cases h : chkE e = 0
  · rw [if_neg (by rw [h]; simp)]
    by_cases h0 : 0 < (opL m.an).length + (opL m.ns).length + (opL m.ar).length
    · rw [if_pos h0]; exact .inr (.inl ⟨h, rfl⟩)
    · rw [if_neg h0]; exact .inr (.inr ⟨h, by omega, rfl⟩)
  · rw [if_pos h]; exact .inl ⟨h, rfl⟩
end Go.Proofs.YtpdaekgldgoalaaGreat
