/-
  (*bytes.Buffer).grow, of a buffer that keeps nothing.
-/
import Derived.Test.YtlkafakanoefmaaDoorZ02
namespace Go.Proofs.YtlkafakanoefmaaDoor
open Go.RowKit Go.Shelf
set_option linter.unusedVariables false
set_option linter.unusedSimpArgs false
set_option maxRecDepth 100000
variable {cs : Nat → Option Value}

theorem gs_head {w : World} {g c : Nat} (k : Nat) (hb : g < w.heap.size) (hk : 1 ≤ k) (hkl : k ≤ 100000000) (hc : c ≤ 1000000000) :
    Calls Tryd.prog 46 #[.slice (some ⟨g, 0, none⟩) 0 c, .int .i64 k] w fun e w' => ∃ cap ys, e = .returned (.slice (some ⟨w.heap.size, 0, none⟩) 0 cap) ∧ GsAt w 0 [] k cap ys w' := by
  refine (gs_any (g := g) (off := 0) (c := c) [] k (fun j hj => by simp at hj) hb (Nat.zero_le _) hk hc (by simp; omega)).mono fun e w' hp => ?_
  obtain ⟨cap, ys, h1, h2, h3, h4, h5, h6, h7⟩ := hp
  exact ⟨cap, ys, h1, h2, h3, rfl, by simpa using h5, h6, h7⟩

theorem gs_none {w : World} (k : Nat) (hk : 1 ≤ k) (hkl : k ≤ 100000000) :
    Calls Tryd.prog 46 #[.slice none 0 0, .int .i64 k] w fun e w' => ∃ cap ys, e = .returned (.slice (some ⟨w.heap.size, 0, none⟩) 0 cap) ∧ GsAt w 0 [] k cap ys w' := by
  refine (gs_nil k hk (by omega) w).mono fun e w' hp => ?_
  obtain ⟨cap, ys, h1, h2, h3, h4, h5, h6, h7⟩ := hp
  exact ⟨cap, ys, h1, h2, h3, rfl, by simpa using h5, h6, h7⟩

theorem from_zero (a : Option Addr) (c : Nat) (ha : ∀ x, a = some x → ∃ g, x = ⟨g, 0, none⟩) (wx : World) : (Instr.slice 22 (.slice a 0 c) (some (.int .i64 0)) none none).run Tryd.prog wx = .ok (.slice a 0 c) wx := by
  have h := from_eq (n := 0) (c := c) (off := 0) a (Nat.le_refl _) (Nat.zero_le _) wx
  rw [show ((0 : Nat) : Int) = 0 by rfl] at h
  rw [h]
  unfold sliced
  cases a with
  | none => simp
  | some x =>
    obtain ⟨g, rfl⟩ := ha x rfl
    simp [Addr.add]

/-- Behind growSlice, and the stores, in a world that was turned before. -/
theorem GrPost.then {w W w' : World} {b q k : Nat} {o : Option Nat} {ys : List Int} {e : Ending} (hA : Aside (fun j => j = b ∨ o = some j) w W) (h : GrPost cs W b q o 0 k ys e w') : GrPost cs w b q o 0 k ys e w' := by
  obtain ⟨h1, a', c', zs', o', lr', h2, h3, h4, h5, h6, h7⟩ := h
  refine ⟨h1, a', c', zs', o', lr', h2, h3, h4, h5, ?_, hA.trans h7⟩
  rcases h6 with h6 | ⟨g, h6, h8⟩
  · exact .inl h6
  · exact .inr ⟨g, h6, Nat.le_trans hA.size h8⟩

set_option maxHeartbeats 4000000 in
theorem grow_new {w : World} {b q g c k : Nat} {lr : Int} {zs : List Int} (hC : BfC cs w b q (some ⟨g, 0, none⟩) 0 c 0 lr) (hR : BfR w b (some g) (some ⟨g, 0, none⟩) c zs) (hno : c < k) (hk : 1 ≤ k) (hmk : k ≤ 100000000) :
    Calls Tryd.prog 44 #[.pointer (some ⟨b, q, none⟩), .int .i64 k] w (GrPost cs w b q (some g) 0 k []) := by
  have HR := Lib.hid hR
  have HL := Lib.hid (len_at hC (Nat.le_refl _) (by omega))
  have HT := Lib.hid (tryGrow_no (k := k) hC.drew (Nat.zero_le _) (by omega) hR.2.1)
  obtain ⟨W, hW⟩ : ∃ W, w.drew = W := ⟨_, rfl⟩
  rw [hW] at HL HT
  have HCW := Lib.hid (show BfC cs W b q (some ⟨g, 0, none⟩) 0 c 0 lr by rw [← hW]; exact hC)
  have HAS := Lib.hid (show Aside (fun j => j = b ∨ (some g) = some j) w W by rw [← hW]; exact Aside.of_all (Below.refl _ w).drew)
  have HBD := Lib.hid (show Below W.heap.size W W.drew from (Below.refl _ W).drew)
  have hgl : g < W.heap.size := by
    rw [← hW]
    obtain ⟨_, _, ⟨h, _⟩ | ⟨g', h, _, _, h5⟩⟩ := hR
    · cases h
    · injection h with h; subst h; exact (Array.getElem?_eq_some_iff.mp h5).1
  have HGS := Lib.hid (fun wx (hx : Below W.heap.size W wx) => gs_head (w := wx) (g := g) (c := c) k (Nat.lt_of_lt_of_le hgl hx.size) hk hmk (by omega))
  clear hgl
  have hnil := fun wx => eql_nil (some ⟨g, 0, none⟩) 0 c wx
  have hfr := fun wx => from_zero (some ⟨g, 0, none⟩) c (by intro x hx; first | cases hx; exact ⟨_, rfl⟩ | cases hx) wx
  have hw1 : IntKind.i64.wrap (k : Int) = k := IntWalk.i64_in _ (by omega)
  have hbl := HCW.out.lt
  obtain ⟨c0, c1, c2, c3⟩ := HCW.out
  clear hR hC
  go_enter Tryd.func44, Tryd.ntmps44
  go_wp2_with fail
  refine HL.out.mono ?_; rintro e w1 ⟨rfl, hw⟩; rw [hw]; clear hw w1
  go_wp2_with fail
  refine HT.out.mono ?_; rintro e w1 ⟨rfl, hw⟩; rw [hw]; clear hw w1
  clear hW
  go_wp2_with fail
  refine wp_region_till (S := (fun wx => wx.cell? ⟨b, q, none⟩ = some (.slice (some ⟨g, 0, none⟩) 0 c) ∧ wx.cell? ⟨b, q + 1, none⟩ = some (.int .i64 0))) 19 (by kernel_rfl) ⟨c0, c1⟩ (fun hHeld => ?_)
  refine till_take (i := 0) (oi := { dst := some 76, op := Op.move (Operand.tmp 0), type := 70, pos := "buffer.go:169", after := #[], guard := none }) (v := ?_) rfl (by kernel_rfl) (by kernel_rfl) (by kernel_rfl) (fun _ _ _ h => h) (Or.inl ⟨by rfl, ?_⟩) (by assumption) ?_
  rotate_left 1
  · intro w hSw; (try dsimp only at hSw); go_simp; try (with_reducible rfl)
  try simp only [Act.put, List.setIfInBounds_toArray, List.set_cons_zero, List.set_cons_succ]
  refine till_take (i := 1) (oi := { dst := some 77, op := Op.move (Operand.tmp 0), type := 70, pos := "buffer.go:169", after := #[], guard := none }) (v := ?_) rfl (by kernel_rfl) (by kernel_rfl) (by kernel_rfl) (fun _ _ _ h => h) (Or.inl ⟨by rfl, ?_⟩) (by assumption) ?_
  rotate_left 1
  · intro w hSw; (try dsimp only at hSw); go_simp; try (with_reducible rfl)
  try simp only [Act.put, List.setIfInBounds_toArray, List.set_cons_zero, List.set_cons_succ]
  refine till_take (i := 2) (oi := { dst := some 78, op := Op.nilCheck (Operand.tmp 77), type := 0, pos := "buffer.go:169", after := #[{ on := 1, ground := Ground.data }], guard := none }) (v := ?_) rfl (by kernel_rfl) (by kernel_rfl) (by kernel_rfl) (fun _ _ _ h => h) (Or.inl ⟨by rfl, ?_⟩) (by assumption) ?_
  rotate_left 1
  · intro w hSw; (try dsimp only at hSw); go_simp; try (with_reducible rfl)
  try simp only [Act.put, List.setIfInBounds_toArray, List.set_cons_zero, List.set_cons_succ]
  refine till_take (i := 3) (oi := { dst := some 79, op := Op.fieldAddr 49 (Operand.tmp 78) 0, type := 0, pos := "buffer.go:169", after := #[{ on := 2, ground := Ground.data }], guard := none }) (v := ?_) rfl (by kernel_rfl) (by kernel_rfl) (by kernel_rfl) (fun _ _ _ h => h) (Or.inl ⟨by rfl, ?_⟩) (by assumption) ?_
  rotate_left 1
  · intro w hSw; (try dsimp only at hSw); go_simp; try (with_reducible rfl)
  try simp only [Act.put, List.setIfInBounds_toArray, List.set_cons_zero, List.set_cons_succ]
  refine till_take (i := 4) (oi := { dst := some 80, op := Op.load 22 (Operand.tmp 79), type := 22, pos := "buffer.go:169", after := #[{ on := 3, ground := Ground.data }], guard := none }) (v := ?_) rfl (by kernel_rfl) (by kernel_rfl) (by kernel_rfl) (fun _ _ _ h => h) (Or.inl ⟨by rfl, ?_⟩) (by assumption) ?_
  rotate_left 1
  · intro w hSw; (try dsimp only at hSw); go_simp; try (with_reducible rfl)
  try simp only [Act.put, List.setIfInBounds_toArray, List.set_cons_zero, List.set_cons_succ]
  refine till_take (i := 5) (oi := { dst := some 81, op := Op.move (Operand.tmp 0), type := 70, pos := "buffer.go:169", after := #[], guard := none }) (v := ?_) rfl (by kernel_rfl) (by kernel_rfl) (by kernel_rfl) (fun _ _ _ h => h) (Or.inl ⟨by rfl, ?_⟩) (by assumption) ?_
  rotate_left 1
  · intro w hSw; (try dsimp only at hSw); go_simp; try (with_reducible rfl)
  try simp only [Act.put, List.setIfInBounds_toArray, List.set_cons_zero, List.set_cons_succ]
  refine till_take (i := 6) (oi := { dst := some 82, op := Op.nilCheck (Operand.tmp 81), type := 0, pos := "buffer.go:169", after := #[{ on := 5, ground := Ground.data }], guard := none }) (v := ?_) rfl (by kernel_rfl) (by kernel_rfl) (by kernel_rfl) (fun _ _ _ h => h) (Or.inl ⟨by rfl, ?_⟩) (by assumption) ?_
  rotate_left 1
  · intro w hSw; (try dsimp only at hSw); go_simp; try (with_reducible rfl)
  try simp only [Act.put, List.setIfInBounds_toArray, List.set_cons_zero, List.set_cons_succ]
  refine till_take (i := 7) (oi := { dst := some 83, op := Op.fieldAddr 49 (Operand.tmp 82) 1, type := 0, pos := "buffer.go:169", after := #[{ on := 6, ground := Ground.data }], guard := none }) (v := ?_) rfl (by kernel_rfl) (by kernel_rfl) (by kernel_rfl) (fun _ _ _ h => h) (Or.inl ⟨by rfl, ?_⟩) (by assumption) ?_
  rotate_left 1
  · intro w hSw; (try dsimp only at hSw); go_simp; try (with_reducible rfl)
  try simp only [Act.put, List.setIfInBounds_toArray, List.set_cons_zero, List.set_cons_succ]
  refine till_take (i := 8) (oi := { dst := some 84, op := Op.load 3 (Operand.tmp 83), type := 3, pos := "buffer.go:169", after := #[{ on := 7, ground := Ground.data }], guard := none }) (v := ?_) rfl (by kernel_rfl) (by kernel_rfl) (by kernel_rfl) (fun _ _ _ h => h) (Or.inl ⟨by rfl, ?_⟩) (by assumption) ?_
  rotate_left 1
  · intro w hSw; (try dsimp only at hSw); go_simp; try (with_reducible rfl)
  try simp only [Act.put, List.setIfInBounds_toArray, List.set_cons_zero, List.set_cons_succ]
  refine till_take (i := 9) (oi := { dst := some 85, op := Op.slice 22 (Operand.tmp 80) (some (Operand.tmp 84)) none none, type := 22, pos := "buffer.go:169", after := #[{ on := 4, ground := Ground.data }, { on := 8, ground := Ground.data }], guard := none }) (v := ?_) rfl (by kernel_rfl) (by kernel_rfl) (by kernel_rfl) (fun _ _ _ h => h) (Or.inl ⟨by rfl, ?_⟩) (by assumption) ?_
  rotate_left 1
  · intro w hSw; (try dsimp only at hSw); go_simp; try (with_reducible rfl)
  try simp only [Act.put, List.setIfInBounds_toArray, List.set_cons_zero, List.set_cons_succ]
  refine till_take (i := 10) (oi := { dst := some 86, op := Op.move (Operand.tmp 0), type := 70, pos := "buffer.go:169", after := #[], guard := none }) (v := ?_) rfl (by kernel_rfl) (by kernel_rfl) (by kernel_rfl) (fun _ _ _ h => h) (Or.inl ⟨by rfl, ?_⟩) (by assumption) ?_
  rotate_left 1
  · intro w hSw; (try dsimp only at hSw); go_simp; try (with_reducible rfl)
  try simp only [Act.put, List.setIfInBounds_toArray, List.set_cons_zero, List.set_cons_succ]
  refine till_take (i := 11) (oi := { dst := some 87, op := Op.nilCheck (Operand.tmp 86), type := 0, pos := "buffer.go:169", after := #[{ on := 10, ground := Ground.data }], guard := none }) (v := ?_) rfl (by kernel_rfl) (by kernel_rfl) (by kernel_rfl) (fun _ _ _ h => h) (Or.inl ⟨by rfl, ?_⟩) (by assumption) ?_
  rotate_left 1
  · intro w hSw; (try dsimp only at hSw); go_simp; try (with_reducible rfl)
  try simp only [Act.put, List.setIfInBounds_toArray, List.set_cons_zero, List.set_cons_succ]
  refine till_take (i := 12) (oi := { dst := some 88, op := Op.fieldAddr 49 (Operand.tmp 87) 1, type := 0, pos := "buffer.go:169", after := #[{ on := 11, ground := Ground.data }], guard := none }) (v := ?_) rfl (by kernel_rfl) (by kernel_rfl) (by kernel_rfl) (fun _ _ _ h => h) (Or.inl ⟨by rfl, ?_⟩) (by assumption) ?_
  rotate_left 1
  · intro w hSw; (try dsimp only at hSw); go_simp; try (with_reducible rfl)
  try simp only [Act.put, List.setIfInBounds_toArray, List.set_cons_zero, List.set_cons_succ]
  refine till_take (i := 13) (oi := { dst := some 89, op := Op.load 3 (Operand.tmp 88), type := 3, pos := "buffer.go:169", after := #[{ on := 12, ground := Ground.data }], guard := none }) (v := ?_) rfl (by kernel_rfl) (by kernel_rfl) (by kernel_rfl) (fun _ _ _ h => h) (Or.inl ⟨by rfl, ?_⟩) (by assumption) ?_
  rotate_left 1
  · intro w hSw; (try dsimp only at hSw); go_simp; try (with_reducible rfl)
  try simp only [Act.put, List.setIfInBounds_toArray, List.set_cons_zero, List.set_cons_succ]
  refine till_take (i := 14) (oi := { dst := some 90, op := Op.move (Operand.tmp 1), type := 3, pos := "buffer.go:169", after := #[], guard := none }) (v := ?_) rfl (by kernel_rfl) (by kernel_rfl) (by kernel_rfl) (fun _ _ _ h => h) (Or.inl ⟨by rfl, ?_⟩) (by assumption) ?_
  rotate_left 1
  · intro w hSw; (try dsimp only at hSw); go_simp; try (with_reducible rfl)
  try simp only [Act.put, List.setIfInBounds_toArray, List.set_cons_zero, List.set_cons_succ]
  refine till_take (i := 15) (oi := { dst := some 91, op := Op.binOp BinOp.add 3 (Operand.tmp 89) (Operand.tmp 90) 3, type := 3, pos := "buffer.go:169", after := #[{ on := 13, ground := Ground.data }, { on := 14, ground := Ground.data }], guard := none }) (v := ?_) rfl (by kernel_rfl) (by kernel_rfl) (by kernel_rfl) (fun _ _ _ h => h) (Or.inl ⟨by rfl, ?_⟩) (by assumption) ?_
  rotate_left 1
  · intro w hSw; (try dsimp only at hSw); go_simp; try (with_reducible rfl)
  try simp only [Act.put, List.setIfInBounds_toArray, List.set_cons_zero, List.set_cons_succ]
  refine till_ready (rs := [16]) (by kernel_rfl) (by simp) ?_
  refine TillAll.cons (o := { dst := some 92, op := Op.call { callee := Callee.value (Operand.func 46), args := #[Operand.tmp 85, Operand.tmp 91], argTypes := #[22, 3] }, type := 22, pos := "buffer.go:169", after := #[{ on := 9, ground := Ground.data }, { on := 15, ground := Ground.data }], guard := none }) rfl (fun K hK => ?_) (TillAll.nil)
  go_simp
  refine (HGS.out _ HBD.out).mono ?_; rintro e w2 ⟨cap, ys, rfl, hy⟩
  have hy6 := hy.bel
  have HQ := Lib.hid (And.intro ((hy6.cell (p := ⟨b, q, none⟩) hbl).trans c0) ((hy6.cell (p := ⟨b, q + 1, none⟩) hbl).trans c1))
  have HY := Lib.hid hy
  have f2 := (hy6.frozen (p := ⟨b, q, none⟩) hbl).trans (c3 q).1
  have f3 := (hy6.frozen (p := ⟨b, q + 1, none⟩) hbl).trans (c3 (q + 1)).1
  clear hy hy6
  refine hK.out _ _ HQ.out (fun hHeld => ?_)
  clear hK K
  try simp only [Act.put, List.setIfInBounds_toArray, List.set_cons_zero, List.set_cons_succ]
  refine till_ready (rs := [17]) (by kernel_rfl) (by simp) ?_
  refine TillAll.cons (o := { dst := some 93, op := Op.nilCheck (Operand.tmp 76), type := 0, pos := "buffer.go:169", after := #[{ on := 0, ground := Ground.data }, { on := 0, ground := Ground.phase }, { on := 1, ground := Ground.phase }, { on := 2, ground := Ground.phase }, { on := 3, ground := Ground.phase }, { on := 4, ground := Ground.phase }, { on := 5, ground := Ground.phase }, { on := 6, ground := Ground.phase }, { on := 7, ground := Ground.phase }, { on := 8, ground := Ground.phase }, { on := 9, ground := Ground.phase }, { on := 10, ground := Ground.phase }, { on := 11, ground := Ground.phase }, { on := 12, ground := Ground.phase }, { on := 13, ground := Ground.phase }, { on := 14, ground := Ground.phase }, { on := 15, ground := Ground.phase }, { on := 16, ground := Ground.phase }], guard := none }) rfl (fun K hK => ?_) (TillAll.nil)
  go_simp
  refine hK.out _ _ HQ.out (fun hHeld => ?_)
  clear hK K
  try simp only [Act.put, List.setIfInBounds_toArray, List.set_cons_zero, List.set_cons_succ]
  refine till_take (i := 18) (oi := { dst := some 94, op := Op.fieldAddr 49 (Operand.tmp 93) 0, type := 0, pos := "buffer.go:169", after := #[{ on := 17, ground := Ground.data }, { on := 0, ground := Ground.phase }, { on := 1, ground := Ground.phase }, { on := 2, ground := Ground.phase }, { on := 3, ground := Ground.phase }, { on := 4, ground := Ground.phase }, { on := 5, ground := Ground.phase }, { on := 6, ground := Ground.phase }, { on := 7, ground := Ground.phase }, { on := 8, ground := Ground.phase }, { on := 9, ground := Ground.phase }, { on := 10, ground := Ground.phase }, { on := 11, ground := Ground.phase }, { on := 12, ground := Ground.phase }, { on := 13, ground := Ground.phase }, { on := 14, ground := Ground.phase }, { on := 15, ground := Ground.phase }, { on := 16, ground := Ground.phase }], guard := none }) (v := ?_) rfl (by kernel_rfl) (by kernel_rfl) (by kernel_rfl) (fun _ _ _ h => h) (Or.inl ⟨by rfl, ?_⟩) (by assumption) ?_
  rotate_left 1
  · intro w hSw; (try dsimp only at hSw); go_simp; try (with_reducible rfl)
  try simp only [Act.put, List.setIfInBounds_toArray, List.set_cons_zero, List.set_cons_succ]
  refine till_ready (rs := [19]) (by kernel_rfl) (by simp) ?_
  refine TillAll.last (o := { dst := none, op := Op.store 22 (Operand.tmp 94) (Operand.tmp 92), type := 0, pos := "buffer.go:169", after := #[{ on := 18, ground := Ground.data }, { on := 16, ground := Ground.data }, { on := 16, ground := Ground.chain }, { on := 0, ground := Ground.phase }, { on := 1, ground := Ground.phase }, { on := 2, ground := Ground.phase }, { on := 3, ground := Ground.phase }, { on := 4, ground := Ground.phase }, { on := 5, ground := Ground.phase }, { on := 6, ground := Ground.phase }, { on := 7, ground := Ground.phase }, { on := 8, ground := Ground.phase }, { on := 9, ground := Ground.phase }, { on := 10, ground := Ground.phase }, { on := 11, ground := Ground.phase }, { on := 12, ground := Ground.phase }, { on := 13, ground := Ground.phase }, { on := 14, ground := Ground.phase }, { on := 15, ground := Ground.phase }, { on := 16, ground := Ground.phase }], guard := none }) rfl (fun K hK => ?_) (TillAll.nil)
  go_simp
  refine hK.out _ _ trivial (fun hHeld => ?_)
  clear hK K
  try simp only [Act.put, List.setIfInBounds_toArray, List.set_cons_zero, List.set_cons_succ]
  refine till_done (by kernel_rfl) ?_ _
  clear hHeld
  obtain ⟨e0, e1⟩ := HQ.out
  have hroom := HY.out.room
  have hcm := HY.out.cap
  unfold maxLen at hcm
  go_wp2_with fail
  have hfin := GrPost.then HAS.out (GrPost.new (o := (some g)) (k := k) HCW.out (HBD.out.trans (show Below W.heap.size W.drew w2 from HY.out.bel)) HY.out.row HY.out.len HY.out.head (by omega) HY.out.cap W.heap.size rfl)
  simp only [Nat.zero_add] at hfin
  go_ret
  exact hfin

set_option maxHeartbeats 4000000 in
theorem grow_nil {w : World} {b q c k : Nat} {lr : Int} {zs : List Int} (hC : BfC cs w b q none 0 c 0 lr) (hR : BfR w b none none c zs) (hno : 64 < k) (hk : 1 ≤ k) (hmk : k ≤ 100000000) :
    Calls Tryd.prog 44 #[.pointer (some ⟨b, q, none⟩), .int .i64 k] w (GrPost cs w b q none 0 k []) := by
  have HR := Lib.hid hR
  have HL := Lib.hid (len_at hC (Nat.le_refl _) (by omega))
  obtain rfl : c = 0 := by
    obtain ⟨_, _, ⟨_, _, h⟩ | ⟨g, h, _⟩⟩ := hR
    · exact h
    · cases h
  have HT := Lib.hid (tryGrow_no (k := k) hC.drew (Nat.zero_le _) (by omega) hR.2.1)
  obtain ⟨W, hW⟩ : ∃ W, w.drew = W := ⟨_, rfl⟩
  rw [hW] at HL HT
  have HCW := Lib.hid (show BfC cs W b q none 0 0 0 lr by rw [← hW]; exact hC)
  have HAS := Lib.hid (show Aside (fun j => j = b ∨ none = some j) w W by rw [← hW]; exact Aside.of_all (Below.refl _ w).drew)
  have HBD := Lib.hid (show Below W.heap.size W W.drew from (Below.refl _ W).drew)
  have HGS := Lib.hid (fun wx (_ : Below W.heap.size W wx) => gs_none (w := wx) k hk hmk)
  have hnil := fun wx => eql_nil none 0 0 wx
  have hfr := fun wx => from_zero none 0 (by intro x hx; first | cases hx; exact ⟨_, rfl⟩ | cases hx) wx
  have hw1 : IntKind.i64.wrap (k : Int) = k := IntWalk.i64_in _ (by omega)
  have hbl := HCW.out.lt
  obtain ⟨c0, c1, c2, c3⟩ := HCW.out
  clear hR hC
  go_enter Tryd.func44, Tryd.ntmps44
  go_wp2_with fail
  refine HL.out.mono ?_; rintro e w1 ⟨rfl, hw⟩; rw [hw]; clear hw w1
  go_wp2_with fail
  refine HT.out.mono ?_; rintro e w1 ⟨rfl, hw⟩; rw [hw]; clear hw w1
  clear hW
  go_wp2_with fail
  refine wp_region_till (S := (fun wx => wx.cell? ⟨b, q, none⟩ = some (.slice none 0 0) ∧ wx.cell? ⟨b, q + 1, none⟩ = some (.int .i64 0))) 19 (by kernel_rfl) ⟨c0, c1⟩ (fun hHeld => ?_)
  refine till_take (i := 0) (oi := { dst := some 76, op := Op.move (Operand.tmp 0), type := 70, pos := "buffer.go:169", after := #[], guard := none }) (v := ?_) rfl (by kernel_rfl) (by kernel_rfl) (by kernel_rfl) (fun _ _ _ h => h) (Or.inl ⟨by rfl, ?_⟩) (by assumption) ?_
  rotate_left 1
  · intro w hSw; (try dsimp only at hSw); go_simp; try (with_reducible rfl)
  try simp only [Act.put, List.setIfInBounds_toArray, List.set_cons_zero, List.set_cons_succ]
  refine till_take (i := 1) (oi := { dst := some 77, op := Op.move (Operand.tmp 0), type := 70, pos := "buffer.go:169", after := #[], guard := none }) (v := ?_) rfl (by kernel_rfl) (by kernel_rfl) (by kernel_rfl) (fun _ _ _ h => h) (Or.inl ⟨by rfl, ?_⟩) (by assumption) ?_
  rotate_left 1
  · intro w hSw; (try dsimp only at hSw); go_simp; try (with_reducible rfl)
  try simp only [Act.put, List.setIfInBounds_toArray, List.set_cons_zero, List.set_cons_succ]
  refine till_take (i := 2) (oi := { dst := some 78, op := Op.nilCheck (Operand.tmp 77), type := 0, pos := "buffer.go:169", after := #[{ on := 1, ground := Ground.data }], guard := none }) (v := ?_) rfl (by kernel_rfl) (by kernel_rfl) (by kernel_rfl) (fun _ _ _ h => h) (Or.inl ⟨by rfl, ?_⟩) (by assumption) ?_
  rotate_left 1
  · intro w hSw; (try dsimp only at hSw); go_simp; try (with_reducible rfl)
  try simp only [Act.put, List.setIfInBounds_toArray, List.set_cons_zero, List.set_cons_succ]
  refine till_take (i := 3) (oi := { dst := some 79, op := Op.fieldAddr 49 (Operand.tmp 78) 0, type := 0, pos := "buffer.go:169", after := #[{ on := 2, ground := Ground.data }], guard := none }) (v := ?_) rfl (by kernel_rfl) (by kernel_rfl) (by kernel_rfl) (fun _ _ _ h => h) (Or.inl ⟨by rfl, ?_⟩) (by assumption) ?_
  rotate_left 1
  · intro w hSw; (try dsimp only at hSw); go_simp; try (with_reducible rfl)
  try simp only [Act.put, List.setIfInBounds_toArray, List.set_cons_zero, List.set_cons_succ]
  refine till_take (i := 4) (oi := { dst := some 80, op := Op.load 22 (Operand.tmp 79), type := 22, pos := "buffer.go:169", after := #[{ on := 3, ground := Ground.data }], guard := none }) (v := ?_) rfl (by kernel_rfl) (by kernel_rfl) (by kernel_rfl) (fun _ _ _ h => h) (Or.inl ⟨by rfl, ?_⟩) (by assumption) ?_
  rotate_left 1
  · intro w hSw; (try dsimp only at hSw); go_simp; try (with_reducible rfl)
  try simp only [Act.put, List.setIfInBounds_toArray, List.set_cons_zero, List.set_cons_succ]
  refine till_take (i := 5) (oi := { dst := some 81, op := Op.move (Operand.tmp 0), type := 70, pos := "buffer.go:169", after := #[], guard := none }) (v := ?_) rfl (by kernel_rfl) (by kernel_rfl) (by kernel_rfl) (fun _ _ _ h => h) (Or.inl ⟨by rfl, ?_⟩) (by assumption) ?_
  rotate_left 1
  · intro w hSw; (try dsimp only at hSw); go_simp; try (with_reducible rfl)
  try simp only [Act.put, List.setIfInBounds_toArray, List.set_cons_zero, List.set_cons_succ]
  refine till_take (i := 6) (oi := { dst := some 82, op := Op.nilCheck (Operand.tmp 81), type := 0, pos := "buffer.go:169", after := #[{ on := 5, ground := Ground.data }], guard := none }) (v := ?_) rfl (by kernel_rfl) (by kernel_rfl) (by kernel_rfl) (fun _ _ _ h => h) (Or.inl ⟨by rfl, ?_⟩) (by assumption) ?_
  rotate_left 1
  · intro w hSw; (try dsimp only at hSw); go_simp; try (with_reducible rfl)
  try simp only [Act.put, List.setIfInBounds_toArray, List.set_cons_zero, List.set_cons_succ]
  refine till_take (i := 7) (oi := { dst := some 83, op := Op.fieldAddr 49 (Operand.tmp 82) 1, type := 0, pos := "buffer.go:169", after := #[{ on := 6, ground := Ground.data }], guard := none }) (v := ?_) rfl (by kernel_rfl) (by kernel_rfl) (by kernel_rfl) (fun _ _ _ h => h) (Or.inl ⟨by rfl, ?_⟩) (by assumption) ?_
  rotate_left 1
  · intro w hSw; (try dsimp only at hSw); go_simp; try (with_reducible rfl)
  try simp only [Act.put, List.setIfInBounds_toArray, List.set_cons_zero, List.set_cons_succ]
  refine till_take (i := 8) (oi := { dst := some 84, op := Op.load 3 (Operand.tmp 83), type := 3, pos := "buffer.go:169", after := #[{ on := 7, ground := Ground.data }], guard := none }) (v := ?_) rfl (by kernel_rfl) (by kernel_rfl) (by kernel_rfl) (fun _ _ _ h => h) (Or.inl ⟨by rfl, ?_⟩) (by assumption) ?_
  rotate_left 1
  · intro w hSw; (try dsimp only at hSw); go_simp; try (with_reducible rfl)
  try simp only [Act.put, List.setIfInBounds_toArray, List.set_cons_zero, List.set_cons_succ]
  refine till_take (i := 9) (oi := { dst := some 85, op := Op.slice 22 (Operand.tmp 80) (some (Operand.tmp 84)) none none, type := 22, pos := "buffer.go:169", after := #[{ on := 4, ground := Ground.data }, { on := 8, ground := Ground.data }], guard := none }) (v := ?_) rfl (by kernel_rfl) (by kernel_rfl) (by kernel_rfl) (fun _ _ _ h => h) (Or.inl ⟨by rfl, ?_⟩) (by assumption) ?_
  rotate_left 1
  · intro w hSw; (try dsimp only at hSw); go_simp; try (with_reducible rfl)
  try simp only [Act.put, List.setIfInBounds_toArray, List.set_cons_zero, List.set_cons_succ]
  refine till_take (i := 10) (oi := { dst := some 86, op := Op.move (Operand.tmp 0), type := 70, pos := "buffer.go:169", after := #[], guard := none }) (v := ?_) rfl (by kernel_rfl) (by kernel_rfl) (by kernel_rfl) (fun _ _ _ h => h) (Or.inl ⟨by rfl, ?_⟩) (by assumption) ?_
  rotate_left 1
  · intro w hSw; (try dsimp only at hSw); go_simp; try (with_reducible rfl)
  try simp only [Act.put, List.setIfInBounds_toArray, List.set_cons_zero, List.set_cons_succ]
  refine till_take (i := 11) (oi := { dst := some 87, op := Op.nilCheck (Operand.tmp 86), type := 0, pos := "buffer.go:169", after := #[{ on := 10, ground := Ground.data }], guard := none }) (v := ?_) rfl (by kernel_rfl) (by kernel_rfl) (by kernel_rfl) (fun _ _ _ h => h) (Or.inl ⟨by rfl, ?_⟩) (by assumption) ?_
  rotate_left 1
  · intro w hSw; (try dsimp only at hSw); go_simp; try (with_reducible rfl)
  try simp only [Act.put, List.setIfInBounds_toArray, List.set_cons_zero, List.set_cons_succ]
  refine till_take (i := 12) (oi := { dst := some 88, op := Op.fieldAddr 49 (Operand.tmp 87) 1, type := 0, pos := "buffer.go:169", after := #[{ on := 11, ground := Ground.data }], guard := none }) (v := ?_) rfl (by kernel_rfl) (by kernel_rfl) (by kernel_rfl) (fun _ _ _ h => h) (Or.inl ⟨by rfl, ?_⟩) (by assumption) ?_
  rotate_left 1
  · intro w hSw; (try dsimp only at hSw); go_simp; try (with_reducible rfl)
  try simp only [Act.put, List.setIfInBounds_toArray, List.set_cons_zero, List.set_cons_succ]
  refine till_take (i := 13) (oi := { dst := some 89, op := Op.load 3 (Operand.tmp 88), type := 3, pos := "buffer.go:169", after := #[{ on := 12, ground := Ground.data }], guard := none }) (v := ?_) rfl (by kernel_rfl) (by kernel_rfl) (by kernel_rfl) (fun _ _ _ h => h) (Or.inl ⟨by rfl, ?_⟩) (by assumption) ?_
  rotate_left 1
  · intro w hSw; (try dsimp only at hSw); go_simp; try (with_reducible rfl)
  try simp only [Act.put, List.setIfInBounds_toArray, List.set_cons_zero, List.set_cons_succ]
  refine till_take (i := 14) (oi := { dst := some 90, op := Op.move (Operand.tmp 1), type := 3, pos := "buffer.go:169", after := #[], guard := none }) (v := ?_) rfl (by kernel_rfl) (by kernel_rfl) (by kernel_rfl) (fun _ _ _ h => h) (Or.inl ⟨by rfl, ?_⟩) (by assumption) ?_
  rotate_left 1
  · intro w hSw; (try dsimp only at hSw); go_simp; try (with_reducible rfl)
  try simp only [Act.put, List.setIfInBounds_toArray, List.set_cons_zero, List.set_cons_succ]
  refine till_take (i := 15) (oi := { dst := some 91, op := Op.binOp BinOp.add 3 (Operand.tmp 89) (Operand.tmp 90) 3, type := 3, pos := "buffer.go:169", after := #[{ on := 13, ground := Ground.data }, { on := 14, ground := Ground.data }], guard := none }) (v := ?_) rfl (by kernel_rfl) (by kernel_rfl) (by kernel_rfl) (fun _ _ _ h => h) (Or.inl ⟨by rfl, ?_⟩) (by assumption) ?_
  rotate_left 1
  · intro w hSw; (try dsimp only at hSw); go_simp; try (with_reducible rfl)
  try simp only [Act.put, List.setIfInBounds_toArray, List.set_cons_zero, List.set_cons_succ]
  refine till_ready (rs := [16]) (by kernel_rfl) (by simp) ?_
  refine TillAll.cons (o := { dst := some 92, op := Op.call { callee := Callee.value (Operand.func 46), args := #[Operand.tmp 85, Operand.tmp 91], argTypes := #[22, 3] }, type := 22, pos := "buffer.go:169", after := #[{ on := 9, ground := Ground.data }, { on := 15, ground := Ground.data }], guard := none }) rfl (fun K hK => ?_) (TillAll.nil)
  go_simp
  refine (HGS.out _ HBD.out).mono ?_; rintro e w2 ⟨cap, ys, rfl, hy⟩
  have hy6 := hy.bel
  have HQ := Lib.hid (And.intro ((hy6.cell (p := ⟨b, q, none⟩) hbl).trans c0) ((hy6.cell (p := ⟨b, q + 1, none⟩) hbl).trans c1))
  have HY := Lib.hid hy
  have f2 := (hy6.frozen (p := ⟨b, q, none⟩) hbl).trans (c3 q).1
  have f3 := (hy6.frozen (p := ⟨b, q + 1, none⟩) hbl).trans (c3 (q + 1)).1
  clear hy hy6
  refine hK.out _ _ HQ.out (fun hHeld => ?_)
  clear hK K
  try simp only [Act.put, List.setIfInBounds_toArray, List.set_cons_zero, List.set_cons_succ]
  refine till_ready (rs := [17]) (by kernel_rfl) (by simp) ?_
  refine TillAll.cons (o := { dst := some 93, op := Op.nilCheck (Operand.tmp 76), type := 0, pos := "buffer.go:169", after := #[{ on := 0, ground := Ground.data }, { on := 0, ground := Ground.phase }, { on := 1, ground := Ground.phase }, { on := 2, ground := Ground.phase }, { on := 3, ground := Ground.phase }, { on := 4, ground := Ground.phase }, { on := 5, ground := Ground.phase }, { on := 6, ground := Ground.phase }, { on := 7, ground := Ground.phase }, { on := 8, ground := Ground.phase }, { on := 9, ground := Ground.phase }, { on := 10, ground := Ground.phase }, { on := 11, ground := Ground.phase }, { on := 12, ground := Ground.phase }, { on := 13, ground := Ground.phase }, { on := 14, ground := Ground.phase }, { on := 15, ground := Ground.phase }, { on := 16, ground := Ground.phase }], guard := none }) rfl (fun K hK => ?_) (TillAll.nil)
  go_simp
  refine hK.out _ _ HQ.out (fun hHeld => ?_)
  clear hK K
  try simp only [Act.put, List.setIfInBounds_toArray, List.set_cons_zero, List.set_cons_succ]
  refine till_take (i := 18) (oi := { dst := some 94, op := Op.fieldAddr 49 (Operand.tmp 93) 0, type := 0, pos := "buffer.go:169", after := #[{ on := 17, ground := Ground.data }, { on := 0, ground := Ground.phase }, { on := 1, ground := Ground.phase }, { on := 2, ground := Ground.phase }, { on := 3, ground := Ground.phase }, { on := 4, ground := Ground.phase }, { on := 5, ground := Ground.phase }, { on := 6, ground := Ground.phase }, { on := 7, ground := Ground.phase }, { on := 8, ground := Ground.phase }, { on := 9, ground := Ground.phase }, { on := 10, ground := Ground.phase }, { on := 11, ground := Ground.phase }, { on := 12, ground := Ground.phase }, { on := 13, ground := Ground.phase }, { on := 14, ground := Ground.phase }, { on := 15, ground := Ground.phase }, { on := 16, ground := Ground.phase }], guard := none }) (v := ?_) rfl (by kernel_rfl) (by kernel_rfl) (by kernel_rfl) (fun _ _ _ h => h) (Or.inl ⟨by rfl, ?_⟩) (by assumption) ?_
  rotate_left 1
  · intro w hSw; (try dsimp only at hSw); go_simp; try (with_reducible rfl)
  try simp only [Act.put, List.setIfInBounds_toArray, List.set_cons_zero, List.set_cons_succ]
  refine till_ready (rs := [19]) (by kernel_rfl) (by simp) ?_
  refine TillAll.last (o := { dst := none, op := Op.store 22 (Operand.tmp 94) (Operand.tmp 92), type := 0, pos := "buffer.go:169", after := #[{ on := 18, ground := Ground.data }, { on := 16, ground := Ground.data }, { on := 16, ground := Ground.chain }, { on := 0, ground := Ground.phase }, { on := 1, ground := Ground.phase }, { on := 2, ground := Ground.phase }, { on := 3, ground := Ground.phase }, { on := 4, ground := Ground.phase }, { on := 5, ground := Ground.phase }, { on := 6, ground := Ground.phase }, { on := 7, ground := Ground.phase }, { on := 8, ground := Ground.phase }, { on := 9, ground := Ground.phase }, { on := 10, ground := Ground.phase }, { on := 11, ground := Ground.phase }, { on := 12, ground := Ground.phase }, { on := 13, ground := Ground.phase }, { on := 14, ground := Ground.phase }, { on := 15, ground := Ground.phase }, { on := 16, ground := Ground.phase }], guard := none }) rfl (fun K hK => ?_) (TillAll.nil)
  go_simp
  refine hK.out _ _ trivial (fun hHeld => ?_)
  clear hK K
  try simp only [Act.put, List.setIfInBounds_toArray, List.set_cons_zero, List.set_cons_succ]
  refine till_done (by kernel_rfl) ?_ _
  clear hHeld
  obtain ⟨e0, e1⟩ := HQ.out
  have hroom := HY.out.room
  have hcm := HY.out.cap
  unfold maxLen at hcm
  go_wp2_with fail
  have hfin := GrPost.then HAS.out (GrPost.new (o := none) (k := k) HCW.out (HBD.out.trans (show Below W.heap.size W.drew w2 from HY.out.bel)) HY.out.row HY.out.len HY.out.head (by omega) HY.out.cap W.heap.size rfl)
  simp only [Nat.zero_add] at hfin
  go_ret
  exact hfin

end Go.Proofs.YtlkafakanoefmaaDoor

/-
  (*bytes.Buffer).grow: a first small row; behind a Reset; what is kept moved to the front.
-/
namespace Go.Proofs.YtlkafakanoefmaaDoor
open Go.RowKit Go.Shelf
set_option linter.unusedVariables false
set_option linter.unusedSimpArgs false
set_option maxRecDepth 100000
variable {cs : Nat → Option Value}

theorem make64 (k : Nat) (hk : k ≤ 64) (w : World) : (Instr.makeSlice 22 (.int .i64 k) (.int .i64 64)).run Tryd.prog w = .ok (.slice (some ⟨w.heap.size, 0, none⟩) k 64) (w.alloc (.cells (List.replicate 64 (Value.int .u8 0)).toArray 5)) := by
  obtain ⟨i0, hi, hz0, hz1, hz2⟩ := info_parts Tryd.info5
  have := run_make (P := Tryd.prog) w 22 5 i0 (.int .u8 0) Tryd.underlying22 hi hz0 .i64 .i64 k (64 : Nat) (by omega) (by omega) (by rw [hz2]; omega) (by omega)
  have e : ((64 : Nat) : Int) = 64 := rfl
  rw [e] at this
  rw [this, hz1, Int.toNat_natCast]
  congr 3
  exact madeN 64

set_option maxHeartbeats 4000000 in
theorem grow_small {w : World} {b q k : Nat} {lr : Int} (hC : BfC cs w b q none 0 0 0 lr) (hk : 1 ≤ k) (hk2 : k ≤ 64) :
    Calls Tryd.prog 44 #[.pointer (some ⟨b, q, none⟩), .int .i64 k] w (GrPost cs w b q none 0 k []) := by
  have HC := Lib.hid hC
  have hbl := hC.lt
  have HL := Lib.hid (len_at hC (Nat.le_refl _) (by omega))
  have HT := Lib.hid (tryGrow_no (k := k) hC.drew (Nat.zero_le _) (by omega) (by unfold maxLen; omega))
  have hnil := fun wx => eql_nil none 0 0 wx
  have hmk := fun wx => make64 k hk2 wx
  obtain ⟨c0, c1, c2, c3⟩ := hC
  have f0 := (c3 q).1
  obtain ⟨Z, hZ⟩ : ∃ Z, (List.replicate 64 (Value.int .u8 0)).toArray = Z := ⟨_, rfl⟩
  simp only [hZ] at hmk
  have HF : Hid (GrPost cs w b q none 0 k [] (.returned (.int .i64 0)) ((w.setCell ⟨b, q, none⟩ (.slice (some ⟨w.heap.size, 0, none⟩) k 64)).alloc (.cells Z 5)).drew) := Lib.hid (by
    have hs : (w.setCell ⟨b, q, none⟩ (.slice (some ⟨w.heap.size, 0, none⟩) k 64)).heap.size = w.heap.size := by simp [World.setCell]
    have h1 := HC.out.setB (some ⟨w.heap.size, 0, none⟩) k 64
    have h2 := h1.later ((Below.refl _ _).alloc (Nat.le_refl _) (.cells Z 5))
    have hr := heap_alloc_new (w.setCell ⟨b, q, none⟩ (.slice (some ⟨w.heap.size, 0, none⟩) k 64)) (.cells Z 5)
    rw [hs] at hr
    have hR : BfR ((w.setCell ⟨b, q, none⟩ (.slice (some ⟨w.heap.size, 0, none⟩) k 64)).alloc (.cells Z 5)) b (some w.heap.size) (some ⟨w.heap.size, 0, none⟩) 64 (List.replicate 64 0) := ⟨by simp, by unfold maxLen; omega, .inr ⟨_, rfl, rfl, by omega, by rw [List.map_replicate, hZ]; exact hr⟩⟩
    refine ⟨rfl, some ⟨w.heap.size, 0, none⟩, 64, List.replicate 64 0, some w.heap.size, lr, by rw [Nat.zero_add]; exact h2, hR, by omega, rfl, .inr ⟨_, rfl, Nat.le_refl _⟩, ?_⟩
    exact ((Aside.setCell (G := fun j => j = b ∨ none = some j) _ _ (.inl rfl)).trans (Aside.alloc _ _)).trans (Aside.of_all (Below.refl _ _).drew))
  clear hZ
  go_enter Tryd.func44, Tryd.ntmps44
  go_wp2_with fail
  refine HL.out.mono ?_; rintro e w1 ⟨rfl, rfl⟩
  go_wp2_with fail
  refine HT.out.mono ?_; rintro e w1 ⟨rfl, rfl⟩
  go_wp2_with fail
  go_ret
  exact HF.out

set_option maxHeartbeats 4000000 in
theorem grow_zero {w : World} {b q g n c k : Nat} {lr : Int} {zs : List Int} (hC : BfC cs w b q (some ⟨g, 0, none⟩) n c n lr) (hR : BfR w b (some g) (some ⟨g, 0, none⟩) c zs) (hn0 : ¬ n = 0) (hnc : n ≤ c) (hk : 1 ≤ k) (hmk : k ≤ 100000000) :
    Calls Tryd.prog 44 #[.pointer (some ⟨b, q, none⟩), .int .i64 k] w (GrPost cs w b q (some g) 0 k []) := by
  have HC := Lib.hid hC
  have HR := Lib.hid hR
  have hcm := hR.2.1
  unfold maxLen at hcm
  have HL := Lib.hid (len_at hC (Nat.le_refl _) (by omega))
  rw [Nat.sub_self] at HL
  have HRS := Lib.hid (reset_at hC.drew)
  have t1 : ((n : Int) == 0) = false := by simpa using hn0
  obtain ⟨W, hW⟩ : ∃ W, ((w.drew.setCell ⟨b, q, none⟩ (.slice (some ⟨g, 0, none⟩) 0 c)).setCell ⟨b, q + 1, none⟩ (.int .i64 0)).setCell ⟨b, q + 2, none⟩ (.int .i8 0) = W := ⟨_, rfl⟩
  have HCW := Lib.hid (show BfC cs W b q (some ⟨g, 0, none⟩) 0 c 0 0 by rw [← hW]; exact ((hC.drew.setB (some ⟨g, 0, none⟩) 0 c).setO 0).setL 0)
  have HRW := Lib.hid (show BfR W b (some g) (some ⟨g, 0, none⟩) c zs by rw [← hW]; exact ((hR.drew.set _ _).set _ _).set _ _)
  have HAS := Lib.hid (show Aside (fun j => j = b ∨ some g = some j) w W by
    rw [← hW]
    exact (((Aside.of_all (Below.refl _ w).drew).trans (Aside.setCell (G := fun j => j = b ∨ some g = some j) _ _ (.inl rfl))).trans (Aside.setCell _ _ (.inl rfl))).trans (Aside.setCell _ _ (.inl rfl)))
  rw [hW] at HRS
  by_cases hroom : k ≤ c
  · have HT := Lib.hid (tryGrow_yes (k := k) HCW.out (by omega) hR.2.1)
    have HF : Hid (GrPost cs w b q (some g) 0 k [] (.returned (.int .i64 0)) (W.setCell ⟨b, q, none⟩ (.slice (some ⟨g, 0, none⟩) k c))) := Lib.hid (by
      refine GrPost.then HAS.out ⟨rfl, (some ⟨g, 0, none⟩), c, zs, some g, 0, by simpa using HCW.out.setB (some ⟨g, 0, none⟩) k c, by simpa using HRW.out.set _ _, by omega, rfl, .inl rfl, ?_⟩
      exact Aside.setCell (G := fun j => j = b ∨ some g = some j) _ _ (.inl rfl))
    obtain ⟨c0, c1, c2, c3⟩ := HC.out
    clear hR hC hW
    go_enter Tryd.func44, Tryd.ntmps44
    go_wp2_with fail
    refine HL.out.mono ?_; rintro e w1 ⟨rfl, rfl⟩
    go_wp2_with fail
    refine HRS.out.mono ?_; rintro e w1 ⟨rfl, hw⟩; rw [hw]; clear hw w1
    go_wp2_with fail
    refine HT.out.mono ?_; rintro e w1 ⟨rfl, hw⟩; rw [hw]; clear hw w1
    go_wp2_with fail
    go_ret
    exact HF.out
  · have HT := Lib.hid (tryGrow_no (k := k) HCW.out (Nat.zero_le _) (by omega) hR.2.1)
    have HBD := Lib.hid (show Below W.heap.size W W.drew from (Below.refl _ W).drew)
    have hgl : g < W.heap.size := by
      obtain ⟨_, _, ⟨h, _⟩ | ⟨g', h, _, _, h5⟩⟩ := HRW.out
      · cases h
      · injection h with h; subst h; exact (Array.getElem?_eq_some_iff.mp h5).1
    have HGS := Lib.hid (fun wx (hx : Below W.heap.size W wx) => gs_head (w := wx) (g := g) (c := c) k (Nat.lt_of_lt_of_le hgl hx.size) hk hmk (by omega))
    obtain ⟨d0, d1, d2, d3⟩ := HC.out
    clear hgl hR hC hW
    go_enter Tryd.func44, Tryd.ntmps44
    go_wp2_with fail
    refine HL.out.mono ?_; rintro e w1 ⟨rfl, rfl⟩
    go_wp2_with fail
    refine HRS.out.mono ?_; rintro e w1 ⟨rfl, hw⟩; rw [hw]; clear hw w1
    clear d0 d1 d2 d3
    have hnil := fun wx => eql_nil (some ⟨g, 0, none⟩) 0 c wx
    have hfr := fun wx => from_zero (some ⟨g, 0, none⟩) c (by intro x hx; first | cases hx; exact ⟨_, rfl⟩ | cases hx) wx
    have hw1 : IntKind.i64.wrap (k : Int) = k := IntWalk.i64_in _ (by omega)
    have hbl := HCW.out.lt
    obtain ⟨c0, c1, c2, c3⟩ := HCW.out
    go_wp2_with fail
    refine HT.out.mono ?_; rintro e w1 ⟨rfl, hw⟩; rw [hw]; clear hw w1
    go_wp2_with fail
    refine wp_region_till (S := (fun wx => wx.cell? ⟨b, q, none⟩ = some (.slice (some ⟨g, 0, none⟩) 0 c) ∧ wx.cell? ⟨b, q + 1, none⟩ = some (.int .i64 0))) 19 (by kernel_rfl) ⟨c0, c1⟩ (fun hHeld => ?_)
    refine till_take (i := 0) (oi := { dst := some 76, op := Op.move (Operand.tmp 0), type := 70, pos := "buffer.go:169", after := #[], guard := none }) (v := ?_) rfl (by kernel_rfl) (by kernel_rfl) (by kernel_rfl) (fun _ _ _ h => h) (Or.inl ⟨by rfl, ?_⟩) (by assumption) ?_
    rotate_left 1
    · intro w hSw; (try dsimp only at hSw); go_simp; try (with_reducible rfl)
    try simp only [Act.put, List.setIfInBounds_toArray, List.set_cons_zero, List.set_cons_succ]
    refine till_take (i := 1) (oi := { dst := some 77, op := Op.move (Operand.tmp 0), type := 70, pos := "buffer.go:169", after := #[], guard := none }) (v := ?_) rfl (by kernel_rfl) (by kernel_rfl) (by kernel_rfl) (fun _ _ _ h => h) (Or.inl ⟨by rfl, ?_⟩) (by assumption) ?_
    rotate_left 1
    · intro w hSw; (try dsimp only at hSw); go_simp; try (with_reducible rfl)
    try simp only [Act.put, List.setIfInBounds_toArray, List.set_cons_zero, List.set_cons_succ]
    refine till_take (i := 2) (oi := { dst := some 78, op := Op.nilCheck (Operand.tmp 77), type := 0, pos := "buffer.go:169", after := #[{ on := 1, ground := Ground.data }], guard := none }) (v := ?_) rfl (by kernel_rfl) (by kernel_rfl) (by kernel_rfl) (fun _ _ _ h => h) (Or.inl ⟨by rfl, ?_⟩) (by assumption) ?_
    rotate_left 1
    · intro w hSw; (try dsimp only at hSw); go_simp; try (with_reducible rfl)
    try simp only [Act.put, List.setIfInBounds_toArray, List.set_cons_zero, List.set_cons_succ]
    refine till_take (i := 3) (oi := { dst := some 79, op := Op.fieldAddr 49 (Operand.tmp 78) 0, type := 0, pos := "buffer.go:169", after := #[{ on := 2, ground := Ground.data }], guard := none }) (v := ?_) rfl (by kernel_rfl) (by kernel_rfl) (by kernel_rfl) (fun _ _ _ h => h) (Or.inl ⟨by rfl, ?_⟩) (by assumption) ?_
    rotate_left 1
    · intro w hSw; (try dsimp only at hSw); go_simp; try (with_reducible rfl)
    try simp only [Act.put, List.setIfInBounds_toArray, List.set_cons_zero, List.set_cons_succ]
    refine till_take (i := 4) (oi := { dst := some 80, op := Op.load 22 (Operand.tmp 79), type := 22, pos := "buffer.go:169", after := #[{ on := 3, ground := Ground.data }], guard := none }) (v := ?_) rfl (by kernel_rfl) (by kernel_rfl) (by kernel_rfl) (fun _ _ _ h => h) (Or.inl ⟨by rfl, ?_⟩) (by assumption) ?_
    rotate_left 1
    · intro w hSw; (try dsimp only at hSw); go_simp; try (with_reducible rfl)
    try simp only [Act.put, List.setIfInBounds_toArray, List.set_cons_zero, List.set_cons_succ]
    refine till_take (i := 5) (oi := { dst := some 81, op := Op.move (Operand.tmp 0), type := 70, pos := "buffer.go:169", after := #[], guard := none }) (v := ?_) rfl (by kernel_rfl) (by kernel_rfl) (by kernel_rfl) (fun _ _ _ h => h) (Or.inl ⟨by rfl, ?_⟩) (by assumption) ?_
    rotate_left 1
    · intro w hSw; (try dsimp only at hSw); go_simp; try (with_reducible rfl)
    try simp only [Act.put, List.setIfInBounds_toArray, List.set_cons_zero, List.set_cons_succ]
    refine till_take (i := 6) (oi := { dst := some 82, op := Op.nilCheck (Operand.tmp 81), type := 0, pos := "buffer.go:169", after := #[{ on := 5, ground := Ground.data }], guard := none }) (v := ?_) rfl (by kernel_rfl) (by kernel_rfl) (by kernel_rfl) (fun _ _ _ h => h) (Or.inl ⟨by rfl, ?_⟩) (by assumption) ?_
    rotate_left 1
    · intro w hSw; (try dsimp only at hSw); go_simp; try (with_reducible rfl)
    try simp only [Act.put, List.setIfInBounds_toArray, List.set_cons_zero, List.set_cons_succ]
    refine till_take (i := 7) (oi := { dst := some 83, op := Op.fieldAddr 49 (Operand.tmp 82) 1, type := 0, pos := "buffer.go:169", after := #[{ on := 6, ground := Ground.data }], guard := none }) (v := ?_) rfl (by kernel_rfl) (by kernel_rfl) (by kernel_rfl) (fun _ _ _ h => h) (Or.inl ⟨by rfl, ?_⟩) (by assumption) ?_
    rotate_left 1
    · intro w hSw; (try dsimp only at hSw); go_simp; try (with_reducible rfl)
    try simp only [Act.put, List.setIfInBounds_toArray, List.set_cons_zero, List.set_cons_succ]
    refine till_take (i := 8) (oi := { dst := some 84, op := Op.load 3 (Operand.tmp 83), type := 3, pos := "buffer.go:169", after := #[{ on := 7, ground := Ground.data }], guard := none }) (v := ?_) rfl (by kernel_rfl) (by kernel_rfl) (by kernel_rfl) (fun _ _ _ h => h) (Or.inl ⟨by rfl, ?_⟩) (by assumption) ?_
    rotate_left 1
    · intro w hSw; (try dsimp only at hSw); go_simp; try (with_reducible rfl)
    try simp only [Act.put, List.setIfInBounds_toArray, List.set_cons_zero, List.set_cons_succ]
    refine till_take (i := 9) (oi := { dst := some 85, op := Op.slice 22 (Operand.tmp 80) (some (Operand.tmp 84)) none none, type := 22, pos := "buffer.go:169", after := #[{ on := 4, ground := Ground.data }, { on := 8, ground := Ground.data }], guard := none }) (v := ?_) rfl (by kernel_rfl) (by kernel_rfl) (by kernel_rfl) (fun _ _ _ h => h) (Or.inl ⟨by rfl, ?_⟩) (by assumption) ?_
    rotate_left 1
    · intro w hSw; (try dsimp only at hSw); go_simp; try (with_reducible rfl)
    try simp only [Act.put, List.setIfInBounds_toArray, List.set_cons_zero, List.set_cons_succ]
    refine till_take (i := 10) (oi := { dst := some 86, op := Op.move (Operand.tmp 0), type := 70, pos := "buffer.go:169", after := #[], guard := none }) (v := ?_) rfl (by kernel_rfl) (by kernel_rfl) (by kernel_rfl) (fun _ _ _ h => h) (Or.inl ⟨by rfl, ?_⟩) (by assumption) ?_
    rotate_left 1
    · intro w hSw; (try dsimp only at hSw); go_simp; try (with_reducible rfl)
    try simp only [Act.put, List.setIfInBounds_toArray, List.set_cons_zero, List.set_cons_succ]
    refine till_take (i := 11) (oi := { dst := some 87, op := Op.nilCheck (Operand.tmp 86), type := 0, pos := "buffer.go:169", after := #[{ on := 10, ground := Ground.data }], guard := none }) (v := ?_) rfl (by kernel_rfl) (by kernel_rfl) (by kernel_rfl) (fun _ _ _ h => h) (Or.inl ⟨by rfl, ?_⟩) (by assumption) ?_
    rotate_left 1
    · intro w hSw; (try dsimp only at hSw); go_simp; try (with_reducible rfl)
    try simp only [Act.put, List.setIfInBounds_toArray, List.set_cons_zero, List.set_cons_succ]
    refine till_take (i := 12) (oi := { dst := some 88, op := Op.fieldAddr 49 (Operand.tmp 87) 1, type := 0, pos := "buffer.go:169", after := #[{ on := 11, ground := Ground.data }], guard := none }) (v := ?_) rfl (by kernel_rfl) (by kernel_rfl) (by kernel_rfl) (fun _ _ _ h => h) (Or.inl ⟨by rfl, ?_⟩) (by assumption) ?_
    rotate_left 1
    · intro w hSw; (try dsimp only at hSw); go_simp; try (with_reducible rfl)
    try simp only [Act.put, List.setIfInBounds_toArray, List.set_cons_zero, List.set_cons_succ]
    refine till_take (i := 13) (oi := { dst := some 89, op := Op.load 3 (Operand.tmp 88), type := 3, pos := "buffer.go:169", after := #[{ on := 12, ground := Ground.data }], guard := none }) (v := ?_) rfl (by kernel_rfl) (by kernel_rfl) (by kernel_rfl) (fun _ _ _ h => h) (Or.inl ⟨by rfl, ?_⟩) (by assumption) ?_
    rotate_left 1
    · intro w hSw; (try dsimp only at hSw); go_simp; try (with_reducible rfl)
    try simp only [Act.put, List.setIfInBounds_toArray, List.set_cons_zero, List.set_cons_succ]
    refine till_take (i := 14) (oi := { dst := some 90, op := Op.move (Operand.tmp 1), type := 3, pos := "buffer.go:169", after := #[], guard := none }) (v := ?_) rfl (by kernel_rfl) (by kernel_rfl) (by kernel_rfl) (fun _ _ _ h => h) (Or.inl ⟨by rfl, ?_⟩) (by assumption) ?_
    rotate_left 1
    · intro w hSw; (try dsimp only at hSw); go_simp; try (with_reducible rfl)
    try simp only [Act.put, List.setIfInBounds_toArray, List.set_cons_zero, List.set_cons_succ]
    refine till_take (i := 15) (oi := { dst := some 91, op := Op.binOp BinOp.add 3 (Operand.tmp 89) (Operand.tmp 90) 3, type := 3, pos := "buffer.go:169", after := #[{ on := 13, ground := Ground.data }, { on := 14, ground := Ground.data }], guard := none }) (v := ?_) rfl (by kernel_rfl) (by kernel_rfl) (by kernel_rfl) (fun _ _ _ h => h) (Or.inl ⟨by rfl, ?_⟩) (by assumption) ?_
    rotate_left 1
    · intro w hSw; (try dsimp only at hSw); go_simp; try (with_reducible rfl)
    try simp only [Act.put, List.setIfInBounds_toArray, List.set_cons_zero, List.set_cons_succ]
    refine till_ready (rs := [16]) (by kernel_rfl) (by simp) ?_
    refine TillAll.cons (o := { dst := some 92, op := Op.call { callee := Callee.value (Operand.func 46), args := #[Operand.tmp 85, Operand.tmp 91], argTypes := #[22, 3] }, type := 22, pos := "buffer.go:169", after := #[{ on := 9, ground := Ground.data }, { on := 15, ground := Ground.data }], guard := none }) rfl (fun K hK => ?_) (TillAll.nil)
    go_simp
    refine (HGS.out _ HBD.out).mono ?_; rintro e w2 ⟨cap, ys, rfl, hy⟩
    have hy6 := hy.bel
    have HQ := Lib.hid (And.intro ((hy6.cell (p := ⟨b, q, none⟩) hbl).trans c0) ((hy6.cell (p := ⟨b, q + 1, none⟩) hbl).trans c1))
    have HY := Lib.hid hy
    have f2 := (hy6.frozen (p := ⟨b, q, none⟩) hbl).trans (c3 q).1
    have f3 := (hy6.frozen (p := ⟨b, q + 1, none⟩) hbl).trans (c3 (q + 1)).1
    clear hy hy6
    refine hK.out _ _ HQ.out (fun hHeld => ?_)
    clear hK K
    try simp only [Act.put, List.setIfInBounds_toArray, List.set_cons_zero, List.set_cons_succ]
    refine till_ready (rs := [17]) (by kernel_rfl) (by simp) ?_
    refine TillAll.cons (o := { dst := some 93, op := Op.nilCheck (Operand.tmp 76), type := 0, pos := "buffer.go:169", after := #[{ on := 0, ground := Ground.data }, { on := 0, ground := Ground.phase }, { on := 1, ground := Ground.phase }, { on := 2, ground := Ground.phase }, { on := 3, ground := Ground.phase }, { on := 4, ground := Ground.phase }, { on := 5, ground := Ground.phase }, { on := 6, ground := Ground.phase }, { on := 7, ground := Ground.phase }, { on := 8, ground := Ground.phase }, { on := 9, ground := Ground.phase }, { on := 10, ground := Ground.phase }, { on := 11, ground := Ground.phase }, { on := 12, ground := Ground.phase }, { on := 13, ground := Ground.phase }, { on := 14, ground := Ground.phase }, { on := 15, ground := Ground.phase }, { on := 16, ground := Ground.phase }], guard := none }) rfl (fun K hK => ?_) (TillAll.nil)
    go_simp
    refine hK.out _ _ HQ.out (fun hHeld => ?_)
    clear hK K
    try simp only [Act.put, List.setIfInBounds_toArray, List.set_cons_zero, List.set_cons_succ]
    refine till_take (i := 18) (oi := { dst := some 94, op := Op.fieldAddr 49 (Operand.tmp 93) 0, type := 0, pos := "buffer.go:169", after := #[{ on := 17, ground := Ground.data }, { on := 0, ground := Ground.phase }, { on := 1, ground := Ground.phase }, { on := 2, ground := Ground.phase }, { on := 3, ground := Ground.phase }, { on := 4, ground := Ground.phase }, { on := 5, ground := Ground.phase }, { on := 6, ground := Ground.phase }, { on := 7, ground := Ground.phase }, { on := 8, ground := Ground.phase }, { on := 9, ground := Ground.phase }, { on := 10, ground := Ground.phase }, { on := 11, ground := Ground.phase }, { on := 12, ground := Ground.phase }, { on := 13, ground := Ground.phase }, { on := 14, ground := Ground.phase }, { on := 15, ground := Ground.phase }, { on := 16, ground := Ground.phase }], guard := none }) (v := ?_) rfl (by kernel_rfl) (by kernel_rfl) (by kernel_rfl) (fun _ _ _ h => h) (Or.inl ⟨by rfl, ?_⟩) (by assumption) ?_
    rotate_left 1
    · intro w hSw; (try dsimp only at hSw); go_simp; try (with_reducible rfl)
    try simp only [Act.put, List.setIfInBounds_toArray, List.set_cons_zero, List.set_cons_succ]
    refine till_ready (rs := [19]) (by kernel_rfl) (by simp) ?_
    refine TillAll.last (o := { dst := none, op := Op.store 22 (Operand.tmp 94) (Operand.tmp 92), type := 0, pos := "buffer.go:169", after := #[{ on := 18, ground := Ground.data }, { on := 16, ground := Ground.data }, { on := 16, ground := Ground.chain }, { on := 0, ground := Ground.phase }, { on := 1, ground := Ground.phase }, { on := 2, ground := Ground.phase }, { on := 3, ground := Ground.phase }, { on := 4, ground := Ground.phase }, { on := 5, ground := Ground.phase }, { on := 6, ground := Ground.phase }, { on := 7, ground := Ground.phase }, { on := 8, ground := Ground.phase }, { on := 9, ground := Ground.phase }, { on := 10, ground := Ground.phase }, { on := 11, ground := Ground.phase }, { on := 12, ground := Ground.phase }, { on := 13, ground := Ground.phase }, { on := 14, ground := Ground.phase }, { on := 15, ground := Ground.phase }, { on := 16, ground := Ground.phase }], guard := none }) rfl (fun K hK => ?_) (TillAll.nil)
    go_simp
    refine hK.out _ _ trivial (fun hHeld => ?_)
    clear hK K
    try simp only [Act.put, List.setIfInBounds_toArray, List.set_cons_zero, List.set_cons_succ]
    refine till_done (by kernel_rfl) ?_ _
    clear hHeld
    obtain ⟨e0, e1⟩ := HQ.out
    have hroom := HY.out.room
    have hcm := HY.out.cap
    unfold maxLen at hcm
    go_wp2_with fail
    have hfin := GrPost.then HAS.out (GrPost.new (o := (some g)) (k := k) HCW.out (HBD.out.trans (show Below W.heap.size W.drew w2 from HY.out.bel)) HY.out.row HY.out.len HY.out.head (by omega) HY.out.cap W.heap.size rfl)
    simp only [Nat.zero_add] at hfin
    go_ret
    exact hfin

end Go.Proofs.YtlkafakanoefmaaDoor
