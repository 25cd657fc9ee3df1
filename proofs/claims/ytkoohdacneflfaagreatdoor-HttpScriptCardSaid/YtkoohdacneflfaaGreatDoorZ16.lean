/-
  SameItems.
-/
import Derived.Test.YtkoohdacneflfaaGreatDoorZ11
import Derived.Test.YtkoohdacneflfaaGreatDoorZ06
import Derived.Test.YtkoohdacneflfaaGreatDoorZ02
import Derived.BigRegion
import Derived.Deep.RegionLaw
import Derived.Deep.RegionHeld
import Derived.Test.YtkoohdacneflfaaGreatDoorZ00
import Derived.Test.YtkoohdacneflfaaGreatDoorZ10
import Derived.Test.YtkoohdacneflfaaGreatDoorZ15
namespace Go.Proofs.YtkoohdacneflfaaGreatDoor
open Go.RowKit Go.Shelf
set_option linter.unusedVariables false
set_option linter.unusedSimpArgs false
set_option maxRecDepth 100000

set_option maxHeartbeats 4000000 in
theorem sameI_yes {w : World} {N N' B B' : Nat} {X X' : Nat → Prop} {u v : Value} {l l' : List Rp} (hu : TI w N B X u l) (hv : TI w N' B' X' v l') (he : l.map (·.x) = l'.map (·.x)) (hl : l.length ≤ 1000000) :
    Calls Tryz.prog 15 #[u, v] w (Tells w (.bool true)) := by
  have hll : l'.length = l.length := by have := congrArg List.length he; simpa using this.symm
  obtain ⟨a, c, rfl⟩ := hu.shape
  obtain ⟨a', c', rfl⟩ := hv.shape
  rw [hll]
  have HU := Lib.hid hu
  have HV := Lib.hid hv
  have HL := Lib.hid hl
  have HE := Lib.hid he
  have HLL := Lib.hid hll
  have HB := Lib.hid (Below.refl w.heap.size w)
  clear hu hv he hl hll
  go_enter Tryz.func15, Tryz.ntmps15
  go_wp2_with fail
  go_loopg [5] l.length (fun g v5 wr => ∃ k : Nat, k + g = l.length ∧ v5 = .int .i64 k ∧ Hid (Below w.heap.size w wr))
  case atStart => exact ⟨0, by omega, rfl, HB⟩
  case round =>
    clear HB
    obtain ⟨k, hk, rfl, HBB⟩ := hrel
    have hlen := HL.out
    by_cases hlt : k < l.length
    · have hlt' : k < l'.length := by rw [HLL.out]; exact hlt
      have hx : l[k].x = l'[k].x := by
        have := congrArg (fun m : List Ih => m[k]?) HE.out
        simpa [List.getElem?_map, hlt, hlt'] using this
      have t1 : (k : Int) < (l.length : Int) := by omega
      have ta := (HU.out.below HBB.out)
      have tb := (HV.out.below HBB.out)
      obtain ⟨ga, rfl, hga, hca⟩ := ta.at_ (by omega)
      have tb2 : TI wr N' B' X' (.slice a' l.length c') l' := by rw [← HLL.out]; exact tb
      obtain ⟨gb, rfl, hgb, hcb⟩ := tb2.at_ (by omega)
      have oa := ta.each _ (List.getElem_mem hlt)
      have ob := tb.each _ (List.getElem_mem hlt')
      replace hca := hca k hlt
      replace hcb := hcb k hlt'
      obtain ⟨⟨x1, xs, xb⟩, hp⟩ : ∃ p, l[k] = p := ⟨_, rfl⟩
      obtain ⟨⟨x2, ys, yb⟩, hq⟩ : ∃ p, l'[k] = p := ⟨_, rfl⟩
      rw [hp] at hx hca oa
      rw [hq] at hx hcb ob
      simp only at hx
      subst hx
      obtain ⟨st, hd, bd, kp⟩ := x1
      obtain ⟨xsa, xsc, e1⟩ := oa.f.shape
      obtain ⟨xba, xbc, e2⟩ := oa.b.shape
      obtain ⟨ysa, ysc, e3⟩ := ob.f.shape
      obtain ⟨yba, ybc, e4⟩ := ob.b.shape
      simp only at e1 e2 e3 e4
      subst e1; subst e2; subst e3; subst e4
      obtain ⟨xs, hxs⟩ : ∃ x : Value, .slice xsa hd.fs.length xsc = x := ⟨_, rfl⟩
      obtain ⟨ys, hys⟩ : ∃ x : Value, .slice ysa hd.fs.length ysc = x := ⟨_, rfl⟩
      have hbd : Below wr.heap.size wr wr.drew := (Below.refl _ _).drew
      have HSH := Lib.hid (sameH_yes (oa.hv.later hbd) (ob.hv.later hbd) (Nat.le_refl _) (Nat.le_refl _))
      have HSBx := Lib.hid (fun wx (hb : Below wr.heap.size wr wx) => same_any ((oa.b.below hb).sl) ((ob.b.below hb).sl))
      obtain ⟨xb, hxb⟩ : ∃ x : Value, .slice xba bd.length xbc = x := ⟨_, rfl⟩
      obtain ⟨yb, hyb⟩ : ∃ x : Value, .slice yba bd.length ybc = x := ⟨_, rfl⟩
      have HCA := Lib.hid (fun wx (hb : Below wr.heap.size wr wx) => show (wx.cell? ⟨ga, k * 7, none⟩ = some (.int .i64 st) ∧ wx.cell? ⟨ga, k * 7 + 1, none⟩ = some (.string (bs hd.m)) ∧ wx.cell? ⟨ga, k * 7 + 2, none⟩ = some (.string (bs hd.t)) ∧ wx.cell? ⟨ga, k * 7 + 3, none⟩ = some (.int .i64 hd.v) ∧ wx.cell? ⟨ga, k * 7 + 4, none⟩ = some (xs) ∧ wx.cell? ⟨ga, k * 7 + 5, none⟩ = some (xb) ∧ wx.cell? ⟨ga, k * 7 + 6, none⟩ = some (.bool kp)) ∧ (wx.cell? ⟨gb, k * 7, none⟩ = some (.int .i64 st) ∧ wx.cell? ⟨gb, k * 7 + 1, none⟩ = some (.string (bs hd.m)) ∧ wx.cell? ⟨gb, k * 7 + 2, none⟩ = some (.string (bs hd.t)) ∧ wx.cell? ⟨gb, k * 7 + 3, none⟩ = some (.int .i64 hd.v) ∧ wx.cell? ⟨gb, k * 7 + 4, none⟩ = some (ys) ∧ wx.cell? ⟨gb, k * 7 + 5, none⟩ = some (yb) ∧ wx.cell? ⟨gb, k * 7 + 6, none⟩ = some (.bool kp)) from by
        have k1 := hca.keep fun o => hb.cell (p := ⟨ga, o, none⟩) hga
        have k2 := hcb.keep fun o => hb.cell (p := ⟨gb, o, none⟩) hgb
        subst hxs; subst hys; subst hxb; subst hyb
        exact ⟨⟨k1.c0, k1.c1, k1.c2, k1.c3, k1.c4, k1.c5, k1.c6⟩, ⟨k2.c0, k2.c1, k2.c2, k2.c3, k2.c4, k2.c5, k2.c6⟩⟩)
      have HC0 := Lib.hid (HCA.out wr.drew hbd)
      simp only [hI, hxs, hys, hxb, hyb] at HSH HSBx
      clear hca hcb oa ob hbd ta tb tb2 hp hq hxs hys hxb hyb hga hgb
      go_wp2_with fail
      refine wp_region_held_drew (S := (fun wx => (wx.cell? ⟨ga, k * 7, none⟩ = some (.int .i64 st) ∧ wx.cell? ⟨ga, k * 7 + 1, none⟩ = some (.string (bs hd.m)) ∧ wx.cell? ⟨ga, k * 7 + 2, none⟩ = some (.string (bs hd.t)) ∧ wx.cell? ⟨ga, k * 7 + 3, none⟩ = some (.int .i64 hd.v) ∧ wx.cell? ⟨ga, k * 7 + 4, none⟩ = some (xs) ∧ wx.cell? ⟨ga, k * 7 + 5, none⟩ = some (xb) ∧ wx.cell? ⟨ga, k * 7 + 6, none⟩ = some (.bool kp)) ∧ (wx.cell? ⟨gb, k * 7, none⟩ = some (.int .i64 st) ∧ wx.cell? ⟨gb, k * 7 + 1, none⟩ = some (.string (bs hd.m)) ∧ wx.cell? ⟨gb, k * 7 + 2, none⟩ = some (.string (bs hd.t)) ∧ wx.cell? ⟨gb, k * 7 + 3, none⟩ = some (.int .i64 hd.v) ∧ wx.cell? ⟨gb, k * 7 + 4, none⟩ = some (ys) ∧ wx.cell? ⟨gb, k * 7 + 5, none⟩ = some (yb) ∧ wx.cell? ⟨gb, k * 7 + 6, none⟩ = some (.bool kp)))) (by kernel_rfl) HC0.out (fun hHeld => ?_)
      refine wpAnyH_take (i := 0) (oi := { dst := some 17, op := Op.move (Operand.tmp 0), type := 32, pos := "items.go:11", after := #[], guard := none }) (v := ?_) rfl (by kernel_rfl) (by kernel_rfl) (by kernel_rfl) (fun _ _ _ h => h) (Or.inl ⟨by rfl, ?_⟩) (by assumption) ?_
      rotate_left 1
      · intro w hSw; (try dsimp only at hSw); go_simp; try (with_reducible rfl)
      try simp only [Act.put, List.setIfInBounds_toArray, List.set_cons_zero, List.set_cons_succ]
      refine wpAnyH_take (i := 1) (oi := { dst := some 18, op := Op.move (Operand.tmp 5), type := 3, pos := "items.go:11", after := #[], guard := none }) (v := ?_) rfl (by kernel_rfl) (by kernel_rfl) (by kernel_rfl) (fun _ _ _ h => h) (Or.inl ⟨by rfl, ?_⟩) (by assumption) ?_
      rotate_left 1
      · intro w hSw; (try dsimp only at hSw); go_simp; try (with_reducible rfl)
      try simp only [Act.put, List.setIfInBounds_toArray, List.set_cons_zero, List.set_cons_succ]
      refine wpAnyH_take (i := 2) (oi := { dst := some 19, op := Op.indexAddr 32 (Operand.tmp 17) (Operand.tmp 18), type := 0, pos := "items.go:11", after := #[{ on := 0, ground := Ground.data }, { on := 1, ground := Ground.data }], guard := none }) (v := ?_) rfl (by kernel_rfl) (by kernel_rfl) (by kernel_rfl) (fun _ _ _ h => h) (Or.inl ⟨by rfl, ?_⟩) (by assumption) ?_
      rotate_left 1
      · intro w hSw; (try dsimp only at hSw); go_simp; try (with_reducible rfl)
      try simp only [Act.put, List.setIfInBounds_toArray, List.set_cons_zero, List.set_cons_succ]
      refine wpAnyH_take (i := 3) (oi := { dst := some 20, op := Op.fieldAddr 44 (Operand.tmp 19) 0, type := 0, pos := "items.go:11", after := #[{ on := 2, ground := Ground.data }], guard := none }) (v := ?_) rfl (by kernel_rfl) (by kernel_rfl) (by kernel_rfl) (fun _ _ _ h => h) (Or.inl ⟨by rfl, ?_⟩) (by assumption) ?_
      rotate_left 1
      · intro w hSw; (try dsimp only at hSw); go_simp; try (with_reducible rfl)
      try simp only [Act.put, List.setIfInBounds_toArray, List.set_cons_zero, List.set_cons_succ]
      refine wpAnyH_take (i := 4) (oi := { dst := some 21, op := Op.load 3 (Operand.tmp 20), type := 3, pos := "items.go:11", after := #[{ on := 3, ground := Ground.data }], guard := none }) (v := ?_) rfl (by kernel_rfl) (by kernel_rfl) (by kernel_rfl) (fun _ _ _ h => h) (Or.inl ⟨by rfl, ?_⟩) (by assumption) ?_
      rotate_left 1
      · intro w hSw; (try dsimp only at hSw); go_simp; try (with_reducible rfl)
      try simp only [Act.put, List.setIfInBounds_toArray, List.set_cons_zero, List.set_cons_succ]
      refine wpAnyH_take (i := 5) (oi := { dst := some 22, op := Op.move (Operand.tmp 1), type := 32, pos := "items.go:11", after := #[], guard := none }) (v := ?_) rfl (by kernel_rfl) (by kernel_rfl) (by kernel_rfl) (fun _ _ _ h => h) (Or.inl ⟨by rfl, ?_⟩) (by assumption) ?_
      rotate_left 1
      · intro w hSw; (try dsimp only at hSw); go_simp; try (with_reducible rfl)
      try simp only [Act.put, List.setIfInBounds_toArray, List.set_cons_zero, List.set_cons_succ]
      refine wpAnyH_take (i := 6) (oi := { dst := some 23, op := Op.move (Operand.tmp 5), type := 3, pos := "items.go:11", after := #[], guard := none }) (v := ?_) rfl (by kernel_rfl) (by kernel_rfl) (by kernel_rfl) (fun _ _ _ h => h) (Or.inl ⟨by rfl, ?_⟩) (by assumption) ?_
      rotate_left 1
      · intro w hSw; (try dsimp only at hSw); go_simp; try (with_reducible rfl)
      try simp only [Act.put, List.setIfInBounds_toArray, List.set_cons_zero, List.set_cons_succ]
      refine wpAnyH_take (i := 7) (oi := { dst := some 24, op := Op.indexAddr 32 (Operand.tmp 22) (Operand.tmp 23), type := 0, pos := "items.go:11", after := #[{ on := 5, ground := Ground.data }, { on := 6, ground := Ground.data }], guard := none }) (v := ?_) rfl (by kernel_rfl) (by kernel_rfl) (by kernel_rfl) (fun _ _ _ h => h) (Or.inl ⟨by rfl, ?_⟩) (by assumption) ?_
      rotate_left 1
      · intro w hSw; (try dsimp only at hSw); go_simp; try (with_reducible rfl)
      try simp only [Act.put, List.setIfInBounds_toArray, List.set_cons_zero, List.set_cons_succ]
      refine wpAnyH_take (i := 8) (oi := { dst := some 25, op := Op.fieldAddr 44 (Operand.tmp 24) 0, type := 0, pos := "items.go:11", after := #[{ on := 7, ground := Ground.data }], guard := none }) (v := ?_) rfl (by kernel_rfl) (by kernel_rfl) (by kernel_rfl) (fun _ _ _ h => h) (Or.inl ⟨by rfl, ?_⟩) (by assumption) ?_
      rotate_left 1
      · intro w hSw; (try dsimp only at hSw); go_simp; try (with_reducible rfl)
      try simp only [Act.put, List.setIfInBounds_toArray, List.set_cons_zero, List.set_cons_succ]
      refine wpAnyH_take (i := 9) (oi := { dst := some 26, op := Op.load 3 (Operand.tmp 25), type := 3, pos := "items.go:11", after := #[{ on := 8, ground := Ground.data }], guard := none }) (v := ?_) rfl (by kernel_rfl) (by kernel_rfl) (by kernel_rfl) (fun _ _ _ h => h) (Or.inl ⟨by rfl, ?_⟩) (by assumption) ?_
      rotate_left 1
      · intro w hSw; (try dsimp only at hSw); go_simp; try (with_reducible rfl)
      try simp only [Act.put, List.setIfInBounds_toArray, List.set_cons_zero, List.set_cons_succ]
      refine wpAnyH_take (i := 10) (oi := { dst := some 27, op := Op.binOp BinOp.neq 3 (Operand.tmp 21) (Operand.tmp 26) 3, type := 4, pos := "items.go:11", after := #[{ on := 4, ground := Ground.data }, { on := 9, ground := Ground.data }], guard := none }) (v := ?_) rfl (by kernel_rfl) (by kernel_rfl) (by kernel_rfl) (fun _ _ _ h => h) (Or.inl ⟨by rfl, ?_⟩) (by assumption) ?_
      rotate_left 1
      · intro w hSw; (try dsimp only at hSw); go_simp; try (with_reducible rfl)
      try simp only [Act.put, List.setIfInBounds_toArray, List.set_cons_zero, List.set_cons_succ]
      refine wpAnyH_take (i := 11) (oi := { dst := some 28, op := Op.move (Operand.tmp 27), type := 4, pos := "items.go:11", after := #[{ on := 10, ground := Ground.data }], guard := none }) (v := ?_) rfl (by kernel_rfl) (by kernel_rfl) (by kernel_rfl) (fun _ _ _ h => h) (Or.inl ⟨by rfl, ?_⟩) (by assumption) ?_
      rotate_left 1
      · intro w hSw; (try dsimp only at hSw); go_simp; try (with_reducible rfl)
      try simp only [Act.put, List.setIfInBounds_toArray, List.set_cons_zero, List.set_cons_succ]
      refine wpAnyH_take (i := 12) (oi := { dst := some 29, op := Op.move (Operand.tmp 0), type := 32, pos := "items.go:11", after := #[{ on := 11, ground := Ground.guard }], guard := some (11, false) }) (v := ?_) rfl (by kernel_rfl) (by kernel_rfl) (by kernel_rfl) (fun _ _ _ h => h) (Or.inl ⟨by rfl, ?_⟩) (by assumption) ?_
      rotate_left 1
      · intro w hSw; (try dsimp only at hSw); go_simp; try (with_reducible rfl)
      try simp only [Act.put, List.setIfInBounds_toArray, List.set_cons_zero, List.set_cons_succ]
      refine wpAnyH_take (i := 13) (oi := { dst := some 30, op := Op.move (Operand.tmp 5), type := 3, pos := "items.go:11", after := #[{ on := 11, ground := Ground.guard }], guard := some (11, false) }) (v := ?_) rfl (by kernel_rfl) (by kernel_rfl) (by kernel_rfl) (fun _ _ _ h => h) (Or.inl ⟨by rfl, ?_⟩) (by assumption) ?_
      rotate_left 1
      · intro w hSw; (try dsimp only at hSw); go_simp; try (with_reducible rfl)
      try simp only [Act.put, List.setIfInBounds_toArray, List.set_cons_zero, List.set_cons_succ]
      refine wpAnyH_take (i := 14) (oi := { dst := some 31, op := Op.indexAddr 32 (Operand.tmp 29) (Operand.tmp 30), type := 0, pos := "items.go:11", after := #[{ on := 12, ground := Ground.data }, { on := 13, ground := Ground.data }, { on := 11, ground := Ground.guard }], guard := some (11, false) }) (v := ?_) rfl (by kernel_rfl) (by kernel_rfl) (by kernel_rfl) (fun _ _ _ h => h) (Or.inl ⟨by rfl, ?_⟩) (by assumption) ?_
      rotate_left 1
      · intro w hSw; (try dsimp only at hSw); go_simp; try (with_reducible rfl)
      try simp only [Act.put, List.setIfInBounds_toArray, List.set_cons_zero, List.set_cons_succ]
      refine wpAnyH_take (i := 15) (oi := { dst := some 32, op := Op.fieldAddr 44 (Operand.tmp 31) 3, type := 0, pos := "items.go:11", after := #[{ on := 14, ground := Ground.data }, { on := 11, ground := Ground.guard }], guard := some (11, false) }) (v := ?_) rfl (by kernel_rfl) (by kernel_rfl) (by kernel_rfl) (fun _ _ _ h => h) (Or.inl ⟨by rfl, ?_⟩) (by assumption) ?_
      rotate_left 1
      · intro w hSw; (try dsimp only at hSw); go_simp; try (with_reducible rfl)
      try simp only [Act.put, List.setIfInBounds_toArray, List.set_cons_zero, List.set_cons_succ]
      refine wpAnyH_take (i := 16) (oi := { dst := some 33, op := Op.load 4 (Operand.tmp 32), type := 4, pos := "items.go:11", after := #[{ on := 15, ground := Ground.data }, { on := 11, ground := Ground.guard }], guard := some (11, false) }) (v := ?_) rfl (by kernel_rfl) (by kernel_rfl) (by kernel_rfl) (fun _ _ _ h => h) (Or.inl ⟨by rfl, ?_⟩) (by assumption) ?_
      rotate_left 1
      · intro w hSw; (try dsimp only at hSw); go_simp; try (with_reducible rfl)
      try simp only [Act.put, List.setIfInBounds_toArray, List.set_cons_zero, List.set_cons_succ]
      refine wpAnyH_take (i := 17) (oi := { dst := some 34, op := Op.move (Operand.tmp 1), type := 32, pos := "items.go:11", after := #[{ on := 11, ground := Ground.guard }], guard := some (11, false) }) (v := ?_) rfl (by kernel_rfl) (by kernel_rfl) (by kernel_rfl) (fun _ _ _ h => h) (Or.inl ⟨by rfl, ?_⟩) (by assumption) ?_
      rotate_left 1
      · intro w hSw; (try dsimp only at hSw); go_simp; try (with_reducible rfl)
      try simp only [Act.put, List.setIfInBounds_toArray, List.set_cons_zero, List.set_cons_succ]
      refine wpAnyH_take (i := 18) (oi := { dst := some 35, op := Op.move (Operand.tmp 5), type := 3, pos := "items.go:11", after := #[{ on := 11, ground := Ground.guard }], guard := some (11, false) }) (v := ?_) rfl (by kernel_rfl) (by kernel_rfl) (by kernel_rfl) (fun _ _ _ h => h) (Or.inl ⟨by rfl, ?_⟩) (by assumption) ?_
      rotate_left 1
      · intro w hSw; (try dsimp only at hSw); go_simp; try (with_reducible rfl)
      try simp only [Act.put, List.setIfInBounds_toArray, List.set_cons_zero, List.set_cons_succ]
      refine wpAnyH_take (i := 19) (oi := { dst := some 36, op := Op.indexAddr 32 (Operand.tmp 34) (Operand.tmp 35), type := 0, pos := "items.go:11", after := #[{ on := 17, ground := Ground.data }, { on := 18, ground := Ground.data }, { on := 11, ground := Ground.guard }], guard := some (11, false) }) (v := ?_) rfl (by kernel_rfl) (by kernel_rfl) (by kernel_rfl) (fun _ _ _ h => h) (Or.inl ⟨by rfl, ?_⟩) (by assumption) ?_
      rotate_left 1
      · intro w hSw; (try dsimp only at hSw); go_simp; try (with_reducible rfl)
      try simp only [Act.put, List.setIfInBounds_toArray, List.set_cons_zero, List.set_cons_succ]
      refine wpAnyH_take (i := 20) (oi := { dst := some 37, op := Op.fieldAddr 44 (Operand.tmp 36) 3, type := 0, pos := "items.go:11", after := #[{ on := 19, ground := Ground.data }, { on := 11, ground := Ground.guard }], guard := some (11, false) }) (v := ?_) rfl (by kernel_rfl) (by kernel_rfl) (by kernel_rfl) (fun _ _ _ h => h) (Or.inl ⟨by rfl, ?_⟩) (by assumption) ?_
      rotate_left 1
      · intro w hSw; (try dsimp only at hSw); go_simp; try (with_reducible rfl)
      try simp only [Act.put, List.setIfInBounds_toArray, List.set_cons_zero, List.set_cons_succ]
      refine wpAnyH_take (i := 21) (oi := { dst := some 38, op := Op.load 4 (Operand.tmp 37), type := 4, pos := "items.go:11", after := #[{ on := 20, ground := Ground.data }, { on := 11, ground := Ground.guard }], guard := some (11, false) }) (v := ?_) rfl (by kernel_rfl) (by kernel_rfl) (by kernel_rfl) (fun _ _ _ h => h) (Or.inl ⟨by rfl, ?_⟩) (by assumption) ?_
      rotate_left 1
      · intro w hSw; (try dsimp only at hSw); go_simp; try (with_reducible rfl)
      try simp only [Act.put, List.setIfInBounds_toArray, List.set_cons_zero, List.set_cons_succ]
      refine wpAnyH_take (i := 22) (oi := { dst := some 39, op := Op.binOp BinOp.neq 4 (Operand.tmp 33) (Operand.tmp 38) 4, type := 4, pos := "items.go:11", after := #[{ on := 16, ground := Ground.data }, { on := 21, ground := Ground.data }, { on := 11, ground := Ground.guard }], guard := some (11, false) }) (v := ?_) rfl (by kernel_rfl) (by kernel_rfl) (by kernel_rfl) (fun _ _ _ h => h) (Or.inl ⟨by rfl, ?_⟩) (by assumption) ?_
      rotate_left 1
      · intro w hSw; (try dsimp only at hSw); go_simp; try (with_reducible rfl)
      try simp only [Act.put, List.setIfInBounds_toArray, List.set_cons_zero, List.set_cons_succ]
      refine wpAnyH_take (i := 23) (oi := { dst := some 40, op := Op.pick (Operand.tmp 28) (Operand.const (Value.bool true)) (Operand.tmp 39), type := 4, pos := "items.go:11", after := #[{ on := 11, ground := Ground.data }, { on := 22, ground := Ground.data }], guard := none }) (v := ?_) rfl (by kernel_rfl) (by kernel_rfl) (by kernel_rfl) (fun _ _ _ h => h) (Or.inl ⟨by rfl, ?_⟩) (by assumption) ?_
      rotate_left 1
      · intro w hSw; (try dsimp only at hSw); go_simp; try (with_reducible rfl)
      try simp only [Act.put, List.setIfInBounds_toArray, List.set_cons_zero, List.set_cons_succ]
      refine wpAnyH_take (i := 24) (oi := { dst := some 41, op := Op.move (Operand.tmp 40), type := 4, pos := "items.go:11", after := #[{ on := 23, ground := Ground.data }, { on := 11, ground := Ground.chain }], guard := none }) (v := ?_) rfl (by kernel_rfl) (by kernel_rfl) (by kernel_rfl) (fun _ _ _ h => h) (Or.inl ⟨by rfl, ?_⟩) (by assumption) ?_
      rotate_left 1
      · intro w hSw; (try dsimp only at hSw); go_simp; try (with_reducible rfl)
      try simp only [Act.put, List.setIfInBounds_toArray, List.set_cons_zero, List.set_cons_succ]
      refine wpAnyH_take (i := 25) (oi := { dst := some 42, op := Op.move (Operand.tmp 0), type := 32, pos := "items.go:11", after := #[{ on := 24, ground := Ground.guard }], guard := some (24, false) }) (v := ?_) rfl (by kernel_rfl) (by kernel_rfl) (by kernel_rfl) (fun _ _ _ h => h) (Or.inl ⟨by rfl, ?_⟩) (by assumption) ?_
      rotate_left 1
      · intro w hSw; (try dsimp only at hSw); go_simp; try (with_reducible rfl)
      try simp only [Act.put, List.setIfInBounds_toArray, List.set_cons_zero, List.set_cons_succ]
      refine wpAnyH_take (i := 26) (oi := { dst := some 43, op := Op.move (Operand.tmp 5), type := 3, pos := "items.go:11", after := #[{ on := 24, ground := Ground.guard }], guard := some (24, false) }) (v := ?_) rfl (by kernel_rfl) (by kernel_rfl) (by kernel_rfl) (fun _ _ _ h => h) (Or.inl ⟨by rfl, ?_⟩) (by assumption) ?_
      rotate_left 1
      · intro w hSw; (try dsimp only at hSw); go_simp; try (with_reducible rfl)
      try simp only [Act.put, List.setIfInBounds_toArray, List.set_cons_zero, List.set_cons_succ]
      refine wpAnyH_take (i := 27) (oi := { dst := some 44, op := Op.indexAddr 32 (Operand.tmp 42) (Operand.tmp 43), type := 0, pos := "items.go:11", after := #[{ on := 25, ground := Ground.data }, { on := 26, ground := Ground.data }, { on := 24, ground := Ground.guard }], guard := some (24, false) }) (v := ?_) rfl (by kernel_rfl) (by kernel_rfl) (by kernel_rfl) (fun _ _ _ h => h) (Or.inl ⟨by rfl, ?_⟩) (by assumption) ?_
      rotate_left 1
      · intro w hSw; (try dsimp only at hSw); go_simp; try (with_reducible rfl)
      try simp only [Act.put, List.setIfInBounds_toArray, List.set_cons_zero, List.set_cons_succ]
      refine wpAnyH_take (i := 28) (oi := { dst := some 45, op := Op.fieldAddr 44 (Operand.tmp 44) 1, type := 0, pos := "items.go:11", after := #[{ on := 27, ground := Ground.data }, { on := 24, ground := Ground.guard }], guard := some (24, false) }) (v := ?_) rfl (by kernel_rfl) (by kernel_rfl) (by kernel_rfl) (fun _ _ _ h => h) (Or.inl ⟨by rfl, ?_⟩) (by assumption) ?_
      rotate_left 1
      · intro w hSw; (try dsimp only at hSw); go_simp; try (with_reducible rfl)
      try simp only [Act.put, List.setIfInBounds_toArray, List.set_cons_zero, List.set_cons_succ]
      refine wpAnyH_take (i := 29) (oi := { dst := some 46, op := Op.load 42 (Operand.tmp 45), type := 42, pos := "items.go:11", after := #[{ on := 28, ground := Ground.data }, { on := 24, ground := Ground.guard }], guard := some (24, false) }) (v := ?_) rfl (by kernel_rfl) (by kernel_rfl) (by kernel_rfl) (fun _ _ _ h => h) (Or.inl ⟨by rfl, ?_⟩) (by assumption) ?_
      rotate_left 1
      · intro w hSw; (try dsimp only at hSw); go_simp; try (with_reducible rfl)
      try simp only [Act.put, List.setIfInBounds_toArray, List.set_cons_zero, List.set_cons_succ]
      refine wpAnyH_take (i := 30) (oi := { dst := some 47, op := Op.move (Operand.tmp 1), type := 32, pos := "items.go:11", after := #[{ on := 24, ground := Ground.guard }], guard := some (24, false) }) (v := ?_) rfl (by kernel_rfl) (by kernel_rfl) (by kernel_rfl) (fun _ _ _ h => h) (Or.inl ⟨by rfl, ?_⟩) (by assumption) ?_
      rotate_left 1
      · intro w hSw; (try dsimp only at hSw); go_simp; try (with_reducible rfl)
      try simp only [Act.put, List.setIfInBounds_toArray, List.set_cons_zero, List.set_cons_succ]
      refine wpAnyH_take (i := 31) (oi := { dst := some 48, op := Op.move (Operand.tmp 5), type := 3, pos := "items.go:11", after := #[{ on := 24, ground := Ground.guard }], guard := some (24, false) }) (v := ?_) rfl (by kernel_rfl) (by kernel_rfl) (by kernel_rfl) (fun _ _ _ h => h) (Or.inl ⟨by rfl, ?_⟩) (by assumption) ?_
      rotate_left 1
      · intro w hSw; (try dsimp only at hSw); go_simp; try (with_reducible rfl)
      try simp only [Act.put, List.setIfInBounds_toArray, List.set_cons_zero, List.set_cons_succ]
      refine wpAnyH_take (i := 32) (oi := { dst := some 49, op := Op.indexAddr 32 (Operand.tmp 47) (Operand.tmp 48), type := 0, pos := "items.go:11", after := #[{ on := 30, ground := Ground.data }, { on := 31, ground := Ground.data }, { on := 24, ground := Ground.guard }], guard := some (24, false) }) (v := ?_) rfl (by kernel_rfl) (by kernel_rfl) (by kernel_rfl) (fun _ _ _ h => h) (Or.inl ⟨by rfl, ?_⟩) (by assumption) ?_
      rotate_left 1
      · intro w hSw; (try dsimp only at hSw); go_simp; try (with_reducible rfl)
      try simp only [Act.put, List.setIfInBounds_toArray, List.set_cons_zero, List.set_cons_succ]
      refine wpAnyH_take (i := 33) (oi := { dst := some 50, op := Op.fieldAddr 44 (Operand.tmp 49) 1, type := 0, pos := "items.go:11", after := #[{ on := 32, ground := Ground.data }, { on := 24, ground := Ground.guard }], guard := some (24, false) }) (v := ?_) rfl (by kernel_rfl) (by kernel_rfl) (by kernel_rfl) (fun _ _ _ h => h) (Or.inl ⟨by rfl, ?_⟩) (by assumption) ?_
      rotate_left 1
      · intro w hSw; (try dsimp only at hSw); go_simp; try (with_reducible rfl)
      try simp only [Act.put, List.setIfInBounds_toArray, List.set_cons_zero, List.set_cons_succ]
      refine wpAnyH_take (i := 34) (oi := { dst := some 51, op := Op.load 42 (Operand.tmp 50), type := 42, pos := "items.go:11", after := #[{ on := 33, ground := Ground.data }, { on := 24, ground := Ground.guard }], guard := some (24, false) }) (v := ?_) rfl (by kernel_rfl) (by kernel_rfl) (by kernel_rfl) (fun _ _ _ h => h) (Or.inl ⟨by rfl, ?_⟩) (by assumption) ?_
      rotate_left 1
      · intro w hSw; (try dsimp only at hSw); go_simp; try (with_reducible rfl)
      try simp only [Act.put, List.setIfInBounds_toArray, List.set_cons_zero, List.set_cons_succ]
      refine wpAnyH_ready (rs := [35]) (by kernel_rfl) (by simp) ?_
      refine AllReadyH.cons (o := { dst := some 52, op := Op.call { callee := Callee.value (Operand.func 29), args := #[Operand.tmp 46, Operand.tmp 51], argTypes := #[42, 42] }, type := 4, pos := "items.go:11", after := #[{ on := 29, ground := Ground.data }, { on := 34, ground := Ground.data }, { on := 24, ground := Ground.chain }, { on := 24, ground := Ground.guard }], guard := some (24, false) }) rfl (fun K hK => ?_) (AllReadyH.nil)
      go_simp
      refine HSH.out.mono ?_; rintro en w1 ⟨rfl, hb1⟩
      have HB1 := Lib.hid (((Below.refl wr.heap.size wr).drew).trans hb1)
      have HC1 := Lib.hid (HCA.out w1 HB1.out)
      have HSB := Lib.hid (HSBx.out w1 HB1.out)
      clear hb1
      refine hK.out _ _ HC1.out (fun hHeld => ?_)
      clear hK K
      try simp only [Act.put, List.setIfInBounds_toArray, List.set_cons_zero, List.set_cons_succ]
      refine wpAnyH_take (i := 36) (oi := { dst := some 53, op := Op.unOp UnOp.not 4 (Operand.tmp 52), type := 4, pos := "items.go:11", after := #[{ on := 35, ground := Ground.data }, { on := 24, ground := Ground.guard }], guard := some (24, false) }) (v := ?_) rfl (by kernel_rfl) (by kernel_rfl) (by kernel_rfl) (fun _ _ _ h => h) (Or.inl ⟨by rfl, ?_⟩) (by assumption) ?_
      rotate_left 1
      · intro w hSw; (try dsimp only at hSw); go_simp; try (with_reducible rfl)
      try simp only [Act.put, List.setIfInBounds_toArray, List.set_cons_zero, List.set_cons_succ]
      refine wpAnyH_take (i := 37) (oi := { dst := some 54, op := Op.pick (Operand.tmp 41) (Operand.const (Value.bool true)) (Operand.tmp 53), type := 4, pos := "items.go:11", after := #[{ on := 24, ground := Ground.data }, { on := 36, ground := Ground.data }], guard := none }) (v := ?_) rfl (by kernel_rfl) (by kernel_rfl) (by kernel_rfl) (fun _ _ _ h => h) (Or.inl ⟨by rfl, ?_⟩) (by assumption) ?_
      rotate_left 1
      · intro w hSw; (try dsimp only at hSw); go_simp; try (with_reducible rfl)
      try simp only [Act.put, List.setIfInBounds_toArray, List.set_cons_zero, List.set_cons_succ]
      refine wpAnyH_take (i := 38) (oi := { dst := some 55, op := Op.move (Operand.tmp 54), type := 4, pos := "items.go:11", after := #[{ on := 37, ground := Ground.data }, { on := 35, ground := Ground.chain }], guard := none }) (v := ?_) rfl (by kernel_rfl) (by kernel_rfl) (by kernel_rfl) (fun _ _ _ h => h) (Or.inl ⟨by rfl, ?_⟩) (by assumption) ?_
      rotate_left 1
      · intro w hSw; (try dsimp only at hSw); go_simp; try (with_reducible rfl)
      try simp only [Act.put, List.setIfInBounds_toArray, List.set_cons_zero, List.set_cons_succ]
      refine wpAnyH_take (i := 39) (oi := { dst := some 56, op := Op.move (Operand.tmp 0), type := 32, pos := "items.go:11", after := #[{ on := 38, ground := Ground.guard }], guard := some (38, false) }) (v := ?_) rfl (by kernel_rfl) (by kernel_rfl) (by kernel_rfl) (fun _ _ _ h => h) (Or.inl ⟨by rfl, ?_⟩) (by assumption) ?_
      rotate_left 1
      · intro w hSw; (try dsimp only at hSw); go_simp; try (with_reducible rfl)
      try simp only [Act.put, List.setIfInBounds_toArray, List.set_cons_zero, List.set_cons_succ]
      refine wpAnyH_take (i := 40) (oi := { dst := some 57, op := Op.move (Operand.tmp 5), type := 3, pos := "items.go:11", after := #[{ on := 38, ground := Ground.guard }], guard := some (38, false) }) (v := ?_) rfl (by kernel_rfl) (by kernel_rfl) (by kernel_rfl) (fun _ _ _ h => h) (Or.inl ⟨by rfl, ?_⟩) (by assumption) ?_
      rotate_left 1
      · intro w hSw; (try dsimp only at hSw); go_simp; try (with_reducible rfl)
      try simp only [Act.put, List.setIfInBounds_toArray, List.set_cons_zero, List.set_cons_succ]
      refine wpAnyH_take (i := 41) (oi := { dst := some 58, op := Op.indexAddr 32 (Operand.tmp 56) (Operand.tmp 57), type := 0, pos := "items.go:11", after := #[{ on := 39, ground := Ground.data }, { on := 40, ground := Ground.data }, { on := 38, ground := Ground.guard }], guard := some (38, false) }) (v := ?_) rfl (by kernel_rfl) (by kernel_rfl) (by kernel_rfl) (fun _ _ _ h => h) (Or.inl ⟨by rfl, ?_⟩) (by assumption) ?_
      rotate_left 1
      · intro w hSw; (try dsimp only at hSw); go_simp; try (with_reducible rfl)
      try simp only [Act.put, List.setIfInBounds_toArray, List.set_cons_zero, List.set_cons_succ]
      refine wpAnyH_take (i := 42) (oi := { dst := some 59, op := Op.fieldAddr 44 (Operand.tmp 58) 2, type := 0, pos := "items.go:11", after := #[{ on := 41, ground := Ground.data }, { on := 38, ground := Ground.guard }], guard := some (38, false) }) (v := ?_) rfl (by kernel_rfl) (by kernel_rfl) (by kernel_rfl) (fun _ _ _ h => h) (Or.inl ⟨by rfl, ?_⟩) (by assumption) ?_
      rotate_left 1
      · intro w hSw; (try dsimp only at hSw); go_simp; try (with_reducible rfl)
      try simp only [Act.put, List.setIfInBounds_toArray, List.set_cons_zero, List.set_cons_succ]
      refine wpAnyH_take (i := 43) (oi := { dst := some 60, op := Op.load 28 (Operand.tmp 59), type := 28, pos := "items.go:11", after := #[{ on := 42, ground := Ground.data }, { on := 38, ground := Ground.guard }], guard := some (38, false) }) (v := ?_) rfl (by kernel_rfl) (by kernel_rfl) (by kernel_rfl) (fun _ _ _ h => h) (Or.inl ⟨by rfl, ?_⟩) (by assumption) ?_
      rotate_left 1
      · intro w hSw; (try dsimp only at hSw); go_simp; try (with_reducible rfl)
      try simp only [Act.put, List.setIfInBounds_toArray, List.set_cons_zero, List.set_cons_succ]
      refine wpAnyH_take (i := 44) (oi := { dst := some 61, op := Op.move (Operand.tmp 1), type := 32, pos := "items.go:11", after := #[{ on := 38, ground := Ground.guard }], guard := some (38, false) }) (v := ?_) rfl (by kernel_rfl) (by kernel_rfl) (by kernel_rfl) (fun _ _ _ h => h) (Or.inl ⟨by rfl, ?_⟩) (by assumption) ?_
      rotate_left 1
      · intro w hSw; (try dsimp only at hSw); go_simp; try (with_reducible rfl)
      try simp only [Act.put, List.setIfInBounds_toArray, List.set_cons_zero, List.set_cons_succ]
      refine wpAnyH_take (i := 45) (oi := { dst := some 62, op := Op.move (Operand.tmp 5), type := 3, pos := "items.go:11", after := #[{ on := 38, ground := Ground.guard }], guard := some (38, false) }) (v := ?_) rfl (by kernel_rfl) (by kernel_rfl) (by kernel_rfl) (fun _ _ _ h => h) (Or.inl ⟨by rfl, ?_⟩) (by assumption) ?_
      rotate_left 1
      · intro w hSw; (try dsimp only at hSw); go_simp; try (with_reducible rfl)
      try simp only [Act.put, List.setIfInBounds_toArray, List.set_cons_zero, List.set_cons_succ]
      refine wpAnyH_take (i := 46) (oi := { dst := some 63, op := Op.indexAddr 32 (Operand.tmp 61) (Operand.tmp 62), type := 0, pos := "items.go:11", after := #[{ on := 44, ground := Ground.data }, { on := 45, ground := Ground.data }, { on := 38, ground := Ground.guard }], guard := some (38, false) }) (v := ?_) rfl (by kernel_rfl) (by kernel_rfl) (by kernel_rfl) (fun _ _ _ h => h) (Or.inl ⟨by rfl, ?_⟩) (by assumption) ?_
      rotate_left 1
      · intro w hSw; (try dsimp only at hSw); go_simp; try (with_reducible rfl)
      try simp only [Act.put, List.setIfInBounds_toArray, List.set_cons_zero, List.set_cons_succ]
      refine wpAnyH_take (i := 47) (oi := { dst := some 64, op := Op.fieldAddr 44 (Operand.tmp 63) 2, type := 0, pos := "items.go:11", after := #[{ on := 46, ground := Ground.data }, { on := 38, ground := Ground.guard }], guard := some (38, false) }) (v := ?_) rfl (by kernel_rfl) (by kernel_rfl) (by kernel_rfl) (fun _ _ _ h => h) (Or.inl ⟨by rfl, ?_⟩) (by assumption) ?_
      rotate_left 1
      · intro w hSw; (try dsimp only at hSw); go_simp; try (with_reducible rfl)
      try simp only [Act.put, List.setIfInBounds_toArray, List.set_cons_zero, List.set_cons_succ]
      refine wpAnyH_take (i := 48) (oi := { dst := some 65, op := Op.load 28 (Operand.tmp 64), type := 28, pos := "items.go:11", after := #[{ on := 47, ground := Ground.data }, { on := 38, ground := Ground.guard }], guard := some (38, false) }) (v := ?_) rfl (by kernel_rfl) (by kernel_rfl) (by kernel_rfl) (fun _ _ _ h => h) (Or.inl ⟨by rfl, ?_⟩) (by assumption) ?_
      rotate_left 1
      · intro w hSw; (try dsimp only at hSw); go_simp; try (with_reducible rfl)
      try simp only [Act.put, List.setIfInBounds_toArray, List.set_cons_zero, List.set_cons_succ]
      refine wpAnyH_ready (rs := [49]) (by kernel_rfl) (by simp) ?_
      refine AllReadyH.cons (o := { dst := some 66, op := Op.call { callee := Callee.value (Operand.func 16), args := #[Operand.tmp 60, Operand.tmp 65], argTypes := #[28, 28] }, type := 4, pos := "items.go:11", after := #[{ on := 43, ground := Ground.data }, { on := 48, ground := Ground.data }, { on := 38, ground := Ground.chain }, { on := 38, ground := Ground.guard }], guard := some (38, false) }) rfl (fun K hK => ?_) (AllReadyH.nil)
      go_simp
      refine HSB.out.mono ?_; rintro en w2 ⟨rfl, rfl⟩
      refine hK.out _ _ HC1.out (fun hHeld => ?_)
      clear hK K
      try simp only [Act.put, List.setIfInBounds_toArray, List.set_cons_zero, List.set_cons_succ]
      refine wpAnyH_take (i := 50) (oi := { dst := some 67, op := Op.unOp UnOp.not 4 (Operand.tmp 66), type := 4, pos := "items.go:11", after := #[{ on := 49, ground := Ground.data }, { on := 38, ground := Ground.guard }], guard := some (38, false) }) (v := ?_) rfl (by kernel_rfl) (by kernel_rfl) (by kernel_rfl) (fun _ _ _ h => h) (Or.inl ⟨by rfl, ?_⟩) (by assumption) ?_
      rotate_left 1
      · intro w hSw; (try dsimp only at hSw); go_simp; try (with_reducible rfl)
      try simp only [Act.put, List.setIfInBounds_toArray, List.set_cons_zero, List.set_cons_succ]
      refine wpAnyH_take (i := 51) (oi := { dst := some 68, op := Op.pick (Operand.tmp 55) (Operand.const (Value.bool true)) (Operand.tmp 67), type := 4, pos := "items.go:11", after := #[{ on := 38, ground := Ground.data }, { on := 50, ground := Ground.data }], guard := none }) (v := ?_) rfl (by kernel_rfl) (by kernel_rfl) (by kernel_rfl) (fun _ _ _ h => h) (Or.inl ⟨by rfl, ?_⟩) (by assumption) ?_
      rotate_left 1
      · intro w hSw; (try dsimp only at hSw); go_simp; try (with_reducible rfl)
      try simp only [Act.put, List.setIfInBounds_toArray, List.set_cons_zero, List.set_cons_succ]
      refine wpAnyH_done (by kernel_rfl) ?_ _
      clear hHeld
      go_wp2_with fail
      have HBf := Lib.hid (HBB.out.trans (HB1.out.mono HBB.out.size))
      go_roundg (l.length - (k + 1))
      case measure => omega
      case rel => exact ⟨k + 1, by omega, by go_num, HBf⟩
    · have t1 : ¬ ((k : Int) < (l.length : Int)) := by omega
      go_wp2_with fail
      go_ret
      exact ⟨rfl, HBB.out⟩
end Go.Proofs.YtkoohdacneflfaaGreatDoor

/-
  Requests that are written are read as they were, plainly.
-/
namespace Go.Proofs.YtkoohdacneflfaaGreatDoor
set_option linter.unusedVariables false
set_option linter.unusedSimpArgs false

/-! ### where a written head ends -/
theorem endF_skip1 {c : UInt8} (h : c ≠ 13) (r : List UInt8) (i : Nat) : endF i (c :: r) = endF (i + 1) r := by
  match r with
  | [] => rfl
  | [_] => rfl
  | [_, _] => rfl
  | b :: d :: e :: r => rw [endF, if_neg (fun hh => h hh.1)]
theorem endF_skip : ∀ (a r : List UInt8) (i : Nat), clean a → endF i (a ++ r) = endF (i + a.length) r
  | [], r, i, _ => rfl
  | c :: a, r, i, h => by
    rw [List.cons_append, endF_skip1 (h c (by simp)).1, endF_skip a r (i + 1) (fun x hx => h x (by simp [hx])), List.length_cons]
    congr 1; omega
theorem endF_line {y : UInt8} (h : y ≠ 13) (r : List UInt8) (i : Nat) : endF i (13 :: 10 :: y :: r) = endF (i + 2) (y :: r) := by
  match r with
  | [] => rfl
  | d :: r =>
    rw [endF, if_neg (fun hh => h hh.2.2.1), endF_skip1 (by decide)]
theorem end_join : ∀ (L : List (List UInt8)), L ≠ [] → (∀ x ∈ L, clean x ∧ x ≠ []) → ∀ (t : List UInt8) (i : Nat), endF i (joinL L ++ crlf ++ t) = some (i + (joinL L).length + 2)
  | [], h, _, _, _ => absurd rfl h
  | [x], _, h, t, i => by
    have e : joinL [x] ++ crlf ++ t = x ++ (13 :: 10 :: 13 :: 10 :: t) := by simp [joinL, crlf]
    rw [e, endF_skip x _ i (h x (by simp)).1, endF, if_pos ⟨rfl, rfl, rfl, rfl⟩]
    simp [joinL, crlf]; omega
  | x :: y :: L, _, h, t, i => by
    have hy := h y (by simp)
    obtain ⟨y0, y', rfl⟩ : ∃ y0 y', y = y0 :: y' := by cases y with | nil => exact absurd rfl hy.2 | cons a b => exact ⟨a, b, rfl⟩
    have e : joinL (x :: (y0 :: y') :: L) ++ crlf ++ t = x ++ (13 :: 10 :: y0 :: (y' ++ crlf ++ joinL L ++ crlf ++ t)) := by simp [joinL, crlf]
    have e2 : y0 :: (y' ++ crlf ++ joinL L ++ crlf ++ t) = joinL ((y0 :: y') :: L) ++ crlf ++ t := by simp [joinL, crlf]
    rw [e, endF_skip x _ i (h x (by simp)).1, endF_line (hy.1 y0 (by simp)).1, e2, end_join ((y0 :: y') :: L) (by simp) (fun z hz => h z (List.mem_cons_of_mem _ hz))]
    congr 1
    simp [joinL, crlf]; omega
theorem end_wr {h : Hd} (hm : mayH h = true) (t : List UInt8) : endL (wrH h ++ t) = some (wrH h).length := by
  obtain ⟨h1, h2, h3, h4, h5, h6, h7⟩ := mayH_all hm
  have hc : ∀ x ∈ (fst1 h :: h.fs.map fun f => f.1 ++ 58 :: ([32] ++ f.2 ++ [])), clean x ∧ x ≠ [] := by
    intro x hx
    rcases List.mem_cons.mp hx with rfl | hx
    · exact ⟨(fst_reads h1 h2 h3).2.1, (fst_reads h1 h2 h3).2.2⟩
    · exact gdL_clean h.fs _ (gdL_self h.fs h5) x hx
  unfold endL
  rw [List.take_append, List.take_of_length_le h7]
  have e := wr_join h
  rw [e, end_join _ (by simp) hc, List.length_append]
  simp [crlf]

/-! ### one request -/
theorem one_wr {h : Hd} {n : Nat} (hm : mayH h = true) (he : vals h.fs nExp = []) (hl : lenH h.fs = ((n : Int), 200) ∨ (lenH h.fs = (-1, 200) ∧ h.m ≠ mPost ∧ n = 0)) (body t : List UInt8) (hb : body.length = n) :
    oneH (wrH h ++ body ++ t) = some (⟨200, h, body, keepH h.v h.fs⟩, (wrH h).length + n) := by
  have ha : askH (wrH h) = (200, n, h) := by
    unfold askH
    rw [par_wr hm, if_neg (by simp), if_neg (by simpa using he)]
    simp only
    rcases hl with hl | ⟨hl, hp, hn⟩
    · rw [hl, if_neg (by simp), if_neg (by simp only; omega)]
      simp
    · rw [hl, if_neg (by simp), if_neg (fun hh => hp hh.2), hn]
      simp
  unfold oneH
  rw [List.append_assoc, end_wr hm (body ++ t)]
  simp only
  rw [List.take_left, ha, if_neg (by simp), if_neg (by simp only [List.length_append]; omega), List.drop_left, List.take_append_of_le_length (by simp only; omega), List.take_of_length_le (by simp only; omega)]

/-! ### the requests of the statement -/
def nCnn : List UInt8 := [67, 111, 110, 110, 101, 99, 116, 105, 111, 110]
def nHo : List UInt8 := [72, 111, 115, 116]
def mGe : List UInt8 := [71, 69, 84]
def fsR (post keep : Bool) (body : List UInt8) : List Fd := [(nHo, [120])] ++ (if keep then [] else [(nCnn, nClo)]) ++ (if post || !body.isEmpty then [(nCL, Lib.decDigits body.length)] else [])
def hdR (post keep : Bool) (target body : List UInt8) : Hd := ⟨if post then mPost else mGe, target, 1, fsR post keep body⟩
theorem sx1 : sameN nHo nExp = false ∧ sameN nCnn nExp = false ∧ sameN nCL nExp = false := by decide +kernel
theorem sx2 : sameN nHo nTra = false ∧ sameN nCnn nTra = false := by decide +kernel
theorem sx3 : sameN nHo nLen = false ∧ sameN nCnn nLen = false := by decide +kernel
theorem sx4 : sameN nHo nCon = false ∧ sameN nCnn nCon = true ∧ sameN nCL nCon = false := by decide +kernel
theorem vals_nil (name : List UInt8) : vals [] name = [] := rfl
theorem req_exp (post keep : Bool) (body : List UInt8) : vals (fsR post keep body) nExp = [] := by
  unfold fsR
  cases keep <;> cases (post || !body.isEmpty) <;> simp [vals_cons, vals_nil, sx1]
theorem req_len (post keep : Bool) (body : List UInt8) (hb : body.length ≤ 65535) : lenH (fsR post keep body) = if post || !body.isEmpty then (((body.length : Nat) : Int), (200 : Int)) else (-1, 200) := by
  have ht : vals (fsR post keep body) nTra = [] := by
    unfold fsR
    cases keep <;> cases (post || !body.isEmpty) <;> simp [vals_cons, vals_nil, sx2, sm1]
  have hl : vals (fsR post keep body) nLen = if post || !body.isEmpty then [Lib.decDigits body.length] else [] := by
    unfold fsR
    cases keep <;> cases (post || !body.isEmpty) <;> simp [vals_cons, vals_nil, sx3, sm2]
  unfold lenH
  rw [if_pos ht, hl]
  split
  · obtain ⟨d1, d2, d3⟩ := dec_facts2 body.length
    rw [lenV_1 d3 d1 (dec_ten (by omega)), d2, if_neg (by omega)]
  · rfl
theorem req_keep (post keep : Bool) (body : List UInt8) : keepH 1 (fsR post keep body) = keep := by
  have hc : vals (fsR post keep body) nCon = if keep then [] else [nClo] := by
    unfold fsR
    cases keep <;> cases (post || !body.isEmpty) <;> simp [vals_cons, vals_nil, sx4]
  unfold keepH
  rw [hc]
  cases keep <;> decide +kernel
theorem one_req {post keep : Bool} {target body : List UInt8} (hm : mayH (hdR post keep target body) = true) (hb : body.length ≤ 65535) (t : List UInt8) :
    oneH (wrH (hdR post keep target body) ++ body ++ t) = some (⟨200, hdR post keep target body, body, keep⟩, (wrH (hdR post keep target body)).length + body.length) := by
  have h := one_wr (n := body.length) hm (req_exp post keep body) (by
    show lenH (fsR post keep body) = _ ∨ lenH (fsR post keep body) = _ ∧ (if post then mPost else mGe) ≠ mPost ∧ _
    rw [req_len post keep body hb]
    cases post with
    | true => left; simp
    | false =>
      cases body with
      | nil => right; exact ⟨by simp, by decide, rfl⟩
      | cons x r => left; simp) body t rfl
  rw [h]
  have hk : keepH (hdR post keep target body).v (hdR post keep target body).fs = keep := req_keep post keep body
  rw [hk]

/-! ### many of them -/
structure Rq where
  post : Bool
  keep : Bool
  target : List UInt8
  body : List UInt8
def Rq.h (r : Rq) : Hd := hdR r.post r.keep r.target r.body
def Rq.bytes (r : Rq) : List UInt8 := wrH r.h ++ r.body
def Rq.item (r : Rq) : Ih := ⟨200, r.h, r.body, r.keep⟩
def Rq.ok (r : Rq) : Prop := mayH r.h = true ∧ r.body.length ≤ 65535
/-- Up to the first one that closes. -/
def wantR : List Rq → List Ih × Bool
  | [] => ([], false)
  | r :: l => if r.keep then (r.item :: (wantR l).1, (wantR l).2) else ([r.item], true)
theorem run_reqs : ∀ (l : List Rq), (∀ r ∈ l, r.ok) → (runH (l.flatMap Rq.bytes)).1 = (wantR l).1 ∧ (runH (l.flatMap Rq.bytes)).2.2 = (wantR l).2
  | [], _ => by simp [run_none one_nil, wantR]
  | r :: l, h => by
    obtain ⟨hm, hb⟩ := h r (by simp)
    have ho := one_req (t := l.flatMap Rq.bytes) hm hb
    have e : (r :: l).flatMap Rq.bytes = wrH (hdR r.post r.keep r.target r.body) ++ r.body ++ l.flatMap Rq.bytes := by rw [List.flatMap_cons]; rfl
    rw [e, wantR]
    cases hk : r.keep with
    | false =>
      rw [run_last (by rw [← hk]; exact ho) (by simp [lastH, hk])]
      rw [if_neg (by simp)]
      refine ⟨?_, rfl⟩
      unfold Rq.item Rq.h
      rw [hk]
    | true =>
      rw [run_go (by rw [← hk]; exact ho) (by simp [lastH, hk]), if_pos rfl]
      have hd : (wrH (hdR r.post true r.target r.body) ++ r.body ++ l.flatMap Rq.bytes).drop ((wrH (hdR r.post true r.target r.body)).length + r.body.length) = l.flatMap Rq.bytes := by
        rw [← List.length_append, List.drop_left]
      simp only [hk]
      rw [hd]
      have ih := run_reqs l (fun x hx => h x (by simp [hx]))
      refine ⟨?_, ih.2⟩
      unfold Rq.item Rq.h
      rw [hk, ih.1]
end Go.Proofs.YtkoohdacneflfaaGreatDoor

/-
  Requests that the law writes down; its awake.
-/
namespace Go.Proofs.YtkoohdacneflfaaGreatDoor
open Go.RowKit Go.Shelf
set_option linter.unusedVariables false
set_option linter.unusedSimpArgs false
set_option maxRecDepth 100000

def gB : List UInt8 := [71, 69, 84, 32, 47, 32, 72, 84, 84, 80, 47, 49, 46, 48, 13, 10, 67, 111, 110, 110, 101, 99, 116, 105, 111, 110, 58, 32, 107, 101, 101, 112, 45, 97, 108, 105, 118, 101, 13, 10, 13, 10]
def pB : List UInt8 := [80, 79, 83, 84, 32, 47, 32, 72, 84, 84, 80, 47, 49, 46, 48, 13, 10, 67, 111, 110, 110, 101, 99, 116, 105, 111, 110, 58, 32, 107, 101, 101, 112, 45, 97, 108, 105, 118, 101, 13, 10, 67, 111, 110, 116, 101, 110, 116, 45, 76, 101, 110, 103, 116, 104, 58, 32, 50, 13, 10, 13, 10]
def vKA : List UInt8 := [107, 101, 101, 112, 45, 97, 108, 105, 118, 101]
def hG : Hd := ⟨mGe, [47], 0, [(nCnn, vKA)]⟩
def hP : Hd := ⟨mPost, [47], 0, [(nCnn, vKA), (nCL, [50])]⟩
def itG : Ih := ⟨200, hG, [], true⟩
def itP : Ih := ⟨200, hP, [97, 98], true⟩
theorem runG1 : runH (gB ++ [71]) = ([itG], [71], false) := by kernel_rfl
theorem runG2 : runH gB = ([itG], [], false) := by kernel_rfl

/-- A row of constants. -/
theorem const_own (w : World) (l : List UInt8) (hl : l.length ≤ 1000) : OwnB (w.alloc (.cells (ub l).toArray 5 (l.length, l.length + 1))) w.heap.size (.slice (some ⟨w.heap.size, 0, none⟩) l.length l.length) l ∧ Below w.heap.size w (w.alloc (.cells (ub l).toArray 5 (l.length, l.length + 1))) := by
  refine ⟨.inr ⟨w.heap.size, l.length, (l.length, l.length + 1), rfl, Nat.le_refl _, Nat.le_refl _, by unfold maxLen; omega, .inr (Nat.le_refl _), ?_⟩, (Below.refl _ _).alloc (Nat.le_refl _) _⟩
  rw [heap_alloc_new]
  simp [rowB]

set_option maxHeartbeats 1000000 in
theorem get_any (w : World) : Calls Tryz.prog 21 #[] w fun e w' => ∃ v, e = .returned v ∧ OwnB w' w.heap.size v gB ∧ Below w.heap.size w w' := by
  have HF := Lib.hid (const_own w gB (by decide))
  have hcv : (convert 28 28 (.slice (some ⟨w.heap.size, 0, none⟩) 42 42)).run Tryz.prog (w.alloc (.cells #[.int .u8 71, .int .u8 69, .int .u8 84, .int .u8 32, .int .u8 47, .int .u8 32, .int .u8 72, .int .u8 84, .int .u8 84, .int .u8 80, .int .u8 47, .int .u8 49, .int .u8 46, .int .u8 48, .int .u8 13, .int .u8 10, .int .u8 67, .int .u8 111, .int .u8 110, .int .u8 110, .int .u8 101, .int .u8 99, .int .u8 116, .int .u8 105, .int .u8 111, .int .u8 110, .int .u8 58, .int .u8 32, .int .u8 107, .int .u8 101, .int .u8 101, .int .u8 112, .int .u8 45, .int .u8 97, .int .u8 108, .int .u8 105, .int .u8 118, .int .u8 101, .int .u8 13, .int .u8 10, .int .u8 13, .int .u8 10] 5)) = .ok (.slice (some ⟨w.heap.size, 0, none⟩) 42 42) (w.alloc (.cells #[.int .u8 71, .int .u8 69, .int .u8 84, .int .u8 32, .int .u8 47, .int .u8 32, .int .u8 72, .int .u8 84, .int .u8 84, .int .u8 80, .int .u8 47, .int .u8 49, .int .u8 46, .int .u8 48, .int .u8 13, .int .u8 10, .int .u8 67, .int .u8 111, .int .u8 110, .int .u8 110, .int .u8 101, .int .u8 99, .int .u8 116, .int .u8 105, .int .u8 111, .int .u8 110, .int .u8 58, .int .u8 32, .int .u8 107, .int .u8 101, .int .u8 101, .int .u8 112, .int .u8 45, .int .u8 97, .int .u8 108, .int .u8 105, .int .u8 118, .int .u8 101, .int .u8 13, .int .u8 10, .int .u8 13, .int .u8 10] 5 (42, 43))) :=
    Lib.run_convert_bytes_const (P := Tryz.prog) w 28 5 #[.int .u8 71, .int .u8 69, .int .u8 84, .int .u8 32, .int .u8 47, .int .u8 32, .int .u8 72, .int .u8 84, .int .u8 84, .int .u8 80, .int .u8 47, .int .u8 49, .int .u8 46, .int .u8 48, .int .u8 13, .int .u8 10, .int .u8 67, .int .u8 111, .int .u8 110, .int .u8 110, .int .u8 101, .int .u8 99, .int .u8 116, .int .u8 105, .int .u8 111, .int .u8 110, .int .u8 58, .int .u8 32, .int .u8 107, .int .u8 101, .int .u8 101, .int .u8 112, .int .u8 45, .int .u8 97, .int .u8 108, .int .u8 105, .int .u8 118, .int .u8 101, .int .u8 13, .int .u8 10, .int .u8 13, .int .u8 10] 42 42 Tryz.underlying28 Tryz.underlying5
  go_enter Tryz.func21, Tryz.ntmps21
  go_wp2_with fail
  go_ret
  exact ⟨_, rfl, HF.out⟩

set_option maxHeartbeats 1000000 in
theorem post_any (w : World) : Calls Tryz.prog 20 #[] w fun e w' => ∃ v, e = .returned v ∧ OwnB w' w.heap.size v pB ∧ Below w.heap.size w w' := by
  have HF := Lib.hid (const_own w pB (by decide))
  have hcv : (convert 28 28 (.slice (some ⟨w.heap.size, 0, none⟩) 62 62)).run Tryz.prog (w.alloc (.cells #[.int .u8 80, .int .u8 79, .int .u8 83, .int .u8 84, .int .u8 32, .int .u8 47, .int .u8 32, .int .u8 72, .int .u8 84, .int .u8 84, .int .u8 80, .int .u8 47, .int .u8 49, .int .u8 46, .int .u8 48, .int .u8 13, .int .u8 10, .int .u8 67, .int .u8 111, .int .u8 110, .int .u8 110, .int .u8 101, .int .u8 99, .int .u8 116, .int .u8 105, .int .u8 111, .int .u8 110, .int .u8 58, .int .u8 32, .int .u8 107, .int .u8 101, .int .u8 101, .int .u8 112, .int .u8 45, .int .u8 97, .int .u8 108, .int .u8 105, .int .u8 118, .int .u8 101, .int .u8 13, .int .u8 10, .int .u8 67, .int .u8 111, .int .u8 110, .int .u8 116, .int .u8 101, .int .u8 110, .int .u8 116, .int .u8 45, .int .u8 76, .int .u8 101, .int .u8 110, .int .u8 103, .int .u8 116, .int .u8 104, .int .u8 58, .int .u8 32, .int .u8 50, .int .u8 13, .int .u8 10, .int .u8 13, .int .u8 10] 5)) = .ok (.slice (some ⟨w.heap.size, 0, none⟩) 62 62) (w.alloc (.cells #[.int .u8 80, .int .u8 79, .int .u8 83, .int .u8 84, .int .u8 32, .int .u8 47, .int .u8 32, .int .u8 72, .int .u8 84, .int .u8 84, .int .u8 80, .int .u8 47, .int .u8 49, .int .u8 46, .int .u8 48, .int .u8 13, .int .u8 10, .int .u8 67, .int .u8 111, .int .u8 110, .int .u8 110, .int .u8 101, .int .u8 99, .int .u8 116, .int .u8 105, .int .u8 111, .int .u8 110, .int .u8 58, .int .u8 32, .int .u8 107, .int .u8 101, .int .u8 101, .int .u8 112, .int .u8 45, .int .u8 97, .int .u8 108, .int .u8 105, .int .u8 118, .int .u8 101, .int .u8 13, .int .u8 10, .int .u8 67, .int .u8 111, .int .u8 110, .int .u8 116, .int .u8 101, .int .u8 110, .int .u8 116, .int .u8 45, .int .u8 76, .int .u8 101, .int .u8 110, .int .u8 103, .int .u8 116, .int .u8 104, .int .u8 58, .int .u8 32, .int .u8 50, .int .u8 13, .int .u8 10, .int .u8 13, .int .u8 10] 5 (62, 63))) :=
    Lib.run_convert_bytes_const (P := Tryz.prog) w 28 5 #[.int .u8 80, .int .u8 79, .int .u8 83, .int .u8 84, .int .u8 32, .int .u8 47, .int .u8 32, .int .u8 72, .int .u8 84, .int .u8 84, .int .u8 80, .int .u8 47, .int .u8 49, .int .u8 46, .int .u8 48, .int .u8 13, .int .u8 10, .int .u8 67, .int .u8 111, .int .u8 110, .int .u8 110, .int .u8 101, .int .u8 99, .int .u8 116, .int .u8 105, .int .u8 111, .int .u8 110, .int .u8 58, .int .u8 32, .int .u8 107, .int .u8 101, .int .u8 101, .int .u8 112, .int .u8 45, .int .u8 97, .int .u8 108, .int .u8 105, .int .u8 118, .int .u8 101, .int .u8 13, .int .u8 10, .int .u8 67, .int .u8 111, .int .u8 110, .int .u8 116, .int .u8 101, .int .u8 110, .int .u8 116, .int .u8 45, .int .u8 76, .int .u8 101, .int .u8 110, .int .u8 103, .int .u8 116, .int .u8 104, .int .u8 58, .int .u8 32, .int .u8 50, .int .u8 13, .int .u8 10, .int .u8 13, .int .u8 10] 62 62 Tryz.underlying28 Tryz.underlying5
  go_enter Tryz.func20, Tryz.ntmps20
  go_wp2_with fail
  go_ret
  exact ⟨_, rfl, HF.out⟩

theorem PushPost.below {w w' : World} {N : Nat} {o : Option Nat} {r : Nat} {b : List UInt8} {out : Bool} (h : Rk w N o r b out) (hN : N ≤ w.heap.size) (ha : Aside (fun k => k = r ∨ o = some k) w w') : Below N w w' :=
  ha.below fun k hk => ⟨by omega, fun e => by
    rcases e with e | e
    · have := h.lo; omega
    · have := (h.olt k e).1; omega⟩
theorem one_map {ps : List Rp} {x : Ih} (h : ps.map (·.x) = [x]) : ∃ s b, ps = [⟨x, s, b⟩] := by
  match ps, h with
  | [⟨y, s, b⟩], h =>
    simp at h
    subst h
    exact ⟨s, b, rfl⟩
end Go.Proofs.YtkoohdacneflfaaGreatDoor

/-
  The law's awake.
-/
namespace Go.Proofs.YtkoohdacneflfaaGreatDoor
open Go.RowKit Go.Shelf
set_option linter.unusedVariables false
set_option linter.unusedSimpArgs false
set_option maxRecDepth 100000

theorem ptr_not (w : World) (r : Nat) : (binOp .eql 23 (.pointer (some ⟨r, 0, none⟩)) (.pointer none)).run Tryz.prog w = .ok (.bool false) w := by
  have h : ∀ d : Nat, (Op.equalIn (d + 1) 23 (.pointer (some ⟨r, 0, none⟩)) (.pointer none)).run Tryz.prog w = .ok false w := fun d => by
    simp [Op.equalIn, run_underlying Tryz.underlying23]
  simp only [binOp]
  simp [Op.equal, Op.maxDepth, h 9999]

set_option maxHeartbeats 4000000 in
theorem awake_any {w : World} (hE : Env w) : Calls Tryz.prog 11 #[] w (Tells w (.bool true)) := by
  obtain ⟨N, hN⟩ : ∃ N, w.heap.size = N := ⟨_, rfl⟩
  have HE := Lib.hid (show EnvN w N from by rw [← hN]; exact EnvN.of hE)
  have HNW := Lib.hid (new_any w N (by omega))
  have e9 := ptr_not
  have HNN := Lib.hid hN
  clear hE
  go_enter Tryz.func11, Tryz.ntmps11
  go_wp2_with fail
  refine HNW.out.mono ?_; rintro e w1 ⟨rfl, hr1, hb1⟩
  rw [hN] at hr1 hb1 ⊢
  have HR1 := Lib.hid hr1
  have HB1 := Lib.hid hb1
  have HG1 := Lib.hid (get_any w1)
  clear hr1 hb1 HNW hN
  go_wp2_with fail
  refine HG1.out.mono ?_; rintro e w2 ⟨v2, rfl, ho2, hb2⟩
  have hb3 : Below w2.heap.size w2 (w2.alloc (.cells #[.int .u8 71] 5)) := (Below.refl _ _).alloc (Nat.le_refl _) _
  have hs1 := HB1.out.size
  obtain ⟨a4, c4, w4, hrun, ho4, hA4, _⟩ := run_appBl (w := w2.alloc (.cells #[.int .u8 71] 5)) w1.heap.size v2 (.slice (some ⟨w2.heap.size, 0, none⟩) 1 1) gB [71] (ho2.below hb3) (sl_one w2 71) (by decide) (Nat.le_trans hb2.size hb3.size)
  obtain ⟨a2, c2, rfl⟩ := ho2.shape
  have hb4 : Below w1.heap.size w1 w4 := (hb2.trans (hb3.mono hb2.size)).trans (hA4.below fun k hk => ⟨Nat.lt_of_lt_of_le hk (Nat.le_trans hb2.size hb3.size), fun e => by have := (ho2.lt k e).1; omega⟩)
  have HR4 := Lib.hid (HR1.out.below hb4)
  have HB4 := Lib.hid (HB1.out.trans (hb4.mono (by have := HNN.out; omega)))
  have HPU := Lib.hid (push_any HR4.out ho4.sl (HE.out.below HB4.out) (by decide))
  rw [List.nil_append, show gB ++ [71] = gB ++ [71] from rfl] at HPU
  clear ho2 hb2 hb3 ho4 hA4 hb4 HG1 HR1 hs1
  go_wp2_with (at_builtin; refine Lib.wpList_append_run _ rfl _ _ _ _ rfl _ _ rfl rfl _ _ hrun ?_)
  clear hrun
  refine HPU.out.mono ?_; rintro e w5 ⟨v5, ps, o5, rfl, hm5, ht5, hr5, ho5, hA5⟩
  rw [runG1] at hm5 hr5
  obtain ⟨sx, bx, rfl⟩ := one_map hm5
  have hB5 : Below N w4 w5 := PushPost.below HR4.out (by have := HB4.out.size; have := HNN.out; omega) hA5
  have HB5 := Lib.hid (HB4.out.trans hB5)
  have HT5 := Lib.hid ht5
  have HR5 := Lib.hid hr5
  have HL5 := Lib.hid (left_any hr5)
  obtain ⟨a5, c5, rfl⟩ := ht5.shape
  clear hm5 ht5 hr5 ho5 hA5 hB5 HPU HR4
  simp only [List.length_cons, List.length_nil, Nat.zero_add]
  go_wp2_with fail
  refine HL5.out.mono ?_; rintro e w6 ⟨rfl, rfl⟩
  have HG6 := Lib.hid (get_any w6)
  clear HL5
  go_wp2_with fail
  refine HG6.out.mono ?_; rintro e w7 ⟨v7, rfl, ho7, hb7⟩
  obtain ⟨a7, c7, rfl⟩ := ho7.shape
  obtain ⟨fa, fn, fc, hfr, hfs⟩ := from_sl (p := 1) ho7.sl rfl (by decide)
  have hfs7 := hfs w7 ho7.sl
  have hfr1 : ∀ wx, (Instr.slice 28 (.slice a7 gB.length c7) (some (.int .i64 1)) none none).run Tryz.prog wx = .ok (.slice fa fn fc) wx := hfr
  clear hfr
  have HR7 := Lib.hid (HR5.out.below hb7)
  have HT7 := Lib.hid (HT5.out.below hb7)
  have HB7 := Lib.hid (HB5.out.trans (hb7.mono (by have := HB5.out.size; have := HNN.out; omega)))
  have HPU := Lib.hid (push_any HR7.out hfs7 (HE.out.below HB7.out) (by decide))
  have e7 : ([71] ++ gB.drop 1 : List UInt8) = gB := by decide
  rw [e7] at HPU
  have e8 : (gB.length : Int) = 42 := by decide
  clear ho7 hb7 hfs hfs7 HG6 HR5 HT5
  go_wp2_with fail
  clear hfr1 e8
  refine HPU.out.mono ?_; rintro e w8 ⟨v8, qs, o8, rfl, hm8, ht8, hr8, ho8, hA8⟩
  rw [runG2] at hm8 hr8
  obtain ⟨sy, bY, rfl⟩ := one_map hm8
  have hB8 : Below N w7 w8 := PushPost.below HR7.out (by have := HB7.out.size; have := HNN.out; omega) hA8
  have HB8 := Lib.hid (HB7.out.trans hB8)
  obtain ⟨a8, c8, rfl⟩ := ht8.shape
  have hT8 := HT7.out.aside (X' := NoX) hA8 (fun x _ h => h) (fun x _ h => h.elim)
  obtain ⟨g5, hg5, _, hc5⟩ := TI.at_ (a := a5) (n := 1) (c := c5) hT8 (by simp)
  obtain ⟨g8, hg8, _, hc8⟩ := TI.at_ (a := a8) (n := 1) (c := c8) ht8 (by simp)
  subst hg5; subst hg8
  have q5 := hc5 0 (by simp)
  have q8 := hc8 0 (by simp)
  have k0 : w8.cell? ⟨g5, 0, none⟩ = some (.int .i64 200) := q5.c0
  have k6 : w8.cell? ⟨g5, 6, none⟩ = some (.bool true) := q5.c6
  have k1 : w8.cell? ⟨g8, 1, none⟩ = some (.string ⟨#[71, 69, 84]⟩) := q8.c1
  clear hm8 ht8 hr8 ho8 hA8 hB8 HPU HR7 HT7 hT8 hc5 hc8 q5 q8
  simp only [List.length_cons, List.length_nil, Nat.zero_add]
  go_wp2_with fail
  go_ret
  exact ⟨rfl, by rw [HNN.out]; exact HB8.out⟩
end Go.Proofs.YtkoohdacneflfaaGreatDoor
