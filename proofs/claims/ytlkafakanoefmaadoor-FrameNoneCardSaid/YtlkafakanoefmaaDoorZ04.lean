/-
  (*bytes.Buffer).grow: what is kept moved to the front.
-/
import Derived.Test.YtlkafakanoefmaaDoorZ03
import Derived.Test.YtlkafakanoefmaaDoorZ01
import Derived.Deep.Draws
namespace Go.Proofs.YtlkafakanoefmaaDoor
open Go.RowKit Go.Shelf
set_option linter.unusedVariables false
set_option linter.unusedSimpArgs false
set_option maxRecDepth 100000
variable {cs : Nat → Option Value}

set_option maxHeartbeats 4000000 in
theorem grow_slide {w : World} {b q g n c off m k : Nat} {lr : Int} {zs : List Int} (hC : BfC cs w b q (some ⟨g, 0, none⟩) n c off lr) (hR : BfR w b (some g) (some ⟨g, 0, none⟩) c zs) (hn : off + m = n) (hnc : n ≤ c) (hk : 1 ≤ k) (hm0 : ¬ m = 0) (hno : c < n + k) (hnear : (k : Int) ≤ (c : Int) / 2 - m) (hc : c ≤ 1000000000) :
    Calls Tryd.prog 44 #[.pointer (some ⟨b, q, none⟩), .int .i64 k] w (GrPost cs w b q (some g) m k ((zs.take n).drop off)) := by
  have HC := Lib.hid hC
  have HR := Lib.hid hR
  have hbl := hC.lt
  have hnil := fun wx => eql_nil (some ⟨g, 0, none⟩) n c wx
  have HL := Lib.hid (len_at hC (by omega) (by omega))
  rw [show n - off = m by omega] at HL
  have HT := Lib.hid (tryGrow_no (k := k) hC.drew hnc hno hR.2.1)
  have hfr := from_eq (some ⟨g, 0, none⟩) (show off ≤ n by omega) hnc
  have hoff : ¬ off = 0 := by omega
  have hga : sliced (some ⟨g, 0, none⟩) off n c 1 = .slice (some ⟨g, off, none⟩) m (c - off) := by
    unfold sliced
    rw [if_neg (by omega), show n - off = m by omega]
    simp [Addr.add, hoff]
  simp only [hga] at hfr
  obtain ⟨X, hX⟩ : ∃ X, (zs.take n).drop off = X := ⟨_, rfl⟩
  rw [hX]
  have hzl := hR.1
  have hXl : X.length = m := by rw [← hX, List.length_drop, List.length_take, hzl]; omega
  have hg : w.heap[g]? = some (.cells (zs.map (Value.int .u8)).toArray 5 (0, 0)) := by
    obtain ⟨_, _, ⟨e, _⟩ | ⟨g', e, _, _, h⟩⟩ := hR
    · cases e
    · injection e with e; subst e; exact h
  have hcell : ∀ j u, (X.map (Value.int .u8))[j]? = some u → w.cell? ((⟨g, off, none⟩ : Addr).add j) = some u := fun j u hu => by
    rw [List.getElem?_map] at hu
    obtain ⟨x, hx, rfl⟩ := Option.map_eq_some_iff.mp hu
    have hj : j < m := by have := (List.getElem?_eq_some_iff.mp hx).1; omega
    rw [← hX, List.getElem?_drop, List.getElem?_take, if_pos (by omega)] at hx
    rw [WideShapes.add_plain, World.cell?, hg]
    simp [hx]
  have hsz1 : (Tryd.prog.info? 5).map (·.size) = some 1 := Tryd.size5
  have hcp := run_copy_row (P := Tryd.prog) w.drew.drew 22 22 3 5 g 0 n c ⟨g, off, none⟩ m (c - off) ((zs.map (Value.int .u8)).toArray) 5 (X.map (Value.int .u8)) Tryd.underlying22 hsz1 hg (by rw [List.length_map, hXl]; exact (Nat.min_eq_left (by omega)).symm) hcell (by simp [hXl, hzl]; omega) (ints_oneCell _ _)
  rw [List.length_map, hXl] at hcp
  obtain ⟨Y, hY⟩ : ∃ Y, ((zs.map (Value.int .u8)).toArray.toList.take 0 ++ X.map (Value.int .u8) ++ (zs.map (Value.int .u8)).toArray.toList.drop (0 + m)).toArray = Y := ⟨_, rfl⟩
  rw [hY] at hcp
  have hY2 : Y = ((X ++ zs.drop m).map (Value.int .u8)).toArray := by rw [← hY]; simp
  have HBD := Lib.hid (show Below w.heap.size w w.drew.drew from ((Below.refl _ w).drew).drew)
  have t1 : ((m : Int) == 0) = false := by simpa using hm0
  have HF : Hid (GrPost cs w b q (some g) m k X (.returned (.int .i64 m)) (((w.drew.drew.setRow g Y).setCell ⟨b, q + 1, none⟩ (.int .i64 0)).setCell ⟨b, q, none⟩ (.slice (some ⟨g, 0, none⟩) (m + k) c))) := Lib.hid (by
    subst hY2
    have hgb : g ≠ b := by
      obtain ⟨_, _, ⟨e, _⟩ | ⟨g', e, _, h, _⟩⟩ := HR.out
      · cases e
      · injection e with e; omega
    have hr : (w.drew.drew.setRow g ((X ++ zs.drop m).map (Value.int .u8)).toArray).heap[g]? = some (.cells ((X ++ zs.drop m).map (Value.int .u8)).toArray 5 (0, 0)) := setRow_heap w.drew.drew g _ _ _ _ hg
    have hA : Aside (fun j => j = b ∨ some g = some j) w (w.drew.drew.setRow g ((X ++ zs.drop m).map (Value.int .u8)).toArray) := ⟨rfl, rfl, rfl, by show w.heap.size ≤ ((w.drew.drew.setRow g _).heap).size; rw [size_setRow]; exact Nat.le_refl _, fun j hj hn => setRow_other w.drew.drew g j _ (fun e => hn (.inr (by rw [e])))⟩
    have hB : BfC cs (w.drew.drew.setRow g ((X ++ zs.drop m).map (Value.int .u8)).toArray) b q (some ⟨g, 0, none⟩) n c off lr := HC.out.aside (G := fun j => j = g) ⟨rfl, rfl, rfl, by show w.heap.size ≤ ((w.drew.drew.setRow g _).heap).size; rw [size_setRow]; exact Nat.le_refl _, fun j hj hn => setRow_other w.drew.drew g j _ hn⟩ (fun e => hgb e.symm)
    have hR2 : BfR (w.drew.drew.setRow g ((X ++ zs.drop m).map (Value.int .u8)).toArray) b (some g) (some ⟨g, 0, none⟩) c (X ++ zs.drop m) := ⟨by simp [hXl, hzl]; omega, HR.out.2.1, .inr ⟨g, rfl, rfl, hgb, hr⟩⟩
    refine ⟨rfl, some ⟨g, 0, none⟩, c, X ++ zs.drop m, some g, lr, (hB.setO 0).setB (some ⟨g, 0, none⟩) (m + k) c, (hR2.set _ _).set _ _, by omega, by rw [← hXl]; exact List.take_left, .inl rfl, ?_⟩
    exact (hA.trans (Aside.setCell (G := fun j => j = b ∨ some g = some j) _ _ (.inl rfl))).trans (Aside.setCell _ _ (.inl rfl)))
  have hgb : g ≠ b := by
    obtain ⟨_, _, ⟨e, _⟩ | ⟨g', e, _, h, _⟩⟩ := HR.out
    · cases e
    · injection e with e; omega
  have hbk : (w.drew.drew.setRow g Y).heap[b]? = w.heap[b]? := setRow_other w.drew.drew g b _ (fun e => hgb e.symm)
  have HQ := Lib.hid (show (w.drew.drew.setRow g Y).cell? ⟨b, q, none⟩ = some (.slice (some ⟨g, 0, none⟩) n c) ∧ (w.drew.drew.setRow g Y).cell? ⟨b, q + 1, none⟩ = some (.int .i64 off) from ⟨(World.cell?_of_block (a := ⟨b, q, none⟩) hbk).trans hC.1, (World.cell?_of_block (a := ⟨b, q + 1, none⟩) hbk).trans hC.2.1⟩)
  have f2 : (w.drew.drew.setRow g Y).frozen? ⟨b, q, none⟩ = false := (World.frozen?_of_block (a := ⟨b, q, none⟩) hbk).trans (hC.2.2.2 q).1
  have f3 : (w.drew.drew.setRow g Y).frozen? ⟨b, q + 1, none⟩ = false := (World.frozen?_of_block (a := ⟨b, q + 1, none⟩) hbk).trans (hC.2.2.2 (q + 1)).1
  clear hbk
  obtain ⟨c0, c1, c2, c3⟩ := hC
  clear hR hga hY hY2 hcell hg
  go_enter Tryd.func44, Tryd.ntmps44
  go_wp2_with fail
  refine HL.out.mono ?_; rintro e w1 ⟨rfl, rfl⟩
  go_wp2_with fail
  refine HT.out.mono ?_; rintro e w1 ⟨rfl, rfl⟩
  go_wp2_with fail
  refine wp_region_held_drew (S := (fun wx => wx.cell? ⟨b, q, none⟩ = some (.slice (some ⟨g, 0, none⟩) n c) ∧ wx.cell? ⟨b, q + 1, none⟩ = some (.int .i64 off))) (by kernel_rfl) ⟨c0, c1⟩ (fun hHeld => ?_)
  refine wpAnyH_take (i := 0) (oi := { dst := some 55, op := Op.move (Operand.tmp 0), type := 70, pos := "buffer.go:164", after := #[], guard := none }) (v := ?_) rfl (by kernel_rfl) (by kernel_rfl) (by kernel_rfl) (fun _ _ _ h => h) (Or.inl ⟨by rfl, ?_⟩) (by assumption) ?_
  rotate_left 1
  · intro w hSw; (try dsimp only at hSw); go_simp; try (with_reducible rfl)
  try simp only [Act.put, List.setIfInBounds_toArray, List.set_cons_zero, List.set_cons_succ]
  refine wpAnyH_take (i := 1) (oi := { dst := some 56, op := Op.nilCheck (Operand.tmp 55), type := 0, pos := "buffer.go:164", after := #[{ on := 0, ground := Ground.data }], guard := none }) (v := ?_) rfl (by kernel_rfl) (by kernel_rfl) (by kernel_rfl) (fun _ _ _ h => h) (Or.inl ⟨by rfl, ?_⟩) (by assumption) ?_
  rotate_left 1
  · intro w hSw; (try dsimp only at hSw); go_simp; try (with_reducible rfl)
  try simp only [Act.put, List.setIfInBounds_toArray, List.set_cons_zero, List.set_cons_succ]
  refine wpAnyH_take (i := 2) (oi := { dst := some 57, op := Op.fieldAddr 49 (Operand.tmp 56) 0, type := 0, pos := "buffer.go:164", after := #[{ on := 1, ground := Ground.data }], guard := none }) (v := ?_) rfl (by kernel_rfl) (by kernel_rfl) (by kernel_rfl) (fun _ _ _ h => h) (Or.inl ⟨by rfl, ?_⟩) (by assumption) ?_
  rotate_left 1
  · intro w hSw; (try dsimp only at hSw); go_simp; try (with_reducible rfl)
  try simp only [Act.put, List.setIfInBounds_toArray, List.set_cons_zero, List.set_cons_succ]
  refine wpAnyH_take (i := 3) (oi := { dst := some 58, op := Op.load 22 (Operand.tmp 57), type := 22, pos := "buffer.go:164", after := #[{ on := 2, ground := Ground.data }], guard := none }) (v := ?_) rfl (by kernel_rfl) (by kernel_rfl) (by kernel_rfl) (fun _ _ _ h => h) (Or.inl ⟨by rfl, ?_⟩) (by assumption) ?_
  rotate_left 1
  · intro w hSw; (try dsimp only at hSw); go_simp; try (with_reducible rfl)
  try simp only [Act.put, List.setIfInBounds_toArray, List.set_cons_zero, List.set_cons_succ]
  refine wpAnyH_take (i := 4) (oi := { dst := some 59, op := Op.move (Operand.tmp 0), type := 70, pos := "buffer.go:164", after := #[], guard := none }) (v := ?_) rfl (by kernel_rfl) (by kernel_rfl) (by kernel_rfl) (fun _ _ _ h => h) (Or.inl ⟨by rfl, ?_⟩) (by assumption) ?_
  rotate_left 1
  · intro w hSw; (try dsimp only at hSw); go_simp; try (with_reducible rfl)
  try simp only [Act.put, List.setIfInBounds_toArray, List.set_cons_zero, List.set_cons_succ]
  refine wpAnyH_take (i := 5) (oi := { dst := some 60, op := Op.nilCheck (Operand.tmp 59), type := 0, pos := "buffer.go:164", after := #[{ on := 4, ground := Ground.data }], guard := none }) (v := ?_) rfl (by kernel_rfl) (by kernel_rfl) (by kernel_rfl) (fun _ _ _ h => h) (Or.inl ⟨by rfl, ?_⟩) (by assumption) ?_
  rotate_left 1
  · intro w hSw; (try dsimp only at hSw); go_simp; try (with_reducible rfl)
  try simp only [Act.put, List.setIfInBounds_toArray, List.set_cons_zero, List.set_cons_succ]
  refine wpAnyH_take (i := 6) (oi := { dst := some 61, op := Op.fieldAddr 49 (Operand.tmp 60) 0, type := 0, pos := "buffer.go:164", after := #[{ on := 5, ground := Ground.data }], guard := none }) (v := ?_) rfl (by kernel_rfl) (by kernel_rfl) (by kernel_rfl) (fun _ _ _ h => h) (Or.inl ⟨by rfl, ?_⟩) (by assumption) ?_
  rotate_left 1
  · intro w hSw; (try dsimp only at hSw); go_simp; try (with_reducible rfl)
  try simp only [Act.put, List.setIfInBounds_toArray, List.set_cons_zero, List.set_cons_succ]
  refine wpAnyH_take (i := 7) (oi := { dst := some 62, op := Op.load 22 (Operand.tmp 61), type := 22, pos := "buffer.go:164", after := #[{ on := 6, ground := Ground.data }], guard := none }) (v := ?_) rfl (by kernel_rfl) (by kernel_rfl) (by kernel_rfl) (fun _ _ _ h => h) (Or.inl ⟨by rfl, ?_⟩) (by assumption) ?_
  rotate_left 1
  · intro w hSw; (try dsimp only at hSw); go_simp; try (with_reducible rfl)
  try simp only [Act.put, List.setIfInBounds_toArray, List.set_cons_zero, List.set_cons_succ]
  refine wpAnyH_take (i := 8) (oi := { dst := some 63, op := Op.move (Operand.tmp 0), type := 70, pos := "buffer.go:164", after := #[], guard := none }) (v := ?_) rfl (by kernel_rfl) (by kernel_rfl) (by kernel_rfl) (fun _ _ _ h => h) (Or.inl ⟨by rfl, ?_⟩) (by assumption) ?_
  rotate_left 1
  · intro w hSw; (try dsimp only at hSw); go_simp; try (with_reducible rfl)
  try simp only [Act.put, List.setIfInBounds_toArray, List.set_cons_zero, List.set_cons_succ]
  refine wpAnyH_take (i := 9) (oi := { dst := some 64, op := Op.nilCheck (Operand.tmp 63), type := 0, pos := "buffer.go:164", after := #[{ on := 8, ground := Ground.data }], guard := none }) (v := ?_) rfl (by kernel_rfl) (by kernel_rfl) (by kernel_rfl) (fun _ _ _ h => h) (Or.inl ⟨by rfl, ?_⟩) (by assumption) ?_
  rotate_left 1
  · intro w hSw; (try dsimp only at hSw); go_simp; try (with_reducible rfl)
  try simp only [Act.put, List.setIfInBounds_toArray, List.set_cons_zero, List.set_cons_succ]
  refine wpAnyH_take (i := 10) (oi := { dst := some 65, op := Op.fieldAddr 49 (Operand.tmp 64) 1, type := 0, pos := "buffer.go:164", after := #[{ on := 9, ground := Ground.data }], guard := none }) (v := ?_) rfl (by kernel_rfl) (by kernel_rfl) (by kernel_rfl) (fun _ _ _ h => h) (Or.inl ⟨by rfl, ?_⟩) (by assumption) ?_
  rotate_left 1
  · intro w hSw; (try dsimp only at hSw); go_simp; try (with_reducible rfl)
  try simp only [Act.put, List.setIfInBounds_toArray, List.set_cons_zero, List.set_cons_succ]
  refine wpAnyH_take (i := 11) (oi := { dst := some 66, op := Op.load 3 (Operand.tmp 65), type := 3, pos := "buffer.go:164", after := #[{ on := 10, ground := Ground.data }], guard := none }) (v := ?_) rfl (by kernel_rfl) (by kernel_rfl) (by kernel_rfl) (fun _ _ _ h => h) (Or.inl ⟨by rfl, ?_⟩) (by assumption) ?_
  rotate_left 1
  · intro w hSw; (try dsimp only at hSw); go_simp; try (with_reducible rfl)
  try simp only [Act.put, List.setIfInBounds_toArray, List.set_cons_zero, List.set_cons_succ]
  refine wpAnyH_take (i := 12) (oi := { dst := some 67, op := Op.slice 22 (Operand.tmp 62) (some (Operand.tmp 66)) none none, type := 22, pos := "buffer.go:164", after := #[{ on := 7, ground := Ground.data }, { on := 11, ground := Ground.data }], guard := none }) (v := ?_) rfl (by kernel_rfl) (by kernel_rfl) (by kernel_rfl) (fun _ _ _ h => h) (Or.inl ⟨by rfl, ?_⟩) (by assumption) ?_
  rotate_left 1
  · intro w hSw; (try dsimp only at hSw); go_simp; try (with_reducible rfl)
  try simp only [Act.put, List.setIfInBounds_toArray, List.set_cons_zero, List.set_cons_succ]
  refine wpAnyH_ready (rs := [13]) (by kernel_rfl) (by simp) ?_
  refine AllReadyH.cons (o := { dst := some 68, op := Op.call { callee := Callee.builtin Builtin.copy, args := #[Operand.tmp 58, Operand.tmp 67], argTypes := #[22, 22] }, type := 3, pos := "buffer.go:164", after := #[{ on := 3, ground := Ground.data }, { on := 12, ground := Ground.data }], guard := none }) rfl (fun K hK => ?_) (AllReadyH.nil)
  go_simp
  refine hK.out _ _ HQ.out (fun hHeld => ?_)
  clear hK K
  try simp only [Act.put, List.setIfInBounds_toArray, List.set_cons_zero, List.set_cons_succ]
  refine wpAnyH_done (by kernel_rfl) ?_ _
  clear hHeld
  obtain ⟨e0, e1⟩ := HQ.out
  go_wp2_with fail
  go_ret
  exact HF.out
end Go.Proofs.YtlkafakanoefmaaDoor

/-
  (*bytes.Buffer).grow, whatever the case; Write.
-/
namespace Go.Proofs.YtlkafakanoefmaaDoor
open Go.RowKit Go.Shelf
set_option linter.unusedVariables false
set_option linter.unusedSimpArgs false
set_option maxRecDepth 100000
variable {cs : Nat → Option Value}

theorem grow_any {w : World} {b q n c off m k : Nat} {a : Option Addr} {o : Option Nat} {lr : Int} {zs : List Int} (hC : BfC cs w b q a n c off lr) (hR : BfR w b o a c zs) (hn : off + m = n) (hnc : n ≤ c) (hk : 1 ≤ k) (hno : c < n + k) (hmk : n + k ≤ 100000000) :
    Calls Tryd.prog 44 #[.pointer (some ⟨b, q, none⟩), .int .i64 k] w (GrPost cs w b q o m k ((zs.take n).drop off)) := by
  obtain ⟨h1, h2, ⟨rfl, rfl, rfl⟩ | ⟨g, rfl, rfl, h4, h5⟩⟩ := hR
  · have e1 : n = 0 := by omega
    subst e1
    have e2 : off = 0 := by omega
    have e3 : m = 0 := by omega
    subst e2; subst e3
    rw [show (zs.take 0).drop 0 = [] by simp]
    by_cases hs : k ≤ 64
    · exact grow_small hC hk hs
    · exact grow_nil hC ⟨h1, h2, .inl ⟨rfl, rfl, rfl⟩⟩ (by omega) hk (by omega)
  · have hR : BfR w b (some g) (some ⟨g, 0, none⟩) c zs := ⟨h1, h2, .inr ⟨g, rfl, rfl, h4, h5⟩⟩
    by_cases hm : m = 0
    · subst hm
      have e : off = n := by omega
      subst e
      rw [show (zs.take off).drop off = [] by simp]
      by_cases h0 : off = 0
      · subst h0
        exact grow_new hC hR (by omega) hk (by omega)
      · exact grow_zero hC hR h0 hnc hk (by omega)
    · by_cases hnear : (k : Int) ≤ (c : Int) / 2 - m
      · exact grow_slide hC hR hn hnc hk hm hno hnear (by omega)
      · exact grow_far hC hR hn hnc hk hm hno hnear (by omega) (by omega)

/-- What Write's copy does. -/
theorem put_at {W : World} {b q pos c off : Nat} {a : Option Addr} {o : Option Nat} {lr : Int} {zs : List Int} {l p : List UInt8} {v : Value} (hC : BfC cs W b q a (pos + p.length) c off lr) (hR : BfR W b o a c zs) (h1 : off + l.length = pos) (h2 : pos + p.length ≤ c) (h3 : ∀ j, j < l.length → zs.getD (off + j) 0 = ((l.getD j 0).toNat : Int)) (hv : Sl W 0 W.heap.size v (iz p)) :
    ∃ W', (Builtin.copy_ #[22, 22] 3 #[sliced a pos (pos + p.length) c 1, v]).run Tryd.prog W = .ok (.int .i64 (p.length : Nat)) W' ∧ BfC cs W' b q a (pos + p.length) c off lr ∧ Bf cs W' o b q (pos + p.length) (l ++ p) ∧ Aside (fun j => o = some j) W W' := by
  have hsz1 : (Tryd.prog.info? 5).map (·.size) = some 1 := Tryd.size5
  obtain ⟨sa, sc, rfl, s1, s2, s3⟩ := hv
  rw [iz_len] at s1 s3 ⊢
  by_cases hp : p.length = 0
  · have ep : p = [] := List.eq_nil_of_length_eq_zero hp
    subst ep
    refine ⟨W, ?_, hC, ⟨a, _, c, off, lr, zs, hC, hR, by simpa using h1, h2, Nat.le_refl _, by simpa using h3⟩, Aside.of_all (Below.refl _ _)⟩
    unfold sliced
    exact run_copy_none (P := Tryd.prog) W 22 22 3 5 _ _ _ _ _ _ Tryd.underlying22 hsz1 (by simp)
  · have hcn : ¬ c = pos := by omega
    obtain ⟨sb, so, rfl, _, _, s4⟩ := s3 (by omega)
    obtain ⟨r1, r2, ⟨rfl, rfl, rfl⟩ | ⟨g, rfl, rfl, r4, r5⟩⟩ := hR
    · omega
    have hga : sliced (some ⟨g, 0, none⟩) pos (pos + p.length) c 1 = .slice (some ⟨g, pos, none⟩) p.length (c - pos) := by
      unfold sliced
      rw [if_neg hcn, Nat.add_sub_cancel_left]
      simp [Addr.add]
      exact fun h => h.symm
    rw [hga]
    have hcp := run_copy_row (P := Tryd.prog) W 22 22 3 5 g pos p.length (c - pos) ⟨sb, so, none⟩ p.length sc ((zs.map (Value.int .u8)).toArray) 5 ((iz p).map (Value.int .u8)) Tryd.underlying22 hsz1 r5 (by rw [List.length_map, iz_len]; exact (Nat.min_self _).symm) (fun j u hu => by
      rw [List.getElem?_map] at hu
      obtain ⟨x, hx, rfl⟩ := Option.map_eq_some_iff.mp hu
      have hj : j < p.length := by have := (List.getElem?_eq_some_iff.mp hx).1; rwa [iz_len] at this
      rw [WideShapes.add_plain, s4 j hj, List.getD, hx]; rfl) (by simp [iz_len, r1]; omega) (ints_oneCell _ _)
    rw [List.length_map, iz_len] at hcp
    have hY2 : ((zs.map (Value.int .u8)).toArray.toList.take pos ++ (iz p).map (Value.int .u8) ++ (zs.map (Value.int .u8)).toArray.toList.drop (pos + p.length)).toArray = ((zs.take pos ++ iz p ++ zs.drop (pos + p.length)).map (Value.int .u8)).toArray := by simp
    rw [hY2] at hcp
    obtain ⟨ys, hys⟩ : ∃ ys, zs.take pos ++ iz p ++ zs.drop (pos + p.length) = ys := ⟨_, rfl⟩
    rw [hys] at hcp
    have hyl : ys.length = c := by rw [← hys]; simp [iz_len, r1]; omega
    have hA : Aside (fun j => some g = some j) W (W.setRow g (ys.map (Value.int .u8)).toArray) := ⟨rfl, rfl, rfl, by rw [size_setRow]; exact Nat.le_refl _, fun j hj hn => setRow_other W g j _ (fun e => hn (by rw [e]))⟩
    have hC' := hC.aside hA (fun e => r4 (by injection e))
    have hR' : BfR (W.setRow g (ys.map (Value.int .u8)).toArray) b (some g) (some ⟨g, 0, none⟩) c ys := ⟨hyl, r2, .inr ⟨g, rfl, rfl, r4, setRow_heap W g _ _ _ _ r5⟩⟩
    refine ⟨_, hcp, hC', ⟨_, _, c, off, lr, ys, hC', hR', by rw [List.length_append]; omega, h2, Nat.le_refl _, fun j hj => ?_⟩, hA⟩
    rw [List.length_append] at hj
    rw [← hys]
    by_cases hjl : j < l.length
    · rw [List.getD, List.append_assoc, List.getElem?_append_left (by rw [List.length_take]; omega), List.getElem?_take, if_pos (by omega)]
      have := h3 j hjl
      rw [List.getD] at this
      rw [this, List.getD, List.getD, List.getElem?_append_left hjl]
    · have e1 : off + j - pos = j - l.length := by omega
      have e2 : (zs.take pos).length = pos := by rw [List.length_take]; omega
      rw [List.getD, List.append_assoc, List.getElem?_append_right (by rw [e2]; omega), e2, e1, List.getElem?_append_left (by rw [iz_len]; omega), List.getD, List.getElem?_append_right (by omega)]
      simp only [iz, List.getElem?_map]
      rw [List.getElem?_eq_getElem (by omega)]; rfl

theorem Bf.le {w : World} {b q t t' : Nat} {o : Option Nat} {l : List UInt8} (h : Bf cs w o b q t l) (ht : t ≤ t') : Bf cs w o b q t' l := by
  obtain ⟨a, n, c, off, lr, zs, h1, h2, h3, h4, h5, h6⟩ := h
  exact ⟨a, n, c, off, lr, zs, h1, h2, h3, h4, Nat.le_trans h5 ht, h6⟩

set_option maxHeartbeats 4000000 in
theorem write_any {w : World} {b q t : Nat} {o : Option Nat} {l p : List UInt8} {v : Value} (h : Bf cs w o b q t l) (hv : ∀ W, Aside (fun j => j = b ∨ o = some j) w W → Sl W 0 W.heap.size v (iz p)) (ht : t + p.length ≤ 100000000) :
    Calls Tryd.prog 40 #[.pointer (some ⟨b, q, none⟩), v] w fun e w' => e = .returned (.tuple #[.int .i64 (p.length : Nat), .nilIface]) ∧ ∃ o', Bf cs w' o' b q (t + p.length) (l ++ p) ∧ (o' = o ∨ ∃ g, o' = some g ∧ w.heap.size ≤ g) ∧ Aside (fun j => j = b ∨ o = some j) w w' := by
  obtain ⟨a, n, c, off, lr, zs, hC, hR, h1, h2, hnt, h3⟩ := h
  have HV := Lib.hid hv
  obtain ⟨va, vc, rfl, v1, v2, v3⟩ := hv w (Aside.of_all (Below.refl _ _))
  rw [iz_len] at v1 HV ⊢
  have HC := Lib.hid (hC.setL 0)
  have HR := Lib.hid (hR.set (q + 2) (.int .i8 0))
  have H3 := Lib.hid h3
  obtain ⟨c0, c1, c2, c3⟩ := hC
  have f2 := (c3 (q + 2)).1
  clear h3 v2 v3
  by_cases hroom : n + p.length ≤ c
  · have HT := Lib.hid (tryGrow_yes HC.out hroom HR.out.2.1)
    have hfr := from_eq a (show n ≤ n + p.length by omega) hroom
    have hA0 : Aside (fun j => j = b ∨ o = some j) w ((w.setCell ⟨b, q + 2, none⟩ (.int .i8 0)).setCell ⟨b, q, none⟩ (.slice a (n + p.length) c)) := (Aside.setCell (G := fun j => j = b ∨ o = some j) _ _ (.inl rfl)).trans (Aside.setCell _ _ (.inl rfl))
    obtain ⟨W', hcp, _, hB, hA⟩ := put_at (HC.out.setB a (n + p.length) c) (HR.out.set q _) h1 hroom H3.out (HV.out _ hA0)
    obtain ⟨sv, hsv⟩ : ∃ sv, sliced a n (n + p.length) c 1 = sv := ⟨_, rfl⟩
    rw [hsv] at hcp
    simp only [hsv] at hfr
    have HF := Lib.hid (show ∃ o', Bf cs W' o' b q (t + p.length) (l ++ p) ∧ (o' = o ∨ ∃ g, o' = some g ∧ w.heap.size ≤ g) ∧ Aside (fun j => j = b ∨ o = some j) w W' from
      ⟨o, Bf.le hB (by omega), .inl rfl, hA0.onto hA fun _ _ h1 h2 => h1 (.inr h2)⟩)
    clear hsv hA hB hA0
    go_enter Tryd.func40, Tryd.ntmps40
    go_wp2_with fail
    refine HT.out.mono ?_; rintro e w1 ⟨rfl, rfl⟩
    go_wp2_with fail
    go_ret2
    exact ⟨rfl, HF.out⟩
  · have HG := Lib.hid (grow_any HC.out HR.out (off := off) (m := l.length) (k := p.length) h1 h2 (by omega) (by omega) (by omega))
    have HT := Lib.hid (tryGrow_no (k := p.length) HC.out h2 (by omega) HR.out.2.1)
    go_enter Tryd.func40, Tryd.ntmps40
    go_wp2_with fail
    refine HT.out.mono ?_; rintro e w1 ⟨rfl, rfl⟩
    go_wp2_with fail
    refine HG.out.mono ?_; rintro e w1 ⟨rfl, a', c', zs', o', lr', hC', hR', hc', hz', ho', hA'⟩
    have hA0 : Aside (fun j => j = b ∨ o = some j) w w1 := (Aside.setCell (G := fun j => j = b ∨ o = some j) _ _ (.inl rfl)).trans hA'
    have hs0 : w.heap.size ≤ (w.setCell ⟨b, q + 2, none⟩ (.int .i8 0)).heap.size := by simp [World.setCell]
    have hfr := from_eq a' (show l.length ≤ l.length + p.length by omega) hc'
    have hzl := HR.out.1
    have h3' : ∀ j, j < l.length → zs'.getD (0 + j) 0 = ((l.getD j 0).toNat : Int) := fun j hj => by
      have e1 : (zs'.take l.length)[j]? = ((zs.take n).drop off)[j]? := by rw [hz']
      rw [List.getElem?_take, if_pos hj, List.getElem?_drop, List.getElem?_take, if_pos (by omega)] at e1
      have e2 := H3.out j hj
      rw [List.getD] at e2
      rw [List.getD, Nat.zero_add, e1, e2]
    obtain ⟨W', hcp, _, hB, hA⟩ := put_at hC' hR' (Nat.zero_add _) hc' h3' (HV.out _ hA0)
    obtain ⟨sv, hsv⟩ : ∃ sv, sliced a' l.length (l.length + p.length) c' 1 = sv := ⟨_, rfl⟩
    rw [hsv] at hcp
    simp only [hsv] at hfr
    have HF := Lib.hid (show ∃ o', Bf cs W' o' b q (t + p.length) (l ++ p) ∧ (o' = o ∨ ∃ g, o' = some g ∧ w.heap.size ≤ g) ∧ Aside (fun j => j = b ∨ o = some j) w W' from by
      refine ⟨o', Bf.le hB (by omega), ?_, ?_⟩
      · obtain h | ⟨g, h, hg⟩ := ho'
        · exact .inl h
        · exact .inr ⟨g, h, Nat.le_trans hs0 hg⟩
      · refine hA0.onto hA fun j hj h1 h2 => ?_
        obtain h | ⟨g, h, hg⟩ := ho'
        · exact h1 (.inr (h.symm.trans h2))
        · rw [h] at h2; injection h2 with h2; omega)
    obtain ⟨d0, d1, d2, d3⟩ := hC'
    clear hsv hA hB hA0 hR' hz' h3' ho' hA'
    go_wp2_with fail
    go_ret2
    exact ⟨rfl, HF.out⟩
end Go.Proofs.YtlkafakanoefmaaDoor

/-
  Lists of byte slices; SameLists.
-/
namespace Go.Proofs.YtlkafakanoefmaaDoor
open Go.RowKit Go.Shelf
set_option linter.unusedVariables false
set_option linter.unusedSimpArgs false
set_option maxRecDepth 100000

/-- A slice of byte slices. -/
def Bl (w : World) (v : Value) (l : List (List UInt8)) : Prop :=
  ∃ a c, v = .slice a l.length c ∧ l.length ≤ c ∧ (0 < l.length → ∃ b off, a = some ⟨b, off, none⟩ ∧ b < w.heap.size ∧ ∀ j, j < l.length → ∃ u, w.cell? ⟨b, off + j, none⟩ = some u ∧ Sl w 0 w.heap.size u (iz (l.getD j [])))

theorem sl_up {w w' : World} {v : Value} {l : List Int} (h : Sl w 0 w.heap.size v l) (hb : Below w.heap.size w w') : Sl w' 0 w'.heap.size v l := (h.below hb (Nat.le_refl _)).wide (Nat.le_refl _) hb.size

theorem Bl.below {w w' : World} {v : Value} {l : List (List UInt8)} (h : Bl w v l) (hb : Below w.heap.size w w') : Bl w' v l := by
  obtain ⟨a, c, rfl, h1, h2⟩ := h
  refine ⟨a, c, rfl, h1, fun h0 => ?_⟩
  obtain ⟨b, off, rfl, hlt, h3⟩ := h2 h0
  refine ⟨b, off, rfl, Nat.lt_of_lt_of_le hlt hb.size, fun j hj => ?_⟩
  obtain ⟨u, h4, h5⟩ := h3 j hj
  exact ⟨u, ((Aside.of_all (G := fun _ => False) hb).cell (p := ⟨b, off + j, none⟩) hlt fun h => h).trans h4, sl_up h5 hb⟩

set_option maxHeartbeats 2000000 in
theorem sameL_any {w : World} {v v' : Value} {l : List (List UInt8)} (h : Bl w v l) (h' : Bl w v' l) (hl : l.length ≤ 1000000) :
    Calls Tryd.prog 22 #[v, v'] w fun e w' => e = .returned (.bool true) ∧ Below w.heap.size w w' := by
  have HS := Lib.hid h
  have HS' := Lib.hid h'
  obtain ⟨a, c, rfl, _, hp⟩ := h
  obtain ⟨a', c', rfl, _, hp'⟩ := h'
  clear hp hp'
  have t0 : ((l.length : Int) != l.length) = false := by simp
  go_enter Tryd.func22, Tryd.ntmps22
  go_wp2_with fail
  go_loopw [5] (fun i wr => ∃ k : Nat, k ≤ l.length ∧ i = .int .i64 k ∧ Hid (Below w.heap.size w wr)) (fun i _ => l.length - (intOf i).toNat)
  case atStart => exact ⟨0, by omega, rfl, Below.refl _ w⟩
  case round =>
    obtain ⟨k, hk, rfl, HD⟩ := hrel
    by_cases hlt : k < l.length
    · obtain ⟨x, y, ex, _, hp⟩ := HS.out.below HD.out
      obtain ⟨x', y', ex', _, hp'⟩ := HS'.out.below HD.out
      injection ex with ex _ ey
      injection ex' with ex' _ ey'
      subst ex; subst ex'; subst ey; subst ey'
      obtain ⟨B, O, rfl, _, hc⟩ := hp (by omega)
      obtain ⟨B', O', rfl, _, hc'⟩ := hp' (by omega)
      obtain ⟨u, c1, s1⟩ := hc k hlt
      obtain ⟨u', c2, s2⟩ := hc' k hlt
      clear hp hp' hc hc' t0
      go_wp2_with fail
      refine wp_region_held_drew (S := (fun wx => wx.cell? ⟨B, O + k, none⟩ = some u ∧ wx.cell? ⟨B', O' + k, none⟩ = some u')) (by kernel_rfl) ⟨c1, c2⟩ (fun hHeld => ?_)
      refine wpAnyH_take (i := 0) (oi := { dst := some 17, op := Op.move (Operand.tmp 0), type := 31, pos := "lists.go:8", after := #[], guard := none }) (v := ?_) rfl (by kernel_rfl) (by kernel_rfl) (by kernel_rfl) (fun _ _ _ h => h) (Or.inl ⟨by rfl, ?_⟩) (by assumption) ?_
      rotate_left 1
      · intro w hSw; (try dsimp only at hSw); go_simp; try (with_reducible rfl)
      try simp only [Act.put, List.setIfInBounds_toArray, List.set_cons_zero, List.set_cons_succ]
      refine wpAnyH_take (i := 1) (oi := { dst := some 18, op := Op.move (Operand.tmp 5), type := 3, pos := "lists.go:8", after := #[], guard := none }) (v := ?_) rfl (by kernel_rfl) (by kernel_rfl) (by kernel_rfl) (fun _ _ _ h => h) (Or.inl ⟨by rfl, ?_⟩) (by assumption) ?_
      rotate_left 1
      · intro w hSw; (try dsimp only at hSw); go_simp; try (with_reducible rfl)
      try simp only [Act.put, List.setIfInBounds_toArray, List.set_cons_zero, List.set_cons_succ]
      refine wpAnyH_take (i := 2) (oi := { dst := some 19, op := Op.indexAddr 31 (Operand.tmp 17) (Operand.tmp 18), type := 0, pos := "lists.go:8", after := #[{ on := 0, ground := Ground.data }, { on := 1, ground := Ground.data }], guard := none }) (v := ?_) rfl (by kernel_rfl) (by kernel_rfl) (by kernel_rfl) (fun _ _ _ h => h) (Or.inl ⟨by rfl, ?_⟩) (by assumption) ?_
      rotate_left 1
      · intro w hSw; (try dsimp only at hSw); go_simp; try (with_reducible rfl)
      try simp only [Act.put, List.setIfInBounds_toArray, List.set_cons_zero, List.set_cons_succ]
      refine wpAnyH_take (i := 3) (oi := { dst := some 20, op := Op.load 22 (Operand.tmp 19), type := 22, pos := "lists.go:8", after := #[{ on := 2, ground := Ground.data }], guard := none }) (v := ?_) rfl (by kernel_rfl) (by kernel_rfl) (by kernel_rfl) (fun _ _ _ h => h) (Or.inl ⟨by rfl, ?_⟩) (by assumption) ?_
      rotate_left 1
      · intro w hSw; (try dsimp only at hSw); go_simp; try (with_reducible rfl)
      try simp only [Act.put, List.setIfInBounds_toArray, List.set_cons_zero, List.set_cons_succ]
      refine wpAnyH_take (i := 4) (oi := { dst := some 21, op := Op.move (Operand.tmp 1), type := 31, pos := "lists.go:8", after := #[], guard := none }) (v := ?_) rfl (by kernel_rfl) (by kernel_rfl) (by kernel_rfl) (fun _ _ _ h => h) (Or.inl ⟨by rfl, ?_⟩) (by assumption) ?_
      rotate_left 1
      · intro w hSw; (try dsimp only at hSw); go_simp; try (with_reducible rfl)
      try simp only [Act.put, List.setIfInBounds_toArray, List.set_cons_zero, List.set_cons_succ]
      refine wpAnyH_take (i := 5) (oi := { dst := some 22, op := Op.move (Operand.tmp 5), type := 3, pos := "lists.go:8", after := #[], guard := none }) (v := ?_) rfl (by kernel_rfl) (by kernel_rfl) (by kernel_rfl) (fun _ _ _ h => h) (Or.inl ⟨by rfl, ?_⟩) (by assumption) ?_
      rotate_left 1
      · intro w hSw; (try dsimp only at hSw); go_simp; try (with_reducible rfl)
      try simp only [Act.put, List.setIfInBounds_toArray, List.set_cons_zero, List.set_cons_succ]
      refine wpAnyH_take (i := 6) (oi := { dst := some 23, op := Op.indexAddr 31 (Operand.tmp 21) (Operand.tmp 22), type := 0, pos := "lists.go:8", after := #[{ on := 4, ground := Ground.data }, { on := 5, ground := Ground.data }], guard := none }) (v := ?_) rfl (by kernel_rfl) (by kernel_rfl) (by kernel_rfl) (fun _ _ _ h => h) (Or.inl ⟨by rfl, ?_⟩) (by assumption) ?_
      rotate_left 1
      · intro w hSw; (try dsimp only at hSw); go_simp; try (with_reducible rfl)
      try simp only [Act.put, List.setIfInBounds_toArray, List.set_cons_zero, List.set_cons_succ]
      refine wpAnyH_take (i := 7) (oi := { dst := some 24, op := Op.load 22 (Operand.tmp 23), type := 22, pos := "lists.go:8", after := #[{ on := 6, ground := Ground.data }], guard := none }) (v := ?_) rfl (by kernel_rfl) (by kernel_rfl) (by kernel_rfl) (fun _ _ _ h => h) (Or.inl ⟨by rfl, ?_⟩) (by assumption) ?_
      rotate_left 1
      · intro w hSw; (try dsimp only at hSw); go_simp; try (with_reducible rfl)
      try simp only [Act.put, List.setIfInBounds_toArray, List.set_cons_zero, List.set_cons_succ]
      refine wpAnyH_ready (rs := [8]) (by kernel_rfl) (by simp) ?_
      refine AllReadyH.cons (o := { dst := some 25, op := Op.call { callee := Callee.value (Operand.func 14), args := #[Operand.tmp 20, Operand.tmp 24], argTypes := #[22, 22] }, type := 4, pos := "lists.go:8", after := #[{ on := 3, ground := Ground.data }, { on := 7, ground := Ground.data }], guard := none }) rfl (fun K hK => ?_) (AllReadyH.nil)
      go_simp
      refine (same_any (w := wr.drew) s1 s2).mono ?_; rintro e w1 ⟨rfl, rfl⟩
      try go_wp2_with fail
      refine hK.out _ _ ⟨c1, c2⟩ (fun hHeld => ?_)
      clear hK K
      try simp only [Act.put, List.setIfInBounds_toArray, List.set_cons_zero, List.set_cons_succ]
      refine wpAnyH_take (i := 9) (oi := { dst := some 26, op := Op.unOp UnOp.not 4 (Operand.tmp 25), type := 4, pos := "lists.go:8", after := #[{ on := 8, ground := Ground.data }], guard := none }) (v := ?_) rfl (by kernel_rfl) (by kernel_rfl) (by kernel_rfl) (fun _ _ _ h => h) (Or.inl ⟨by rfl, ?_⟩) (by assumption) ?_
      rotate_left 1
      · intro w hSw; (try dsimp only at hSw); go_simp; try (with_reducible rfl)
      try simp only [Act.put, List.setIfInBounds_toArray, List.set_cons_zero, List.set_cons_succ]
      refine wpAnyH_done (by kernel_rfl) ?_ _
      clear hHeld
      rotate_left 1
      all_goals
        go_wp2_with fail
        refine ⟨⟨k + 1, by omega, by go_num, HD.out.drew⟩, ?_⟩
        simp [intOf]; omega
    · go_wp2_with fail
      go_ret
      exact ⟨rfl, HD.out⟩
end Go.Proofs.YtlkafakanoefmaaDoor

/-
  Rows of byte slices, and appends to them; what ends up as a list.
-/
namespace Go.Proofs.YtlkafakanoefmaaDoor
open Go.RowKit Go.Shelf
set_option linter.unusedVariables false
set_option linter.unusedSimpArgs false
set_option maxRecDepth 100000

theorem Tryd.infoS : (Tryd.prog.info? 22).map (fun i => (i.zero, i.size, i.bytes)) = some (some (.slice none 0 0), 1, 24) := by kernel_rfl

/-- A row of byte slices of the call's own. -/
def OwnS (w : World) (B : Nat) (v : Value) (us : List Value) : Prop := OwnZ w B 22 (.slice none 0 0) v us

theorem OwnS.shape {w : World} {B : Nat} {v : Value} {us : List Value} (h : OwnS w B v us) : ∃ a c, v = .slice a us.length c := by
  rcases h with ⟨rfl, h0⟩ | ⟨g, cap, rfl, _⟩
  · rw [h0]; exact ⟨.none, 0, rfl⟩
  · exact ⟨_, cap, rfl⟩

/-- append of one byte slice, that lies in a block of its own. -/
theorem run_appS1 {w : World} (B : Nat) (v u : Value) (us : List Value) (g : Nat) (hown : OwnS w B v us) (hy : w.cell? ⟨g, 0, .none⟩ = some u) (hu : u.oneCell' = true) (hb : us.length + 1 ≤ 1000000) (hB : B ≤ w.heap.size) :
    ∃ a' c' w', (Builtin.append_ #[31, 31] 31 #[v, .slice (some ⟨g, 0, .none⟩) 1 1]).run Tryd.prog w = .ok (.slice a' (us.length + 1) c') w' ∧ OwnS w' B (.slice a' (us.length + 1) c') (us ++ [u]) ∧ w.grownBy w' v.ownBlock := by
  obtain ⟨i0, hi, hz0, hz1, hz2⟩ := info_parts Tryd.infoS
  obtain ⟨v', w', h1, h2, h3⟩ := run_append_Z (P := Tryd.prog) (w := w) B 31 31 22 i0 (.slice none 0 0) 24 Tryd.underlying31 hi hz0 hz1 hz2 rfl v us hown ⟨g, 0, none⟩ 1 1 [u] (by simp)
    (fun j x hx => by
      have hj : j < 1 := by have := (List.getElem?_eq_some_iff.mp hx).1; simpa using this
      obtain rfl : j = 0 := by omega
      simp at hx
      subst hx
      rw [WideShapes.add_plain]; exact hy) (by intro x hx; simp at hx; subst hx; exact hu) (by unfold maxLen; omega) (by omega) hB
  have h4 : OwnS w' B v' (us ++ [u]) := h2
  obtain ⟨a', c', hv⟩ := h4.shape
  rw [List.length_append] at hv
  subst hv
  exact ⟨a', c', w', h1, h4, h3⟩

/-- What a row's append may turn. -/
theorem aside_grown {w w' : World} {v : Value} (h : w.grownBy w' v.ownBlock) : Aside (fun b => v.ownBlock = some b) w w' := Aside.grown h fun _ h => h

/-- append of no bytes. -/
theorem run_appB0 {w : World} (B : Nat) (v : Value) (l : List UInt8) (ad : Option Addr) (c : Nat) (hown : OwnB w B v l) :
    (Builtin.append_ #[22, 22] 22 #[v, .slice ad 0 c]).run Tryd.prog w = .ok v w := by
  obtain ⟨i0, hi, hz0, hz1, hz2⟩ := info_parts Tryd.info5
  rcases hown with ⟨rfl, rfl⟩ | ⟨g, cap, fz, rfl, hbg, hlc, hcm, hfz, hg⟩
  · cases ad <;> simp [Builtin.append_, run_underlying Tryd.underlying22, sizeOf, typeInfo, hi, Builtin.lenOf, Builtin.firstCells, loadCells, loadCellsFrom]
  · cases ad <;> simp [Builtin.append_, run_underlying Tryd.underlying22, sizeOf, typeInfo, hi, Builtin.lenOf, Builtin.firstCells, loadCells, loadCellsFrom, storeCells, hlc]

/-- append of any bytes. -/
theorem run_appBs {w : World} (B : Nat) (v xv : Value) (l l' : List UInt8) {lo hi : Nat} (hown : OwnB w B v l) (hx : Sl w lo hi xv (iz l')) (hb : l.length + l'.length ≤ 1000000) (hB : B ≤ w.heap.size) :
    ∃ a' c' w', (Builtin.append_ #[22, 22] 22 #[v, xv]).run Tryd.prog w = .ok (.slice a' (l.length + l'.length) c') w' ∧ OwnB w' B (.slice a' (l.length + l'.length) c') (l ++ l') ∧ Aside (fun b => v.ownBlock = some b) w w' := by
  rcases Nat.eq_zero_or_pos l'.length with h0 | h0
  · have : l' = [] := List.eq_nil_of_length_eq_zero h0
    subst this
    obtain ⟨ad, c, rfl, _⟩ := hx
    have h1 := run_appB0 B v l ad c hown
    obtain ⟨a', c', rfl⟩ := hown.shape
    exact ⟨a', c', w, h1, by rw [List.append_nil]; exact hown, Aside.refl _ _⟩
  · obtain ⟨v', w', h1, h2, h3, _⟩ := run_appB B v xv l l' hown hx h0 hb hB
    obtain ⟨a', c', hv⟩ := h2.shape
    rw [List.length_append] at hv
    subst hv
    exact ⟨a', c', w', h1, h2, aside_grown h3⟩

/-- A row of byte slices reads as a list, where each of them reads. -/
theorem OwnS.bl {w : World} {B : Nat} {v : Value} {us : List Value} {l : List (List UInt8)} (h : OwnS w B v us) (hl : us.length = l.length) (hu : ∀ j, j < l.length → Sl w 0 w.heap.size (us.getD j (.slice none 0 0)) (iz (l.getD j []))) : Bl w v l := by
  rcases h with ⟨rfl, h0⟩ | ⟨g, cap, rfl, hB, hc, _, hg⟩
  · subst h0
    have : l = [] := List.eq_nil_of_length_eq_zero hl.symm
    subst this
    exact ⟨none, 0, rfl, Nat.le_refl _, fun h => by simp at h⟩
  · refine ⟨some ⟨g, 0, .none⟩, cap, by rw [hl], by omega, fun _ => ⟨g, 0, rfl, (Array.getElem?_eq_some_iff.mp hg).1, fun j hj => ⟨us.getD j (.slice none 0 0), ?_, hu j hj⟩⟩⟩
    rw [Nat.zero_add, World.cell?, hg]
    simp [List.getElem?_append_left, show j < us.length by omega, List.getD]
end Go.Proofs.YtlkafakanoefmaaDoor

/-
  A stream as messages, plainly.
-/
namespace Go.Proofs.YtlkafakanoefmaaDoor
set_option linter.unusedVariables false
set_option maxRecDepth 100000

/-- The number that the first two bytes are. -/
def hd2 (l : List UInt8) : Nat := 256 * (l.getD 0 0).toNat + (l.getD 1 0).toNat
theorem hd2_lt (l : List UInt8) : hd2 l ≤ 65535 := by
  unfold hd2
  have h1 := (l.getD 0 0).toNat_lt
  have h2 := (l.getD 1 0).toNat_lt
  omega
theorem hd2_app (l b : List UInt8) (h : 2 ≤ l.length) : hd2 (l ++ b) = hd2 l := by
  unfold hd2
  rw [List.getD, List.getD, List.getD, List.getD, List.getElem?_append_left (by omega), List.getElem?_append_left (by omega)]

/-- A stream read: the messages that are whole, what is kept, the error. -/
def runF (M : Nat) (l : List UInt8) : List (List UInt8) × List UInt8 × Int :=
  if l.length < 2 then ([], l, 0)
  else if hd2 l < 12 then ([], [], 4)
  else if M < hd2 l then ([], [], 3)
  else if l.length < 2 + hd2 l then ([], l, 0)
  else ((l.drop 2).take (hd2 l) :: (runF M (l.drop (2 + hd2 l))).1, (runF M (l.drop (2 + hd2 l))).2)
termination_by l.length
decreasing_by all_goals (simp; omega)

theorem runF_part (M : Nat) (l : List UInt8) (h : l.length < 2) : runF M l = ([], l, 0) := by rw [runF, if_pos h]
theorem runF_low (M : Nat) (l : List UInt8) (h : ¬ l.length < 2) (h1 : hd2 l < 12) : runF M l = ([], [], 4) := by rw [runF, if_neg h, if_pos h1]
theorem runF_high (M : Nat) (l : List UInt8) (h : ¬ l.length < 2) (h1 : ¬ hd2 l < 12) (h2 : M < hd2 l) : runF M l = ([], [], 3) := by rw [runF, if_neg h, if_neg h1, if_pos h2]
theorem runF_wait (M : Nat) (l : List UInt8) (h : ¬ l.length < 2) (h1 : ¬ hd2 l < 12) (h2 : ¬ M < hd2 l) (h3 : l.length < 2 + hd2 l) : runF M l = ([], l, 0) := by rw [runF, if_neg h, if_neg h1, if_neg h2, if_pos h3]
theorem runF_more (M : Nat) (l : List UInt8) (h : ¬ l.length < 2) (h1 : ¬ hd2 l < 12) (h2 : ¬ M < hd2 l) (h3 : ¬ l.length < 2 + hd2 l) :
    runF M l = ((l.drop 2).take (hd2 l) :: (runF M (l.drop (2 + hd2 l))).1, (runF M (l.drop (2 + hd2 l))).2) := by rw [runF, if_neg h, if_neg h1, if_neg h2, if_neg h3]

/-- What is kept is not more than the most and one; nothing more can be told of it; and with an error nothing is kept. -/
theorem runF_rest (M : Nat) (hM : 12 ≤ M) (l : List UInt8) : (runF M l).2.1.length ≤ M + 1 ∧ ((runF M l).2.2 = 0 → runF M (runF M l).2.1 = ([], (runF M l).2.1, 0)) ∧ ((runF M l).2.2 ≠ 0 → (runF M l).2.1 = []) := by
  induction l using runF.induct (M := M) with
  | case1 l h => rw [runF_part M l h]; exact ⟨by simp; omega, fun _ => runF_part M l h, fun h => absurd rfl h⟩
  | case2 l h h1 => rw [runF_low M l h h1]; exact ⟨by simp, fun h => by simp at h, fun _ => rfl⟩
  | case3 l h h1 h2 => rw [runF_high M l h h1 h2]; exact ⟨by simp, fun h => by simp at h, fun _ => rfl⟩
  | case4 l h h1 h2 h3 => rw [runF_wait M l h h1 h2 h3]; exact ⟨by simp; omega, fun _ => runF_wait M l h h1 h2 h3, fun h => absurd rfl h⟩
  | case5 l h h1 h2 h3 ih => rw [runF_more M l h h1 h2 h3]; exact ih

/-- The errors that there are. -/
theorem runF_err (M : Nat) (l : List UInt8) : (runF M l).2.2 = 0 ∨ (runF M l).2.2 = 3 ∨ (runF M l).2.2 = 4 := by
  induction l using runF.induct (M := M) with
  | case1 l h => rw [runF_part M l h]; exact .inl rfl
  | case2 l h h1 => rw [runF_low M l h h1]; exact .inr (.inr rfl)
  | case3 l h h1 h2 => rw [runF_high M l h h1 h2]; exact .inr (.inl rfl)
  | case4 l h h1 h2 h3 => rw [runF_wait M l h h1 h2 h3]; exact .inl rfl
  | case5 l h h1 h2 h3 ih => rw [runF_more M l h h1 h2 h3]; exact ih

/-- How many messages there are, and how long they are together. -/
theorem runF_len (M : Nat) (l : List UInt8) : 14 * (runF M l).1.length + (runF M l).2.1.length ≤ l.length ∧ ∀ x ∈ (runF M l).1, 12 ≤ x.length ∧ x.length ≤ M ∧ x.length ≤ 65535 := by
  induction l using runF.induct (M := M) with
  | case1 l h => rw [runF_part M l h]; simp
  | case2 l h h1 => rw [runF_low M l h h1]; simp
  | case3 l h h1 h2 => rw [runF_high M l h h1 h2]; simp
  | case4 l h h1 h2 h3 => rw [runF_wait M l h h1 h2 h3]; simp
  | case5 l h h1 h2 h3 ih =>
    rw [runF_more M l h h1 h2 h3]
    have hd := hd2_lt l
    refine ⟨?_, ?_⟩
    · have := ih.1
      rw [List.length_drop] at this
      simp only [List.length_cons]
      omega
    · intro x hx
      rcases List.mem_cons.mp hx with rfl | hx
      · rw [List.length_take, List.length_drop]; omega
      · exact ih.2 x hx

/-- More bytes behind a stream. -/
theorem runF_app (M : Nat) (l b : List UInt8) : runF M (l ++ b) = if (runF M l).2.2 = 0 then ((runF M l).1 ++ (runF M ((runF M l).2.1 ++ b)).1, (runF M ((runF M l).2.1 ++ b)).2) else runF M l := by
  induction l using runF.induct (M := M) with
  | case1 l h => rw [runF_part M l h, if_pos rfl]; rfl
  | case2 l h h1 =>
    rw [runF_low M l h h1, if_neg (by decide)]
    exact runF_low M _ (by rw [List.length_append]; omega) (by rw [hd2_app l b (by omega)]; exact h1)
  | case3 l h h1 h2 =>
    rw [runF_high M l h h1 h2, if_neg (by decide)]
    exact runF_high M _ (by rw [List.length_append]; omega) (by rw [hd2_app l b (by omega)]; exact h1) (by rw [hd2_app l b (by omega)]; exact h2)
  | case4 l h h1 h2 h3 => rw [runF_wait M l h h1 h2 h3, if_pos rfl]; rfl
  | case5 l h h1 h2 h3 ih =>
    have e := hd2_app l b (by omega)
    rw [runF_more M (l ++ b) (by rw [List.length_append]; omega) (by rw [e]; exact h1) (by rw [e]; exact h2) (by rw [e, List.length_append]; omega), e]
    have e1 : (l ++ b).drop (2 + hd2 l) = l.drop (2 + hd2 l) ++ b := by rw [List.drop_append_of_le_length (by omega)]
    have e2 : ((l ++ b).drop 2).take (hd2 l) = (l.drop 2).take (hd2 l) := by
      rw [List.drop_append_of_le_length (by omega), List.take_append_of_le_length (by rw [List.length_drop]; omega)]
    rw [e1, e2, ih, runF_more M l h h1 h2 h3]
    by_cases h0 : (runF M (l.drop (2 + hd2 l))).2.2 = 0
    · rw [if_pos h0, if_pos h0]; rfl
    · rw [if_neg h0, if_neg h0]

/-- Pieces, one behind the other, till there is an error. -/
def pushF (M : Nat) : List UInt8 → List (List UInt8) → List (List UInt8) × Int
  | _, [] => ([], 0)
  | B, p :: ps => if (runF M (B ++ p)).2.2 = 0 then ((runF M (B ++ p)).1 ++ (pushF M (runF M (B ++ p)).2.1 ps).1, (pushF M (runF M (B ++ p)).2.1 ps).2) else ((runF M (B ++ p)).1, (runF M (B ++ p)).2.2)

theorem pushF_all (M : Nat) (hM : 12 ≤ M) : ∀ (ps : List (List UInt8)) (B : List UInt8), runF M B = ([], B, 0) → pushF M B ps = ((runF M (B ++ ps.flatten)).1, (runF M (B ++ ps.flatten)).2.2)
  | [], B, h => by rw [List.flatten_nil, List.append_nil, h]; rfl
  | p :: ps, B, h => by
    rw [pushF, List.flatten_cons, ← List.append_assoc, runF_app M (B ++ p)]
    by_cases h0 : (runF M (B ++ p)).2.2 = 0
    · rw [if_pos h0, if_pos h0, pushF_all M hM ps _ ((runF_rest M hM (B ++ p)).2.1 h0)]
    · rw [if_neg h0, if_neg h0]

theorem runF_nil (M : Nat) : runF M [] = ([], [], 0) := runF_part M [] (by decide)

/-- However a stream is cut. -/
theorem pushF_cut (M : Nat) (hM : 12 ≤ M) (ps qs : List (List UInt8)) (h : ps.flatten = qs.flatten) : pushF M [] ps = pushF M [] qs := by
  rw [pushF_all M hM ps [] (runF_nil M), pushF_all M hM qs [] (runF_nil M), h]

/-- A frame. -/
def frmF (m : List UInt8) : List UInt8 := UInt8.ofNat (m.length / 256) :: UInt8.ofNat (m.length % 256) :: m

theorem frmF_hd (m l : List UInt8) (h : m.length ≤ 65535) : hd2 (frmF m ++ l) = m.length := by
  unfold hd2 frmF
  simp only [List.cons_append, List.getD_cons_zero, List.getD_cons_succ, UInt8.toNat_ofNat']
  omega

theorem runF_frm (M : Nat) (m l : List UInt8) (h1 : 12 ≤ m.length) (h2 : m.length ≤ 65535) (h3 : m.length ≤ M) : runF M (frmF m ++ l) = (m :: (runF M l).1, (runF M l).2) := by
  have hl : (frmF m ++ l).length = 2 + m.length + l.length := by unfold frmF; simp; omega
  have hh := frmF_hd m l h2
  rw [runF_more M _ (by omega) (by omega) (by omega) (by omega), hh]
  have e1 : (frmF m ++ l).drop (2 + m.length) = l := by
    have : (frmF m).length = 2 + m.length := by unfold frmF; simp; omega
    rw [← this, List.drop_left]
  have e2 : ((frmF m ++ l).drop 2).take m.length = m := by
    show (m ++ l).take m.length = m
    rw [List.take_left]
  rw [e1, e2]

theorem runF_long (M : Nat) (m l : List UInt8) (h1 : 12 ≤ m.length) (h2 : m.length ≤ 65535) (h3 : M < m.length) : runF M (frmF m ++ l) = ([], [], 3) := by
  have hl : (frmF m ++ l).length = 2 + m.length + l.length := by unfold frmF; simp; omega
  have hh := frmF_hd m l h2
  exact runF_high M _ (by omega) (by omega) (by omega)

/-- Up to the first that is longer than the most. -/
def upto (M : Nat) (ls : List (List UInt8)) : Nat := ls.findIdx fun m => decide (M < m.length)

theorem runF_frames (M : Nat) : ∀ (ls : List (List UInt8)), (∀ m ∈ ls, 12 ≤ m.length ∧ m.length ≤ 65535) → (runF M (ls.flatMap frmF)).1 = ls.take (upto M ls) ∧ (runF M (ls.flatMap frmF)).2.2 = if upto M ls < ls.length then 3 else 0
  | [], _ => by rw [List.flatMap_nil, runF_nil]; exact ⟨rfl, rfl⟩
  | m :: ls, h => by
    have hm := h m List.mem_cons_self
    have ih := runF_frames M ls fun x hx => h x (List.mem_cons_of_mem _ hx)
    rw [List.flatMap_cons]
    by_cases hM : M < m.length
    · have hu : upto M (m :: ls) = 0 := by unfold upto; rw [List.findIdx_cons, decide_eq_true hM]; rfl
      rw [runF_long M m _ hm.1 hm.2 hM, hu]
      exact ⟨rfl, by simp⟩
    · have hu : upto M (m :: ls) = upto M ls + 1 := by unfold upto; rw [List.findIdx_cons, decide_eq_false hM]; rfl
      rw [runF_frm M m _ hm.1 hm.2 (by omega), hu]
      refine ⟨by rw [List.take_succ_cons, ← ih.1], ?_⟩
      show (runF M (ls.flatMap frmF)).2.2 = _
      rw [ih.2]
      simp
end Go.Proofs.YtlkafakanoefmaaDoor

/-
  The document's reader: New, Want.
-/
namespace Go.Proofs.YtlkafakanoefmaaDoor
open Go.RowKit Go.Shelf
set_option linter.unusedVariables false
set_option linter.unusedSimpArgs false
set_option maxRecDepth 100000

/-- The document's reader, in block r: its most, what it keeps (in blocks from B on), whether it is broken. -/
def Rd (w : World) (r M B : Nat) (l : List UInt8) (out : Bool) : Prop :=
  ∃ v, w.cell? ⟨r, 0, none⟩ = some (.int .i64 M) ∧ w.cell? ⟨r, 1, none⟩ = some v ∧ w.cell? ⟨r, 2, none⟩ = some (.bool out) ∧ (∀ j, w.frozen? ⟨r, j, none⟩ = false) ∧ Sl w B w.heap.size v (iz l)

theorem Rd.lt {w : World} {r M B : Nat} {l : List UInt8} {out : Bool} (h : Rd w r M B l out) : r < w.heap.size := by
  obtain ⟨v, h1, _⟩ := h
  exact World.block_lt_of_cell? w _ h1

theorem Rd.aside {G : Nat → Prop} {w w' : World} {r M B : Nat} {l : List UInt8} {out : Bool} (h : Rd w r M B l out) (ha : Aside G w w') (h0 : ¬ G r) (h1 : ∀ b, B ≤ b → b < w.heap.size → ¬ G b) : Rd w' r M B l out := by
  have hlt := h.lt
  obtain ⟨v, c0, c1, c2, c3, hs⟩ := h
  refine ⟨v, (ha.cell hlt h0).trans c0, (ha.cell hlt h0).trans c1, (ha.cell hlt h0).trans c2, fun j => (ha.frozen (p := ⟨r, j, none⟩) hlt h0).trans (c3 j), ?_⟩
  exact (hs.keep fun b o hb hb2 => ha.cell (p := ⟨b, o, none⟩) hb2 (h1 b hb hb2)).wide (Nat.le_refl _) ha.size

set_option maxHeartbeats 1000000 in
theorem newR_ok (w : World) (M B : Nat) (h1 : 12 ≤ M) (h2 : M ≤ 65535) :
    Calls Tryd.prog 18 #[.int .i64 M] w fun e w' => e = .returned (.tuple #[.pointer (some ⟨w.heap.size, 0, none⟩), .int .i64 0]) ∧ Rd w' w.heap.size M B [] false ∧ Below w.heap.size w w' := by
  have t1 : ¬ (M : Int) < 12 := by omega
  have t2 : ¬ (65535 : Int) < M := by omega
  go_enter Tryd.func18, Tryd.ntmps18
  go_wp2_with fail
  go_ret2
  refine ⟨rfl, ⟨.slice none 0 0, ?_, ?_, ?_, fun j => ?_, none, 0, rfl, Nat.le_refl _, fun _ => rfl, fun h => by simp at h⟩, (Below.refl _ _).alloc (Nat.le_refl _) _⟩
  · simp [go_sem]
  · simp [go_sem]
  · simp [go_sem]
  · simp [go_sem]

set_option maxHeartbeats 1000000 in
theorem newR_no (w : World) (M : Int) (h1 : M < 12 ∨ 65535 < M) :
    Calls Tryd.prog 18 #[.int .i64 M] w fun e w' => e = .returned (.tuple #[.pointer none, .int .i64 2]) ∧ w' = w := by
  by_cases t1 : M < 12
  · go_enter Tryd.func18, Tryd.ntmps18
    go_wp2_with fail
    go_ret2
    exact ⟨rfl, rfl⟩
  · have t2 : 65535 < M := by omega
    go_enter Tryd.func18, Tryd.ntmps18
    go_wp2_with fail
    go_ret2
    exact ⟨rfl, rfl⟩

/-- How many bytes are missing. -/
def wantF (l : List UInt8) : Int := if l.length < 2 then 0 else (hd2 l : Int) - ((l.length : Int) - 2)

set_option maxHeartbeats 1000000 in
theorem wantR {w : World} {r M B : Nat} {l : List UInt8} {out : Bool} (h : Rd w r M B l out) (hl : l.length ≤ 1000000) :
    Calls Tryd.prog 25 #[.pointer (some ⟨r, 0, none⟩)] w fun e w' => e = .returned (.int .i64 (wantF l)) ∧ ∃ n, w' = w.drewN n := by
  obtain ⟨v, c0, c1, c2, c3, hs⟩ := h
  obtain ⟨a, c, rfl, h1, h2, h3⟩ := hs
  rw [iz_len] at h1 h3 c1
  by_cases hs : l.length < 2
  · have t1 : (l.length : Int) < 2 := by omega
    have e : wantF l = 0 := if_pos hs
    rw [e]
    clear h3 c3 hs
    go_enter Tryd.func25, Tryd.ntmps25
    go_wp2_with fail
    go_ret
    exact ⟨rfl, 0, rfl⟩
  · have t1 : ¬ (l.length : Int) < 2 := by omega
    obtain ⟨b, o, rfl, _, _, hc⟩ := h3 (by omega)
    have d0 := hc 0 (by omega)
    have d1 := hc 1 (by omega)
    rw [iz_get l 0 (by omega)] at d0
    rw [iz_get l 1 (by omega)] at d1
    have e : wantF l = (256 : Int) * (l[0].toNat : Int) + (l[1].toNat : Int) - ((l.length : Int) - 2) := by
      unfold wantF hd2
      rw [if_neg hs, List.getD, List.getD, List.getElem?_eq_getElem (show 0 < l.length by omega), List.getElem?_eq_getElem (show 1 < l.length by omega)]
      push_cast; rfl
    rw [e]
    obtain ⟨x, hx⟩ : ∃ x : Nat, l[0].toNat = x := ⟨_, rfl⟩
    obtain ⟨y, hy⟩ : ∃ y : Nat, l[1].toNat = y := ⟨_, rfl⟩
    have hx1 : x < 256 := by rw [← hx]; exact l[0].toNat_lt
    have hy1 : y < 256 := by rw [← hy]; exact l[1].toNat_lt
    rw [hx] at d0 ⊢
    rw [hy] at d1 ⊢
    have hl2 : 2 ≤ l.length := by omega
    rw [Nat.add_zero] at d0
    clear h3 c3 hs hc e hx hy
    go_enter Tryd.func25, Tryd.ntmps25
    go_wp2_with fail
    go_region
    go_wp2_with fail
    go_ret
    exact ⟨rfl, 1, rfl⟩
end Go.Proofs.YtlkafakanoefmaaDoor

/-
  The document's reader: Push: one message told.
-/
namespace Go.Proofs.YtlkafakanoefmaaDoor
open Go.RowKit Go.Shelf
set_option linter.unusedVariables false
set_option linter.unusedSimpArgs false
set_option maxRecDepth 100000

/-- A row of byte slices is no row of bytes. -/
theorem OwnS.ne {W : World} {B B' : Nat} {v v' : Value} {us : List Value} {l : List UInt8} (h : OwnS W B v us) (h' : OwnB W B' v' l) : ∀ b, v'.ownBlock = some b → ¬ v.ownBlock = some b := by
  intro b hb hb'
  rcases h with ⟨rfl, _⟩ | ⟨g, cap, rfl, _, _, _, hg⟩
  · cases hb'
  rcases h' with ⟨rfl, _⟩ | ⟨g', cap', fz, rfl, _, _, _, _, hg'⟩
  · cases hb
  have e1 : g = b := by injection hb'
  have e2 : g' = b := by injection hb
  subst e1; subst e2
  rw [hg] at hg'
  injection hg' with hg'
  injection hg' with _ h3 _
  exact absurd h3 (by decide)

theorem OwnS.mono {w : World} {B B' : Nat} {v : Value} {us : List Value} (h : OwnS w B v us) (hB : B' ≤ B) : OwnS w B' v us := OwnZ.mono h hB
theorem OwnS.below {w w' : World} {B : Nat} {v : Value} {us : List Value} (h : OwnS w B v us) (hb : Below w.heap.size w w') : OwnS w' B v us := OwnZ.below h hb

/-- Told messages, in a row of the call's own. -/
structure Told (W : World) (B : Nat) (v : Value) (us : List Value) (ls : List (List UInt8)) : Prop where
  row : OwnS W B v us
  len : us.length = ls.length
  each : ∀ j, j < ls.length → OwnB W B (us.getD j (.slice none 0 0)) (ls.getD j [])

theorem Told.nil (W : World) (B : Nat) : Told W B (.slice none 0 0) [] [] := ⟨.inl ⟨rfl, rfl⟩, rfl, fun j h => by simp at h⟩

theorem Told.bl {W : World} {B : Nat} {v : Value} {us : List Value} {ls : List (List UInt8)} (h : Told W B v us ls) : Bl W v ls :=
  h.row.bl h.len fun j hj => (h.each j hj).sl.wide (Nat.zero_le _) (Nat.le_refl _)

theorem Told.below {W W' : World} {B : Nat} {v : Value} {us : List Value} {ls : List (List UInt8)} (h : Told W B v us ls) (hb : Below W.heap.size W W') : Told W' B v us ls :=
  ⟨h.row.below hb, h.len, fun j hj => (h.each j hj).below hb⟩

/-- One more message. -/
theorem told_one {W : World} {B lo hi : Nat} {v sv : Value} {us : List Value} {ls : List (List UInt8)} {m : List UInt8} (h : Told W B v us ls) (hm : Sl W lo hi sv (iz m)) (hB : B ≤ W.heap.size) (hml : m.length ≤ 1000000) (hul : us.length + 1 ≤ 1000000) :
    ∃ a1 c1 X2 a2 c2 X4, (Builtin.append_ #[22, 22] 22 #[.slice (some ⟨W.heap.size, 0, none⟩) 0 0, sv]).run Tryd.prog (W.alloc (.cells #[] 5)) = .ok (.slice a1 m.length c1) X2 ∧
      (Builtin.append_ #[31, 31] 31 #[v, .slice (some ⟨X2.heap.size, 0, none⟩) 1 1]).run Tryd.prog (X2.alloc (.cells #[.slice a1 m.length c1] 22)) = .ok (.slice a2 (us.length + 1) c2) X4 ∧
      Told X4 B (.slice a2 (us.length + 1) c2) (us ++ [.slice a1 m.length c1]) (ls ++ [m]) ∧ Below B W X4 ∧ ∀ B' v' l', OwnB W B' v' l' → OwnB X4 B' v' l' := by
  have b1 : Below W.heap.size W (W.alloc (.cells #[] 5)) := (Below.refl _ _).alloc (Nat.le_refl _) _
  have hs1 : (W.alloc (.cells #[] 5)).heap.size = W.heap.size + 1 := by simp
  have o1 : OwnB (W.alloc (.cells #[] 5)) W.heap.size (.slice (some ⟨W.heap.size, 0, none⟩) 0 0) [] :=
    .inr ⟨W.heap.size, 0, (0, 0), rfl, Nat.le_refl _, Nat.le_refl _, Nat.zero_le _, .inl rfl, heap_alloc_new W _⟩
  obtain ⟨a1, c1, X2, r1, o2, g2⟩ := run_appBs W.heap.size _ sv [] m o1 (hm.later b1) (by simpa using hml) (by omega)
  simp only [List.length_nil, Nat.zero_add, List.nil_append] at r1 o2
  have b2 : Below W.heap.size W X2 := b1.trans (g2.below fun k hk => ⟨by omega, fun e => by have e2 : W.heap.size = k := (by injection e); omega⟩)
  have b3 : Below X2.heap.size X2 (X2.alloc (.cells #[.slice a1 m.length c1] 22)) := (Below.refl _ _).alloc (Nat.le_refl _) _
  have b23 : Below W.heap.size W (X2.alloc (.cells #[.slice a1 m.length c1] 22)) := b2.trans (b3.mono b2.size)
  have s3 : OwnS (X2.alloc (.cells #[.slice a1 m.length c1] 22)) B v us := h.row.below b23
  obtain ⟨a2, c2, X4, r2, s4, g4⟩ := run_appS1 B v (.slice a1 m.length c1) us X2.heap.size s3 (by simp [go_sem]) rfl hul (Nat.le_trans hB b23.size)
  have keep : ∀ B' v' l', OwnB (X2.alloc (.cells #[.slice a1 m.length c1] 22)) B' v' l' → OwnB X4 B' v' l' := fun B' v' l' hx =>
    hx.aside (aside_grown g4) (s3.ne hx)
  refine ⟨a1, c1, X2, a2, c2, X4, r1, r2, ⟨s4, by rw [List.length_append, List.length_append, h.len]; rfl, fun j hj => ?_⟩, ?_, fun B' v' l' hx => keep _ _ _ (hx.below b23)⟩
  · by_cases hj2 : j < ls.length
    · have e1 : (us ++ [Value.slice a1 m.length c1]).getD j (.slice none 0 0) = us.getD j (.slice none 0 0) := by
        rw [List.getD, List.getElem?_append_left (by rw [h.len]; exact hj2)]; rfl
      have e2 : (ls ++ [m]).getD j [] = ls.getD j [] := by
        rw [List.getD, List.getElem?_append_left hj2]; rfl
      rw [e1, e2]
      exact keep _ _ _ ((h.each j hj2).below b23)
    · rw [List.length_append] at hj
      have hj3 : j = ls.length := by simp at hj; omega
      subst hj3
      have e1 : (us ++ [Value.slice a1 m.length c1]).getD ls.length (.slice none 0 0) = .slice a1 m.length c1 := by
        rw [← h.len, List.getD]; simp
      have e2 : (ls ++ [m]).getD ls.length [] = m := by rw [List.getD]; simp
      rw [e1, e2]
      exact keep _ _ _ ((o2.mono hB).below b3)
  · exact (b23.mono hB).trans ((aside_grown g4).below fun k hk => ⟨Nat.lt_of_lt_of_le hk (Nat.le_trans hB b23.size), fun e => by have := OwnZ.lt s3 k e; omega⟩)
end Go.Proofs.YtlkafakanoefmaaDoor
