/-
  The reader that goes along a message: data; its methods.
-/
import Derived.Test.YtdikgjbpjdnodaaGreatT10
import Derived.Test.YtdikgjbpjdnodaaGreatT11
namespace Go.Proofs.YtdikgjbpjdnodaaGreat
open Go.RowKit Go.Shelf
set_option linter.unusedVariables false
set_option linter.unusedSimpArgs false
set_option maxRecDepth 100000

/-- Data are read. -/
def stD (b : List UInt8) (s : RS) (size t : Int) : RS := if s.e ≠ 0 then s else ⟨wrap64 (s.a + size), (rdR b s.a size t).code, ((rdR b s.a size t).place : Nat)⟩
def vlD (b : List UInt8) (s : RS) (size t : Int) (old : List UInt8) : List UInt8 := if s.e ≠ 0 then old else joined (rdR b s.a size t).pcs

set_option maxHeartbeats 4000000 in
theorem data1_any {w : World} {lo hi gs gt : Nat} {vb : Value} {b : List UInt8} {size t : Int} (hS : Sl w lo hi vb (iz b)) (hhi : hi ≤ w.heap.size) (hbl : b.length ≤ 300000) (hs : w.cell? ⟨gs, 0, none⟩ = some (.int .i64 size)) (hw : w.cell? ⟨gt, 0, none⟩ = some (.int .i64 t)) (a : Int) (ht : (Lit.int .i64 t).wf = true) :
    Calls Tryz.prog 138 #[vb, .int .i64 a, .pointer (some ⟨gs, 0, none⟩), .pointer (some ⟨gt, 0, none⟩)] w (Tells w (.tuple #[.string (bs (joined (rdR b a size t).pcs)), .int .i64 (wrap64 (a + size)), .agg #[.int .i64 (rdR b a size t).code, .int .i64 ((rdR b a size t).place : Nat)]])) := by
  have HB0 := Lib.hid ((Below.refl w.heap.size w).alloc (Nat.le_refl _) (.cells #[.int .i64 0, .int .i64 0] 43))
  have hrd := readD_any (w := w.alloc (.cells #[.int .i64 0, .int .i64 0] 43)) (hS.below HB0.out hhi) (Nat.le_trans hhi HB0.out.size) hbl a size t ht
  obtain ⟨n, hn⟩ : ∃ n, joined (rdR b a size t).pcs = n := ⟨_, rfl⟩
  obtain ⟨f, hf⟩ : ∃ f, (rdR b a size t).code = f := ⟨_, rfl⟩
  obtain ⟨g, hg⟩ : ∃ g : Int, ((rdR b a size t).place : Nat) = g := ⟨_, rfl⟩
  rw [hn, hf, hg] at hrd
  rw [hn, hf, hg]
  have HRd := Lib.hid hrd
  have hs1 := cell_later HB0.out hs
  have hw1 := cell_later HB0.out hw
  have ls := World.block_lt_of_cell? w _ hs
  have lw := World.block_lt_of_cell? w _ hw
  simp only at ls lw
  clear hrd hn hf hg hS
  go_enter Tryz.func138, Tryz.ntmps138
  go_wp2_with fail
  refine HRd.out.mono ?_; rintro en w1 ⟨rfl, hb1⟩
  have HB1 := Lib.hid (bel_call HB0.out hb1)
  have hs2 := cell_later hb1 hs1
  simp only [World.size_alloc] at hb1
  obtain ⟨k0, k1, k3⟩ := res_cells hb1
  have hlt := below_lt hb1
  have k30 := k3 0
  have k31 := k3 1
  have lg : gs < w1.heap.size := Nat.lt_of_lt_of_le ls HB1.out.size
  clear hb1 hs1 hw1 k3
  obtain ⟨A, hA⟩ : ∃ A, wrap64 (a + size) = A := ⟨_, rfl⟩
  have hA2 : IntKind.i64.wrap (a + size) = A := by rw [← hA, IntKind.wrap_i64]; first | rfl | (unfold wrap64; rfl)
  rw [hA]
  go_wp2_with fail
  go_region
  go_wp2_with fail
  obtain ⟨z0, z1⟩ := res_set (.int .i64 f) (.int .i64 g) k0 k1
  have hb2 := bel_set2 HB1.out (Nat.le_refl _) (.int .i64 f) (.int .i64 g)
  exact bodyPost_ret (by simp [results, Tryz.results138, go_sem, z0, z1, hlt]; rfl) rfl ⟨by rw [hA], (bel_alloc hb2 _).drew⟩

set_option maxHeartbeats 8000000 in
theorem data_next {w : World} {r q o lo hi gs gt : Nat} {vb : Value} {s : RS} {l : List Value} {b : List UInt8} {size t : Int} (hR : Rdr w r vb s) (hC : Cel w q l) (ho : o < l.length) (hne : r ≠ q) {old : List UInt8} (hold : l[o] = .string (bs old)) (hS : Sl w lo hi vb (iz b)) (hhi : hi ≤ w.heap.size) (hbl : b.length ≤ 300000) (hs : w.cell? ⟨gs, 0, none⟩ = some (.int .i64 size)) (hw : w.cell? ⟨gt, 0, none⟩ = some (.int .i64 t)) (ht : (Lit.int .i64 t).wf = true) :
    Calls Tryz.prog 107 #[.pointer (some ⟨r, 0, none⟩), .pointer (some ⟨q, o, none⟩), .func (.func 138) #[] #[.pointer (some ⟨gs, 0, none⟩), .pointer (some ⟨gt, 0, none⟩)]] w (NextPost w r q o vb (stD b s size t) (l.set o (.string (bs (vlD b s size t old))))) := by
  obtain ⟨a, e, p⟩ := s
  by_cases h0 : e = 0
  · subst h0
    have e1 : stD b ⟨a, 0, p⟩ size t = ⟨wrap64 (a + size), (rdR b a size t).code, ((rdR b a size t).place : Nat)⟩ := by unfold stD; rw [if_neg (by simp)]
    have e2 : vlD b ⟨a, 0, p⟩ size t old = joined (rdR b a size t).pcs := by unfold vlD; rw [if_neg (by simp)]
    rw [e1, e2]
    have hrd := data1_any (w := w.drew) (hS.below (Below.refl w.heap.size w).drew hhi) (Nat.le_trans hhi (Nat.le_refl _)) hbl (cell_later (Below.refl _ w).drew hs) (cell_later (Below.refl _ w).drew hw) a ht
    obtain ⟨n, hn⟩ : ∃ n, joined (rdR b a size t).pcs = n := ⟨_, rfl⟩
    obtain ⟨i, hi2⟩ : ∃ i, wrap64 (a + size) = i := ⟨_, rfl⟩
    obtain ⟨f, hf⟩ : ∃ f, (rdR b a size t).code = f := ⟨_, rfl⟩
    obtain ⟨g, hg⟩ : ∃ g : Int, ((rdR b a size t).place : Nat) = g := ⟨_, rfl⟩
    rw [hn, hi2, hf, hg] at hrd
    rw [hn, hi2, hf, hg]
    clear hn hi2 hf hg e1 e2 hs hw
    have HRd := Lib.hid hrd
    clear hrd
    have HH := Lib.hid (half_start (t := ⟨i, f, g⟩) (v := .string (bs n)) hR hC ho hne hold)
    clear hR hC hold hS
    obtain ⟨c0, c1, c2, c3, fz⟩ := HH.out.rd
    simp only [if_true, if_false, Bool.false_eq_true] at c1 c2 c3
    have c2' : w.cell? ⟨r, 2, none⟩ = some (.int .i64 0) := c2
    have fz1 := fz 1
    have fz2 := fz 2
    have fz3 := fz 3
    have cq := HH.out.old
    have fq := HH.out.ce.fz o
    clear fz
    go_enter Tryz.func107, Tryz.ntmps107
    go_wp2_with fail
    refine wp_region_held_drew (S := (fun wx => wx.cell? ⟨r, 0, none⟩ = some vb)) (by kernel_rfl) HH.out.rd.c0 (fun hHeld => ?_)
    refine wpAnyH_take (i := 0) (v := ?_) rfl (by kernel_rfl) (by kernel_rfl) (by kernel_rfl) (fun _ _ _ h => h) (Or.inl ⟨by rfl, ?_⟩) (by assumption) ?_
    rotate_left 1
    · intro w hSw; (try dsimp only at hSw); go_simp; try (with_reducible rfl)
    try simp only [Act.put, List.setIfInBounds_toArray, List.set_cons_zero, List.set_cons_succ]
    refine wpAnyH_take (i := 1) (v := ?_) rfl (by kernel_rfl) (by kernel_rfl) (by kernel_rfl) (fun _ _ _ h => h) (Or.inl ⟨by rfl, ?_⟩) (by assumption) ?_
    rotate_left 1
    · intro w hSw; (try dsimp only at hSw); go_simp; try (with_reducible rfl)
    try simp only [Act.put, List.setIfInBounds_toArray, List.set_cons_zero, List.set_cons_succ]
    refine wpAnyH_take (i := 2) (v := ?_) rfl (by kernel_rfl) (by kernel_rfl) (by kernel_rfl) (fun _ _ _ h => h) (Or.inl ⟨by rfl, ?_⟩) (by assumption) ?_
    rotate_left 1
    · intro w hSw; (try dsimp only at hSw); go_simp; try (with_reducible rfl)
    try simp only [Act.put, List.setIfInBounds_toArray, List.set_cons_zero, List.set_cons_succ]
    refine wpAnyH_take (i := 3) (v := ?_) rfl (by kernel_rfl) (by kernel_rfl) (by kernel_rfl) (fun _ _ _ h => h) (Or.inl ⟨by rfl, ?_⟩) (by assumption) ?_
    rotate_left 1
    · intro w hSw; (try dsimp only at hSw); go_simp; try (with_reducible rfl)
    try simp only [Act.put, List.setIfInBounds_toArray, List.set_cons_zero, List.set_cons_succ]
    refine wpAnyH_take (i := 4) (v := ?_) rfl (by kernel_rfl) (by kernel_rfl) (by kernel_rfl) (fun _ _ _ h => h) (Or.inl ⟨by rfl, ?_⟩) (by assumption) ?_
    rotate_left 1
    · intro w hSw; (try dsimp only at hSw); go_simp; try (with_reducible rfl)
    try simp only [Act.put, List.setIfInBounds_toArray, List.set_cons_zero, List.set_cons_succ]
    refine wpAnyH_take (i := 5) (v := ?_) rfl (by kernel_rfl) (by kernel_rfl) (by kernel_rfl) (fun _ _ _ h => h) (Or.inl ⟨by rfl, ?_⟩) (by assumption) ?_
    rotate_left 1
    · intro w hSw; (try dsimp only at hSw); go_simp; try (with_reducible rfl)
    try simp only [Act.put, List.setIfInBounds_toArray, List.set_cons_zero, List.set_cons_succ]
    refine wpAnyH_take (i := 6) (v := ?_) rfl (by kernel_rfl) (by kernel_rfl) (by kernel_rfl) (fun _ _ _ h => h) (Or.inl ⟨by rfl, ?_⟩) (by assumption) ?_
    rotate_left 1
    · intro w hSw; (try dsimp only at hSw); go_simp; try (with_reducible rfl)
    try simp only [Act.put, List.setIfInBounds_toArray, List.set_cons_zero, List.set_cons_succ]
    refine wpAnyH_take (i := 7) (v := ?_) rfl (by kernel_rfl) (by kernel_rfl) (by kernel_rfl) (fun _ _ _ h => h) (Or.inl ⟨by rfl, ?_⟩) (by assumption) ?_
    rotate_left 1
    · intro w hSw; (try dsimp only at hSw); go_simp; try (with_reducible rfl)
    try simp only [Act.put, List.setIfInBounds_toArray, List.set_cons_zero, List.set_cons_succ]
    refine wpAnyH_take (i := 8) (v := ?_) rfl (by kernel_rfl) (by kernel_rfl) (by kernel_rfl) (fun _ _ _ h => h) (Or.inl ⟨by rfl, ?_⟩) (by assumption) ?_
    rotate_left 1
    · intro w hSw; (try dsimp only at hSw); go_simp; try (with_reducible rfl)
    try simp only [Act.put, List.setIfInBounds_toArray, List.set_cons_zero, List.set_cons_succ]
    refine wpAnyH_take (i := 9) (v := ?_) rfl (by kernel_rfl) (by kernel_rfl) (by kernel_rfl) (fun _ _ _ h => h) (Or.inl ⟨by rfl, ?_⟩) (by assumption) ?_
    rotate_left 1
    · intro w hSw; (try dsimp only at hSw); go_simp; try (with_reducible rfl)
    try simp only [Act.put, List.setIfInBounds_toArray, List.set_cons_zero, List.set_cons_succ]
    refine wpAnyH_take (i := 10) (v := ?_) rfl (by kernel_rfl) (by kernel_rfl) (by kernel_rfl) (fun _ _ _ h => h) (Or.inl ⟨by rfl, ?_⟩) (by assumption) ?_
    rotate_left 1
    · intro w hSw; (try dsimp only at hSw); go_simp; try (with_reducible rfl)
    try simp only [Act.put, List.setIfInBounds_toArray, List.set_cons_zero, List.set_cons_succ]
    refine wpAnyH_ready (rs := [11]) (by kernel_rfl) (by simp) ?_
    refine AllReadyH.cons rfl (fun K hK => ?_) AllReadyH.nil
    go_simp
    refine hK.out _ _ HH.out.rd.c0 (fun hHeld => ?_)
    clear hK K
    try simp only [Act.put, List.setIfInBounds_toArray, List.set_cons_zero, List.set_cons_succ]
    refine wpAnyH_ready (rs := [12]) (by kernel_rfl) (by simp) ?_
    refine AllReadyH.cons rfl (fun K hK => ?_) AllReadyH.nil
    go_simp
    refine HRd.out.mono ?_; rintro en w1 ⟨rfl, hb1⟩
    replace HH := Lib.hid (HH.out.later hb1)
    clear hb1
    try go_wp2_with fail
    refine hK.out _ _ HH.out.rd.c0 (fun hHeld => ?_)
    clear hK K
    try simp only [Act.put, List.setIfInBounds_toArray, List.set_cons_zero, List.set_cons_succ]
    clear c0 c1 c2 c3 cq fq fz1 fz2 fz3
    obtain ⟨c0, c1, c2, c3, fz⟩ := HH.out.rd
    simp only [if_true, if_false, Bool.false_eq_true] at c1 c2 c3
    have fz1 := fz 1
    have fz2 := fz 2
    have fz3 := fz 3
    have cq := HH.out.old
    have fq := HH.out.ce.fz o
    clear fz
    refine wpAnyH_take (i := 13) (v := ?_) rfl (by kernel_rfl) (by kernel_rfl) (by kernel_rfl) (fun _ _ _ h => h) (Or.inl ⟨by rfl, ?_⟩) (by assumption) ?_
    rotate_left 1
    · intro w hSw; (try dsimp only at hSw); go_simp; try (with_reducible rfl)
    try simp only [Act.put, List.setIfInBounds_toArray, List.set_cons_zero, List.set_cons_succ]
    refine wpAnyH_take (i := 14) (v := ?_) rfl (by kernel_rfl) (by kernel_rfl) (by kernel_rfl) (fun _ _ _ h => h) (Or.inl ⟨by rfl, ?_⟩) (by assumption) ?_
    rotate_left 1
    · intro w hSw; (try dsimp only at hSw); go_simp; try (with_reducible rfl)
    try simp only [Act.put, List.setIfInBounds_toArray, List.set_cons_zero, List.set_cons_succ]
    refine wpAnyH_take (i := 15) (v := ?_) rfl (by kernel_rfl) (by kernel_rfl) (by kernel_rfl) (fun _ _ _ h => h) (Or.inl ⟨by rfl, ?_⟩) (by assumption) ?_
    rotate_left 1
    · intro w hSw; (try dsimp only at hSw); go_simp; try (with_reducible rfl)
    try simp only [Act.put, List.setIfInBounds_toArray, List.set_cons_zero, List.set_cons_succ]
    refine wpAnyH_take (i := 16) (v := ?_) rfl (by kernel_rfl) (by kernel_rfl) (by kernel_rfl) (fun _ _ _ h => h) (Or.inl ⟨by rfl, ?_⟩) (by assumption) ?_
    rotate_left 1
    · intro w hSw; (try dsimp only at hSw); go_simp; try (with_reducible rfl)
    try simp only [Act.put, List.setIfInBounds_toArray, List.set_cons_zero, List.set_cons_succ]
    refine wpAnyH_take (i := 17) (v := ?_) rfl (by kernel_rfl) (by kernel_rfl) (by kernel_rfl) (fun _ _ _ h => h) (Or.inl ⟨by rfl, ?_⟩) (by assumption) ?_
    rotate_left 1
    · intro w hSw; (try dsimp only at hSw); go_simp; try (with_reducible rfl)
    try simp only [Act.put, List.setIfInBounds_toArray, List.set_cons_zero, List.set_cons_succ]
    refine wpAnyH_ready (rs := [18]) (by kernel_rfl) (by simp) ?_
    refine AllReadyH.cons rfl (fun K hK => ?_) AllReadyH.nil
    go_simp
    replace HH := Lib.hid HH.out.sq
    refine hK.out _ _ HH.out.rd.c0 (fun hHeld => ?_)
    clear hK K
    try simp only [Act.put, List.setIfInBounds_toArray, List.set_cons_zero, List.set_cons_succ]
    clear c0 c1 c2 c3 cq fq fz1 fz2 fz3
    obtain ⟨c0, c1, c2, c3, fz⟩ := HH.out.rd
    simp only [if_true, if_false, Bool.false_eq_true] at c1 c2 c3
    have fz1 := fz 1
    have fz2 := fz 2
    have fz3 := fz 3
    have cq := HH.out.old
    have fq := HH.out.ce.fz o
    clear fz
    refine wpAnyH_take (i := 19) (v := ?_) rfl (by kernel_rfl) (by kernel_rfl) (by kernel_rfl) (fun _ _ _ h => h) (Or.inl ⟨by rfl, ?_⟩) (by assumption) ?_
    rotate_left 1
    · intro w hSw; (try dsimp only at hSw); go_simp; try (with_reducible rfl)
    try simp only [Act.put, List.setIfInBounds_toArray, List.set_cons_zero, List.set_cons_succ]
    refine wpAnyH_take (i := 20) (v := ?_) rfl (by kernel_rfl) (by kernel_rfl) (by kernel_rfl) (fun _ _ _ h => h) (Or.inl ⟨by rfl, ?_⟩) (by assumption) ?_
    rotate_left 1
    · intro w hSw; (try dsimp only at hSw); go_simp; try (with_reducible rfl)
    try simp only [Act.put, List.setIfInBounds_toArray, List.set_cons_zero, List.set_cons_succ]
    refine wpAnyH_ready (rs := [21]) (by kernel_rfl) (by simp) ?_
    refine AllReadyH.cons rfl (fun K hK => ?_) AllReadyH.nil
    go_simp
    replace HH := Lib.hid HH.out.sa
    refine hK.out _ _ HH.out.rd.c0 (fun hHeld => ?_)
    clear hK K
    try simp only [Act.put, List.setIfInBounds_toArray, List.set_cons_zero, List.set_cons_succ]
    clear c0 c1 c2 c3 cq fq fz1 fz2 fz3
    obtain ⟨c0, c1, c2, c3, fz⟩ := HH.out.rd
    simp only [if_true, if_false, Bool.false_eq_true] at c1 c2 c3
    have fz1 := fz 1
    have fz2 := fz 2
    have fz3 := fz 3
    have cq := HH.out.old
    have fq := HH.out.ce.fz o
    clear fz
    refine wpAnyH_take (i := 22) (v := ?_) rfl (by kernel_rfl) (by kernel_rfl) (by kernel_rfl) (fun _ _ _ h => h) (Or.inl ⟨by rfl, ?_⟩) (by assumption) ?_
    rotate_left 1
    · intro w hSw; (try dsimp only at hSw); go_simp; try (with_reducible rfl)
    try simp only [Act.put, List.setIfInBounds_toArray, List.set_cons_zero, List.set_cons_succ]
    refine wpAnyH_take (i := 23) (v := ?_) rfl (by kernel_rfl) (by kernel_rfl) (by kernel_rfl) (fun _ _ _ h => h) (Or.inl ⟨by rfl, ?_⟩) (by assumption) ?_
    rotate_left 1
    · intro w hSw; (try dsimp only at hSw); go_simp; try (with_reducible rfl)
    try simp only [Act.put, List.setIfInBounds_toArray, List.set_cons_zero, List.set_cons_succ]
    refine wpAnyH_ready (rs := [24]) (by kernel_rfl) (by simp) ?_
    refine AllReadyH.cons rfl (fun K hK => ?_) AllReadyH.nil
    go_simp
    replace HH := Lib.hid HH.out.sf
    refine hK.out _ _ HH.out.rd.c0 (fun hHeld => ?_)
    clear hK K
    try simp only [Act.put, List.setIfInBounds_toArray, List.set_cons_zero, List.set_cons_succ]
    clear c0 c1 c2 c3 cq fq fz1 fz2 fz3
    obtain ⟨c0, c1, c2, c3, fz⟩ := HH.out.rd
    simp only [if_true, if_false, Bool.false_eq_true] at c1 c2 c3
    have fz1 := fz 1
    have fz2 := fz 2
    have fz3 := fz 3
    have cq := HH.out.old
    have fq := HH.out.ce.fz o
    clear fz
    refine wpAnyH_done (by kernel_rfl) ?_ _
    clear hHeld
    go_wp2_with fail
    go_ret
    exact half_done HH.out


  · have tE : (e == 0) = false := by simpa using h0
    have e1 : stD b ⟨a, e, p⟩ size t = ⟨a, e, p⟩ := by unfold stD; rw [if_pos h0]
    have e2 : (Value.string (bs (vlD b ⟨a, e, p⟩ size t old))) = l[o] := by rw [hold]; unfold vlD; rw [if_pos h0]
    rw [e1, e2, List.set_getElem_self]
    have HR := Lib.hid hR
    have HC := Lib.hid hC
    have c2 := hR.c2
    clear hR hC e1 e2 hS hold
    go_enter Tryz.func107, Tryz.ntmps107
    go_wp2_with fail
    go_ret
    exact ⟨rfl, HR.out, HC.out, Aside.refl _ _⟩

section
variable {w : World} {r q o lo hi : Nat} {vb : Value} {s : RS} {l : List Value} {b : List UInt8}

theorem nameM_any (hR : Rdr w r vb s) (hC : Cel w q l) (ho : o < l.length) (hne : r ≠ q) {old : List UInt8} (hold : l[o] = .string (bs old)) (hS : Sl w lo hi vb (iz b)) (hhi : hi ≤ w.heap.size) (hbl : b.length ≤ 1000000) :
    Calls Tryz.prog 99 #[.pointer (some ⟨r, 0, none⟩), .pointer (some ⟨q, o, none⟩)] w (NextPost w r q o vb (stN b s) (l.set o (.string (bs (vlN b s old))))) := by
  have HN := Lib.hid (name_next hR hC ho hne hold hS hhi hbl)
  clear hR hC hS
  go_enter Tryz.func99, Tryz.ntmps99
  go_wp2_with fail
  refine HN.out.mono ?_; rintro en w1 ⟨rfl, h1, h2, h3⟩
  have HP := Lib.hid (And.intro h1 (And.intro h2 h3))
  clear h1 h2 h3
  go_wp2_with fail
  go_ret
  exact ⟨rfl, HP.out⟩

theorem twoM_any (hR : Rdr w r vb s) (hC : Cel w q l) (ho : o < l.length) (hne : r ≠ q) {old : Int} (hold : l[o] = .int .i64 old) (hS : Sl w lo hi vb (iz b)) (hhi : hi ≤ w.heap.size) (hbl : b.length ≤ 1000000) :
    Calls Tryz.prog 100 #[.pointer (some ⟨r, 0, none⟩), .pointer (some ⟨q, o, none⟩)] w (NextPost w r q o vb (st2 b s) (l.set o (.int .i64 (vl2 b s old)))) := by
  have HN := Lib.hid (two_next hR hC ho hne hold hS hhi hbl)
  clear hR hC hS
  go_enter Tryz.func100, Tryz.ntmps100
  go_wp2_with fail
  refine HN.out.mono ?_; rintro en w1 ⟨rfl, h1, h2, h3⟩
  have HP := Lib.hid (And.intro h1 (And.intro h2 h3))
  clear h1 h2 h3
  go_wp2_with fail
  go_ret
  exact ⟨rfl, HP.out⟩

theorem fourM_any (hR : Rdr w r vb s) (hC : Cel w q l) (ho : o < l.length) (hne : r ≠ q) {old : Int} (hold : l[o] = .int .i64 old) (hS : Sl w lo hi vb (iz b)) (hhi : hi ≤ w.heap.size) (hbl : b.length ≤ 1000000) :
    Calls Tryz.prog 132 #[.pointer (some ⟨r, 0, none⟩), .pointer (some ⟨q, o, none⟩)] w (NextPost w r q o vb (st4 b s) (l.set o (.int .i64 (vl4 b s old)))) := by
  have HN := Lib.hid (four_next hR hC ho hne hold hS hhi hbl)
  clear hR hC hS
  go_enter Tryz.func132, Tryz.ntmps132
  go_wp2_with fail
  refine HN.out.mono ?_; rintro en w1 ⟨rfl, h1, h2, h3⟩
  have HP := Lib.hid (And.intro h1 (And.intro h2 h3))
  clear h1 h2 h3
  go_wp2_with fail
  go_ret
  exact ⟨rfl, HP.out⟩

theorem dataM_any (hR : Rdr w r vb s) (hC : Cel w q l) (ho : o < l.length) (hne : r ≠ q) {old : List UInt8} (hold : l[o] = .string (bs old)) (hS : Sl w lo hi vb (iz b)) (hhi : hi ≤ w.heap.size) (hbl : b.length ≤ 300000) (size t : Int) (ht : (Lit.int .i64 t).wf = true) :
    Calls Tryz.prog 133 #[.pointer (some ⟨r, 0, none⟩), .pointer (some ⟨q, o, none⟩), .int .i64 size, .int .i64 t] w (NextPost w r q o vb (stD b s size t) (l.set o (.string (bs (vlD b s size t old))))) := by
  have a1 : Below w.heap.size w (w.alloc (.cells #[.int .i64 size] 3)) := (Below.refl _ _).alloc (Nat.le_refl _) _
  have a2 : Below w.heap.size w ((w.alloc (.cells #[.int .i64 size] 3)).alloc (.cells #[.int .i64 t] 3)) := bel_alloc a1 _
  have HN := Lib.hid (data_next (gs := w.heap.size) (gt := w.heap.size + 1) (hR.below a2) (hC.below (by omega) a2) ho hne hold (hS.below a2 hhi) (Nat.le_trans hhi a2.size) hbl (size := size) (t := t) (by simp [go_sem]) (by simp [go_sem]) ht)
  have HA := Lib.hid (Aside.of_all a2 : Aside (fun b => b = r ∨ b = q) w _)
  clear hR hC hS a1 a2
  go_enter Tryz.func133, Tryz.ntmps133
  go_wp2_with fail
  refine HN.out.mono ?_; rintro en w1 ⟨rfl, h1, h2, h3⟩
  have HP := Lib.hid (And.intro h1 (And.intro h2 (HA.out.trans h3)))
  clear h1 h2 h3
  go_wp2_with fail
  go_ret
  exact ⟨rfl, HP.out⟩
end

end Go.Proofs.YtdikgjbpjdnodaaGreat

/-
  Question: what is read, the walk.
-/
namespace Go.Proofs.YtdikgjbpjdnodaaGreat
open Go.RowKit Go.Shelf
set_option linter.unusedVariables false
set_option linter.unusedSimpArgs false
set_option maxRecDepth 100000

/-- The reader behind each part, and what each part comes to. -/
def s1 (b : List UInt8) (a : Int) : RS := stN b ⟨a, 0, 0⟩
def rN (b : List UInt8) (a : Int) : List UInt8 := vlN b ⟨a, 0, 0⟩ []
def s2 (b : List UInt8) (a : Int) : RS := st2 b (s1 b a)
def rT (b : List UInt8) (a : Int) : Int := vl2 b (s1 b a) 0
def s3 (b : List UInt8) (a : Int) : RS := st2 b (s2 b a)
def rC (b : List UInt8) (a : Int) : Int := vl2 b (s2 b a) 0
def s4 (b : List UInt8) (a : Int) : RS := st4 b (s3 b a)
def rL (b : List UInt8) (a : Int) : Int := vl4 b (s3 b a) 0
def s5 (b : List UInt8) (a : Int) : RS := st2 b (s4 b a)
def rZ (b : List UInt8) (a : Int) : Int := vl2 b (s4 b a) 0
def s6 (b : List UInt8) (a : Int) : RS := stD b (s5 b a) (rZ b a) (rT b a)
def rD (b : List UInt8) (a : Int) : List UInt8 := vlD b (s5 b a) (rZ b a) (rT b a) []

/-- What Question tells. -/
def quesV (b : List UInt8) (a : Int) : Value :=
  if (s3 b a).e = 0 then .tuple #[.agg #[.string (bs (rN b a)), .int .i64 (rT b a), .int .i64 (rC b a)], .int .i64 (s3 b a).a, .agg #[.int .i64 0, .int .i64 0]]
  else .tuple #[.agg #[.string ⟨#[]⟩, .int .i64 0, .int .i64 0], .int .i64 0, .agg #[.int .i64 (s3 b a).e, .int .i64 (s3 b a).p]]

theorem nx_below {w0 w w' : World} {r q : Nat} (ha : Aside (fun b => b = r ∨ b = q) w w') (hb : Below w0.heap.size w0 w) (hr : w0.heap.size ≤ r) (hq : w0.heap.size ≤ q) : Below w0.heap.size w0 w' :=
  below_aside hb ha fun b hb2 => ⟨Nat.lt_of_lt_of_le hb2 hb.size, fun hg => by rcases hg with rfl | rfl <;> omega⟩

set_option maxHeartbeats 8000000 in
theorem question_any {w : World} {lo hi : Nat} {vb : Value} {b : List UInt8} (hS : Sl w lo hi vb (iz b)) (hhi : hi ≤ w.heap.size) (hbl : b.length ≤ 300000) (a : Int) :
    Calls Tryz.prog 96 #[vb, .int .i64 a] w (Tells w (quesV b a)) := by
  have hS2 := hS
  obtain ⟨av, cv, rfl, _⟩ := hS
  have hS : Sl w lo hi (.slice av b.length cv) (iz b) := by rw [iz_len] at hS2; exact hS2
  clear hS2
  rw [iz_len]
  obtain ⟨m, hm⟩ : ∃ m, b.length = m := ⟨_, rfl⟩
  rw [hm] at hS hbl ⊢
  obtain ⟨vb, hvb⟩ : ∃ vb : Value, .slice av m cv = vb := ⟨_, rfl⟩
  have HVB := Lib.hid hvb
  rw [hvb] at hS ⊢
  clear hvb
  obtain ⟨S1, hS1⟩ : ∃ S, s1 b a = S := ⟨_, rfl⟩
  obtain ⟨S2, hS2⟩ : ∃ S, s2 b a = S := ⟨_, rfl⟩
  obtain ⟨S3, hS3⟩ : ∃ S, s3 b a = S := ⟨_, rfl⟩
  obtain ⟨n, hn⟩ : ∃ n, rN b a = n := ⟨_, rfl⟩
  obtain ⟨t, ht⟩ : ∃ t, rT b a = t := ⟨_, rfl⟩
  obtain ⟨c, hc⟩ : ∃ c, rC b a = c := ⟨_, rfl⟩
  have hV : quesV b a = if S3.e = 0 then .tuple #[.agg #[.string (bs n), .int .i64 t, .int .i64 c], .int .i64 S3.a, .agg #[.int .i64 0, .int .i64 0]]
      else .tuple #[.agg #[.string ⟨#[]⟩, .int .i64 0, .int .i64 0], .int .i64 0, .agg #[.int .i64 S3.e, .int .i64 S3.p]] := by unfold quesV; rw [hS3, hn, ht, hc]
  rw [hV]
  obtain ⟨V, hVV⟩ : ∃ V, (if S3.e = 0 then Value.tuple #[.agg #[.string (bs n), .int .i64 t, .int .i64 c], .int .i64 S3.a, .agg #[.int .i64 0, .int .i64 0]]
      else .tuple #[.agg #[.string ⟨#[]⟩, .int .i64 0, .int .i64 0], .int .i64 0, .agg #[.int .i64 S3.e, .int .i64 S3.p]]) = V := ⟨_, rfl⟩
  rw [hVV]
  have HV := Lib.hid hVV
  clear hVV
  obtain ⟨wA, hA⟩ : ∃ wA, w.alloc (.cells #[.string ⟨#[]⟩, .int .i64 0, .int .i64 0] 56) = wA := ⟨_, rfl⟩
  obtain ⟨wB, hB⟩ : ∃ wB, wA.alloc (.cells #[.int .i64 0, .int .i64 0] 43) = wB := ⟨_, rfl⟩
  obtain ⟨wC, hC⟩ : ∃ wC, wB.alloc (.cells #[.string ⟨#[]⟩, .int .i64 0, .int .i64 0] 56) = wC := ⟨_, rfl⟩
  obtain ⟨wD, hD⟩ : ∃ wD, wC.alloc (.cells #[vb, .int .i64 a, .int .i64 0, .int .i64 0] 148) = wD := ⟨_, rfl⟩
  have zA : wA.heap.size = w.heap.size + 1 := by rw [← hA]; simp
  have zB : wB.heap.size = w.heap.size + 2 := by rw [← hB, World.size_alloc, zA]
  have zC : wC.heap.size = w.heap.size + 3 := by rw [← hC, World.size_alloc, zB]
  have zD : wD.heap.size = w.heap.size + 4 := by rw [← hD, World.size_alloc, zC]
  have bA : Below w.heap.size w wA := by rw [← hA]; exact (Below.refl _ _).alloc (Nat.le_refl _) _
  have bB : Below wA.heap.size wA wB := by rw [← hB]; exact (Below.refl _ _).alloc (Nat.le_refl _) _
  have bC : Below wB.heap.size wB wC := by rw [← hC]; exact (Below.refl _ _).alloc (Nat.le_refl _) _
  have bD : Below wC.heap.size wC wD := by rw [← hD]; exact (Below.refl _ _).alloc (Nat.le_refl _) _
  have hb : Below w.heap.size w wD := bel_call (bel_call (bel_call bA bB) bC) bD
  have c0 : Cel wA w.heap.size [.string ⟨#[]⟩, .int .i64 0, .int .i64 0] := ⟨fun j hj => by
    rw [← hA]
    match j, hj with
    | 0, _ => simp [go_sem]
    | 1, _ => simp [go_sem]
    | 2, _ => simp [go_sem], fun j => by rw [← hA]; simp [go_sem]⟩
  have c1 : Cel wB (w.heap.size + 1) [.int .i64 0, .int .i64 0] := ⟨fun j hj => by
    rw [← hB, ← zA]
    match j, hj with
    | 0, _ => simp [go_sem]
    | 1, _ => simp [go_sem], fun j => by rw [← hB, ← zA]; simp [go_sem]⟩
  have c2 : Cel wC (w.heap.size + 2) [.string ⟨#[]⟩, .int .i64 0, .int .i64 0] := ⟨fun j hj => by
    rw [← hC, ← zB]
    match j, hj with
    | 0, _ => simp [go_sem]
    | 1, _ => simp [go_sem]
    | 2, _ => simp [go_sem], fun j => by rw [← hC, ← zB]; simp [go_sem]⟩
  have cr : Rdr wD (w.heap.size + 3) vb ⟨a, 0, 0⟩ := by
    rw [← hD, ← zC]
    exact ⟨by simp [go_sem], by simp [go_sem], by simp [go_sem], by simp [go_sem], fun j => by simp [go_sem]⟩
  have c0' := ((c0.below (by simp) bB).below (by simp) bC).below (by simp) bD
  have c1' := (c1.below (by simp) bC).below (by simp) bD
  have c2' := c2.below (by simp) bD
  obtain ⟨z, hz⟩ : ∃ z, w.heap.size = z := ⟨_, rfl⟩
  have HS := Lib.hid hS
  have HN := Lib.hid (nameM_any (o := 0) cr c2' (by simp) (by omega) (old := []) rfl (hS.below hb hhi) (Nat.le_trans hhi hb.size) (by omega))
  have e1 : stN b ⟨a, 0, 0⟩ = S1 := hS1
  have e2 : vlN b ⟨a, 0, 0⟩ [] = n := hn
  rw [e1, e2] at HN
  have H2 := Lib.hid (fun wx (hb2 : Below w.heap.size w wx) (hr : Rdr wx (w.heap.size + 3) vb S1) (hc : Cel wx (w.heap.size + 2) [.string (bs n), .int .i64 0, .int .i64 0]) => show Calls Tryz.prog 100 #[.pointer (some ⟨w.heap.size + 3, 0, none⟩), .pointer (some ⟨w.heap.size + 2, 1, none⟩)] wx (NextPost wx (w.heap.size + 3) (w.heap.size + 2) 1 vb S2 [.string (bs n), .int .i64 t, .int .i64 0]) from by
    have h := twoM_any (o := 1) hr hc (by simp) (by omega) (old := 0) rfl (hS.below hb2 hhi) (Nat.le_trans hhi hb2.size) (by omega)
    have g1 : st2 b S1 = S2 := by rw [← hS2, s2, hS1]
    have g2 : vl2 b S1 0 = t := by rw [← ht, rT, hS1]
    rw [g1, g2] at h
    exact h)
  have H3 := Lib.hid (fun wx (hb2 : Below w.heap.size w wx) (hr : Rdr wx (w.heap.size + 3) vb S2) (hc2 : Cel wx (w.heap.size + 2) [.string (bs n), .int .i64 t, .int .i64 0]) => show Calls Tryz.prog 100 #[.pointer (some ⟨w.heap.size + 3, 0, none⟩), .pointer (some ⟨w.heap.size + 2, 2, none⟩)] wx (NextPost wx (w.heap.size + 3) (w.heap.size + 2) 2 vb S3 [.string (bs n), .int .i64 t, .int .i64 c]) from by
    have h := twoM_any (o := 2) hr hc2 (by simp) (by omega) (old := 0) rfl (hS.below hb2 hhi) (Nat.le_trans hhi hb2.size) (by omega)
    have g1 : st2 b S2 = S3 := by rw [← hS3, s3, hS2]
    have g2 : vl2 b S2 0 = c := by rw [← hc, rC, hS2]
    rw [g1, g2] at h
    exact h)
  have HK := Lib.hid (And.intro c0' c1')
  have HB := Lib.hid hb
  clear hS1 hS2 hS3 hn ht hc hV e1 e2 c0 c1 c2 cr c0' c1' c2' bA bB bC bD hb hS
  rw [hz] at HN H2 H3 HK
  have hvb := HVB.out
  subst hvb
  go_enter Tryz.func96, Tryz.ntmps96
  go_wp2_with fail
  refine HN.out.mono ?_; rintro en w1 ⟨rfl, hr, hc, ha⟩
  have hb1 := nx_below (w0 := w) ha HB.out (by omega) (by omega)
  have HB1 := Lib.hid hb1
  have HK1 := Lib.hid (And.intro (HK.out.1.aside (by simp) ha (by omega)) (HK.out.2.aside (by simp) ha (by omega)))
  have HX := Lib.hid (H2.out _ (by rw [← hz]; exact hb1) hr hc)
  clear hr hc ha hb1 HK HB HN H2
  go_wp2_with fail
  refine HX.out.mono ?_; rintro en w2 ⟨rfl, hr, hc, ha⟩
  have hb2 := nx_below (w0 := w) ha HB1.out (by omega) (by omega)
  have HB2 := Lib.hid hb2
  have HK2 := Lib.hid (And.intro (HK1.out.1.aside (by simp) ha (by omega)) (HK1.out.2.aside (by simp) ha (by omega)))
  have HY := Lib.hid (H3.out _ (by rw [← hz]; exact hb2) hr hc)
  clear hr hc ha hb2 HK1 HB1 HX H3
  go_wp2_with fail
  refine HY.out.mono ?_; rintro en w3 ⟨rfl, hr, hc, ha⟩
  have hb3 := nx_below (w0 := w) ha HB2.out (by omega) (by omega)
  have HB3 := Lib.hid hb3
  have HK3 := Lib.hid (And.intro (HK2.out.1.aside (by simp) ha (by omega)) (HK2.out.2.aside (by simp) ha (by omega)))
  obtain ⟨a3, e3, p3⟩ := S3
  obtain ⟨r0, r1, r2, r3, rf⟩ := hr
  simp only at r1 r2 r3
  have q0 : w3.cell? ⟨z + 2, 0, none⟩ = some (.string (bs n)) := hc.c 0 (by simp)
  have q1 : w3.cell? ⟨z + 2, 1, none⟩ = some (.int .i64 t) := hc.c 1 (by simp)
  have q2 : w3.cell? ⟨z + 2, 2, none⟩ = some (.int .i64 c) := hc.c 2 (by simp)
  have k0 : w3.cell? ⟨z, 0, none⟩ = some (.string ⟨#[]⟩) := HK3.out.1.c 0 (by simp)
  have k1 : w3.cell? ⟨z, 1, none⟩ = some (.int .i64 0) := HK3.out.1.c 1 (by simp)
  have k2 : w3.cell? ⟨z, 2, none⟩ = some (.int .i64 0) := HK3.out.1.c 2 (by simp)
  have f0 := HK3.out.1.fz 0
  have f1 := HK3.out.1.fz 1
  have f2 := HK3.out.1.fz 2
  have l0 : w3.cell? ⟨z + 1, 0, none⟩ = some (.int .i64 0) := HK3.out.2.c 0 (by simp)
  have l1 : w3.cell? ⟨z + 1, 1, none⟩ = some (.int .i64 0) := HK3.out.2.c 1 (by simp)
  have g0 := HK3.out.2.fz 0
  have g1 := HK3.out.2.fz 1
  clear hc ha hb3 HK2 HB2 HY rf
  by_cases h0 : e3 = 0
  · subst h0
    rw [if_pos rfl] at HV
    go_wp2_with fail
    go_region
    have W1 := (((((HK3.out.1.set (o := 0) (by simp) (Value.string (bs n))).set (o := 1) (by simp) (Value.int .i64 t)).set (o := 2) (by simp) (Value.int .i64 c)).other (a := ⟨z + 1, 0, none⟩) (by simp) (Value.int .i64 0)).other (a := ⟨z + 1, 1, none⟩) (by simp) (Value.int .i64 0))
    have W2 := (((((HK3.out.2.other (a := ⟨z, 0, none⟩) (by simp) (Value.string (bs n))).other (a := ⟨z, 1, none⟩) (by simp) (Value.int .i64 t)).other (a := ⟨z, 2, none⟩) (by simp) (Value.int .i64 c)).set (o := 0) (by simp) (Value.int .i64 0)).set (o := 1) (by simp) (Value.int .i64 0))
    have x0 : (((((w3.setCell ⟨z, 0, none⟩ (Value.string (bs n))).setCell ⟨z, 1, none⟩ (Value.int .i64 t)).setCell ⟨z, 2, none⟩ (Value.int .i64 c)).setCell ⟨z + 1, 0, none⟩ (Value.int .i64 0)).setCell ⟨z + 1, 1, none⟩ (Value.int .i64 0)).cell? ⟨z, 0, none⟩ = some (Value.string (bs n)) := W1.c 0 (by simp)
    have x1 : (((((w3.setCell ⟨z, 0, none⟩ (Value.string (bs n))).setCell ⟨z, 1, none⟩ (Value.int .i64 t)).setCell ⟨z, 2, none⟩ (Value.int .i64 c)).setCell ⟨z + 1, 0, none⟩ (Value.int .i64 0)).setCell ⟨z + 1, 1, none⟩ (Value.int .i64 0)).cell? ⟨z, 1, none⟩ = some (Value.int .i64 t) := W1.c 1 (by simp)
    have x2 : (((((w3.setCell ⟨z, 0, none⟩ (Value.string (bs n))).setCell ⟨z, 1, none⟩ (Value.int .i64 t)).setCell ⟨z, 2, none⟩ (Value.int .i64 c)).setCell ⟨z + 1, 0, none⟩ (Value.int .i64 0)).setCell ⟨z + 1, 1, none⟩ (Value.int .i64 0)).cell? ⟨z, 2, none⟩ = some (Value.int .i64 c) := W1.c 2 (by simp)
    have y0 : (((((w3.setCell ⟨z, 0, none⟩ (Value.string (bs n))).setCell ⟨z, 1, none⟩ (Value.int .i64 t)).setCell ⟨z, 2, none⟩ (Value.int .i64 c)).setCell ⟨z + 1, 0, none⟩ (Value.int .i64 0)).setCell ⟨z + 1, 1, none⟩ (Value.int .i64 0)).cell? ⟨z + 1, 0, none⟩ = some (Value.int .i64 0) := W2.c 0 (by simp)
    have y1 : (((((w3.setCell ⟨z, 0, none⟩ (Value.string (bs n))).setCell ⟨z, 1, none⟩ (Value.int .i64 t)).setCell ⟨z, 2, none⟩ (Value.int .i64 c)).setCell ⟨z + 1, 0, none⟩ (Value.int .i64 0)).setCell ⟨z + 1, 1, none⟩ (Value.int .i64 0)).cell? ⟨z + 1, 1, none⟩ = some (Value.int .i64 0) := W2.c 1 (by simp)
    have hle : w.heap.size ≤ z := by omega
    have hle1 : w.heap.size ≤ z + 1 := by omega
    have HF := Lib.hid (((((HB3.out.setCell (p := ⟨z, 0, none⟩) hle (Value.string (bs n))).setCell (p := ⟨z, 1, none⟩) hle (Value.int .i64 t)).setCell (p := ⟨z, 2, none⟩) hle (Value.int .i64 c)).setCell (p := ⟨z + 1, 0, none⟩) hle1 (Value.int .i64 0)).setCell (p := ⟨z + 1, 1, none⟩) hle1 (Value.int .i64 0)).drew
    clear W1 W2 hle hle1
    go_wp2_with fail
    exact bodyPost_ret (by simp [results, Tryz.results96, go_sem, x0, x1, x2, y0, y1]; rfl) rfl ⟨by rw [← HV.out], HF.out⟩
  · have tE : (e3 != 0) = true := by simpa using h0
    rw [if_neg h0] at HV
    go_wp2_with fail
    go_region
    have W1 := (((((HK3.out.1.set (o := 0) (by simp) (Value.string ⟨#[]⟩)).set (o := 1) (by simp) (Value.int .i64 0)).set (o := 2) (by simp) (Value.int .i64 0)).other (a := ⟨z + 1, 0, none⟩) (by simp) (Value.int .i64 e3)).other (a := ⟨z + 1, 1, none⟩) (by simp) (Value.int .i64 p3))
    have W2 := (((((HK3.out.2.other (a := ⟨z, 0, none⟩) (by simp) (Value.string ⟨#[]⟩)).other (a := ⟨z, 1, none⟩) (by simp) (Value.int .i64 0)).other (a := ⟨z, 2, none⟩) (by simp) (Value.int .i64 0)).set (o := 0) (by simp) (Value.int .i64 e3)).set (o := 1) (by simp) (Value.int .i64 p3))
    have x0 : (((((w3.setCell ⟨z, 0, none⟩ (Value.string ⟨#[]⟩)).setCell ⟨z, 1, none⟩ (Value.int .i64 0)).setCell ⟨z, 2, none⟩ (Value.int .i64 0)).setCell ⟨z + 1, 0, none⟩ (Value.int .i64 e3)).setCell ⟨z + 1, 1, none⟩ (Value.int .i64 p3)).cell? ⟨z, 0, none⟩ = some (Value.string ⟨#[]⟩) := W1.c 0 (by simp)
    have x1 : (((((w3.setCell ⟨z, 0, none⟩ (Value.string ⟨#[]⟩)).setCell ⟨z, 1, none⟩ (Value.int .i64 0)).setCell ⟨z, 2, none⟩ (Value.int .i64 0)).setCell ⟨z + 1, 0, none⟩ (Value.int .i64 e3)).setCell ⟨z + 1, 1, none⟩ (Value.int .i64 p3)).cell? ⟨z, 1, none⟩ = some (Value.int .i64 0) := W1.c 1 (by simp)
    have x2 : (((((w3.setCell ⟨z, 0, none⟩ (Value.string ⟨#[]⟩)).setCell ⟨z, 1, none⟩ (Value.int .i64 0)).setCell ⟨z, 2, none⟩ (Value.int .i64 0)).setCell ⟨z + 1, 0, none⟩ (Value.int .i64 e3)).setCell ⟨z + 1, 1, none⟩ (Value.int .i64 p3)).cell? ⟨z, 2, none⟩ = some (Value.int .i64 0) := W1.c 2 (by simp)
    have y0 : (((((w3.setCell ⟨z, 0, none⟩ (Value.string ⟨#[]⟩)).setCell ⟨z, 1, none⟩ (Value.int .i64 0)).setCell ⟨z, 2, none⟩ (Value.int .i64 0)).setCell ⟨z + 1, 0, none⟩ (Value.int .i64 e3)).setCell ⟨z + 1, 1, none⟩ (Value.int .i64 p3)).cell? ⟨z + 1, 0, none⟩ = some (Value.int .i64 e3) := W2.c 0 (by simp)
    have y1 : (((((w3.setCell ⟨z, 0, none⟩ (Value.string ⟨#[]⟩)).setCell ⟨z, 1, none⟩ (Value.int .i64 0)).setCell ⟨z, 2, none⟩ (Value.int .i64 0)).setCell ⟨z + 1, 0, none⟩ (Value.int .i64 e3)).setCell ⟨z + 1, 1, none⟩ (Value.int .i64 p3)).cell? ⟨z + 1, 1, none⟩ = some (Value.int .i64 p3) := W2.c 1 (by simp)
    have hle : w.heap.size ≤ z := by omega
    have hle1 : w.heap.size ≤ z + 1 := by omega
    have HF := Lib.hid (((((HB3.out.setCell (p := ⟨z, 0, none⟩) hle (Value.string ⟨#[]⟩)).setCell (p := ⟨z, 1, none⟩) hle (Value.int .i64 0)).setCell (p := ⟨z, 2, none⟩) hle (Value.int .i64 0)).setCell (p := ⟨z + 1, 0, none⟩) hle1 (Value.int .i64 e3)).setCell (p := ⟨z + 1, 1, none⟩) hle1 (Value.int .i64 p3)).drew
    clear W1 W2 hle hle1
    go_wp2_with fail
    exact bodyPost_ret (by simp [results, Tryz.results96, go_sem, x0, x1, x2, y0, y1]; rfl) rfl ⟨by rw [← HV.out], HF.out⟩
end Go.Proofs.YtdikgjbpjdnodaaGreat
