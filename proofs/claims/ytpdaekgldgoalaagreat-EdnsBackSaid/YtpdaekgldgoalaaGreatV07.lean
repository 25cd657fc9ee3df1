/-
  The reader that goes along a message: data; its methods.
-/
import Derived.Test.YtpdaekgldgoalaaGreatV02
import Derived.Test.YtpdaekgldgoalaaGreatV06
import Derived.Test.YtpdaekgldgoalaaGreatV03
import Derived.Test.YtpdaekgldgoalaaGreatV01
import Derived.Lib.AppendZeros
namespace Go.Proofs.YtpdaekgldgoalaaGreat
open Go.RowKit Go.Shelf
set_option linter.unusedVariables false
set_option linter.unusedSimpArgs false
set_option maxRecDepth 100000

/-- Data are read. -/
def stD (b : List UInt8) (s : RS) (size t : Int) : RS := if s.e ≠ 0 then s else ⟨wrap64 (s.a + size), (rdR b s.a size t).code, ((rdR b s.a size t).place : Nat)⟩
def vlD (b : List UInt8) (s : RS) (size t : Int) (old : List UInt8) : List UInt8 := if s.e ≠ 0 then old else joined (rdR b s.a size t).pcs

set_option maxHeartbeats 4000000 in
theorem data1_any {w : World} {lo hi gs gt : Nat} {vb : Value} {b : List UInt8} {size t : Int} (hS : Sl w lo hi vb (iz b)) (hhi : hi ≤ w.heap.size) (hbl : b.length ≤ 300000) (hs : w.cell? ⟨gs, 0, none⟩ = some (.int .i64 size)) (hw : w.cell? ⟨gt, 0, none⟩ = some (.int .i64 t)) (a : Int) (ht : (Lit.int .i64 t).wf = true) :
    Calls Tryz.prog 115 #[vb, .int .i64 a, .pointer (some ⟨gs, 0, none⟩), .pointer (some ⟨gt, 0, none⟩)] w (Tells w (.tuple #[.string (bs (joined (rdR b a size t).pcs)), .int .i64 (wrap64 (a + size)), .agg #[.int .i64 (rdR b a size t).code, .int .i64 ((rdR b a size t).place : Nat)]])) := by
  have HB0 := Lib.hid ((Below.refl w.heap.size w).alloc (Nat.le_refl _) (.cells #[.int .i64 0, .int .i64 0] 47))
  have hrd := readD_any (w := w.alloc (.cells #[.int .i64 0, .int .i64 0] 47)) (hS.below HB0.out hhi) (Nat.le_trans hhi HB0.out.size) hbl a size t ht
  obtain ⟨n, hn⟩ : ∃ n, joined (rdR b a size t).pcs = n := ⟨_, rfl⟩
  obtain ⟨f, hf⟩ : ∃ f, (rdR b a size t).code = f := ⟨_, rfl⟩
  obtain ⟨g, hg⟩ : ∃ g : Int, ((rdR b a size t).place : Nat) = g := ⟨_, rfl⟩
  rw [hn, hf, hg] at hrd
  rw [hn, hf, hg]
  have HRd := Lib.hid hrd
  have hs1 := cell_later HB0.out hs
  have hw1 := cell_later HB0.out hw
  have ls := World.block_lt_of_cell? w _ hs
  have lw := World.block_lt_of_cell? w _ hw
  simp only at ls lw
  clear hrd hn hf hg hS
  go_enter Tryz.func115, Tryz.ntmps115
  go_wp2_with fail
  refine HRd.out.mono ?_; rintro en w1 ⟨rfl, hb1⟩
  have HB1 := Lib.hid (bel_call HB0.out hb1)
  have hs2 := cell_later hb1 hs1
  simp only [World.size_alloc] at hb1
  obtain ⟨k0, k1, k3⟩ := res_cells hb1
  have hlt := below_lt hb1
  have k30 := k3 0
  have k31 := k3 1
  have lg : gs < w1.heap.size := Nat.lt_of_lt_of_le ls HB1.out.size
  clear hb1 hs1 hw1 k3
  obtain ⟨A, hA⟩ : ∃ A, wrap64 (a + size) = A := ⟨_, rfl⟩
  have hA2 : IntKind.i64.wrap (a + size) = A := by rw [← hA, IntKind.wrap_i64]; first | rfl | (unfold wrap64; rfl)
  rw [hA]
  go_wp2_with fail
  go_region
  go_wp2_with fail
  obtain ⟨z0, z1⟩ := res_set (.int .i64 f) (.int .i64 g) k0 k1
  have hb2 := bel_set2 HB1.out (Nat.le_refl _) (.int .i64 f) (.int .i64 g)
  exact bodyPost_ret (by simp [results, Tryz.results115, go_sem, z0, z1, hlt]; rfl) rfl ⟨by rw [hA], (bel_alloc hb2 _).drew⟩

set_option maxHeartbeats 8000000 in
theorem data_next {w : World} {r q o lo hi gs gt : Nat} {vb : Value} {s : RS} {l : List Value} {b : List UInt8} {size t : Int} (hR : Rdr w r vb s) (hC : Cel w q l) (ho : o < l.length) (hne : r ≠ q) {old : List UInt8} (hold : l[o] = .string (bs old)) (hS : Sl w lo hi vb (iz b)) (hhi : hi ≤ w.heap.size) (hbl : b.length ≤ 300000) (hs : w.cell? ⟨gs, 0, none⟩ = some (.int .i64 size)) (hw : w.cell? ⟨gt, 0, none⟩ = some (.int .i64 t)) (ht : (Lit.int .i64 t).wf = true) :
    Calls Tryz.prog 89 #[.pointer (some ⟨r, 0, none⟩), .pointer (some ⟨q, o, none⟩), .func (.func 115) #[] #[.pointer (some ⟨gs, 0, none⟩), .pointer (some ⟨gt, 0, none⟩)]] w (NextPost w r q o vb (stD b s size t) (l.set o (.string (bs (vlD b s size t old))))) := by
  obtain ⟨a, e, p⟩ := s
  by_cases h0 : e = 0
  · subst h0
    have e1 : stD b ⟨a, 0, p⟩ size t = ⟨wrap64 (a + size), (rdR b a size t).code, ((rdR b a size t).place : Nat)⟩ := by unfold stD; rw [if_neg (by simp)]
    have e2 : vlD b ⟨a, 0, p⟩ size t old = joined (rdR b a size t).pcs := by unfold vlD; rw [if_neg (by simp)]
    rw [e1, e2]
    have hrd := data1_any (w := w.drew) (hS.below (Below.refl w.heap.size w).drew hhi) (Nat.le_trans hhi (Nat.le_refl _)) hbl (cell_later (Below.refl _ w).drew hs) (cell_later (Below.refl _ w).drew hw) a ht
    obtain ⟨n, hn⟩ : ∃ n, joined (rdR b a size t).pcs = n := ⟨_, rfl⟩
    obtain ⟨i, hi2⟩ : ∃ i, wrap64 (a + size) = i := ⟨_, rfl⟩
    obtain ⟨f, hf⟩ : ∃ f, (rdR b a size t).code = f := ⟨_, rfl⟩
    obtain ⟨g, hg⟩ : ∃ g : Int, ((rdR b a size t).place : Nat) = g := ⟨_, rfl⟩
    rw [hn, hi2, hf, hg] at hrd
    rw [hn, hi2, hf, hg]
    clear hn hi2 hf hg e1 e2 hs hw
    have HRd := Lib.hid hrd
    clear hrd
    have HH := Lib.hid (half_start (t := ⟨i, f, g⟩) (v := .string (bs n)) hR hC ho hne hold)
    clear hR hC hold hS
    obtain ⟨c0, c1, c2, c3, fz⟩ := HH.out.rd
    simp only [if_true, if_false, Bool.false_eq_true] at c1 c2 c3
    have c2' : w.cell? ⟨r, 2, none⟩ = some (.int .i64 0) := c2
    have fz1 := fz 1
    have fz2 := fz 2
    have fz3 := fz 3
    have cq := HH.out.old
    have fq := HH.out.ce.fz o
    clear fz
    go_enter Tryz.func89, Tryz.ntmps89
    go_wp2_with fail
    refine wp_region_held_drew (S := (fun wx => wx.cell? ⟨r, 0, none⟩ = some vb)) (by kernel_rfl) HH.out.rd.c0 (fun hHeld => ?_)
    refine wpAnyH_take (i := 0) (v := ?_) rfl (by kernel_rfl) (by kernel_rfl) (by kernel_rfl) (fun _ _ _ h => h) (Or.inl ⟨by rfl, ?_⟩) (by assumption) ?_
    rotate_left 1
    · intro w hSw; (try dsimp only at hSw); go_simp; try (with_reducible rfl)
    try simp only [Act.put, List.setIfInBounds_toArray, List.set_cons_zero, List.set_cons_succ]
    refine wpAnyH_take (i := 1) (v := ?_) rfl (by kernel_rfl) (by kernel_rfl) (by kernel_rfl) (fun _ _ _ h => h) (Or.inl ⟨by rfl, ?_⟩) (by assumption) ?_
    rotate_left 1
    · intro w hSw; (try dsimp only at hSw); go_simp; try (with_reducible rfl)
    try simp only [Act.put, List.setIfInBounds_toArray, List.set_cons_zero, List.set_cons_succ]
    refine wpAnyH_take (i := 2) (v := ?_) rfl (by kernel_rfl) (by kernel_rfl) (by kernel_rfl) (fun _ _ _ h => h) (Or.inl ⟨by rfl, ?_⟩) (by assumption) ?_
    rotate_left 1
    · intro w hSw; (try dsimp only at hSw); go_simp; try (with_reducible rfl)
    try simp only [Act.put, List.setIfInBounds_toArray, List.set_cons_zero, List.set_cons_succ]
    refine wpAnyH_take (i := 3) (v := ?_) rfl (by kernel_rfl) (by kernel_rfl) (by kernel_rfl) (fun _ _ _ h => h) (Or.inl ⟨by rfl, ?_⟩) (by assumption) ?_
    rotate_left 1
    · intro w hSw; (try dsimp only at hSw); go_simp; try (with_reducible rfl)
    try simp only [Act.put, List.setIfInBounds_toArray, List.set_cons_zero, List.set_cons_succ]
    refine wpAnyH_take (i := 4) (v := ?_) rfl (by kernel_rfl) (by kernel_rfl) (by kernel_rfl) (fun _ _ _ h => h) (Or.inl ⟨by rfl, ?_⟩) (by assumption) ?_
    rotate_left 1
    · intro w hSw; (try dsimp only at hSw); go_simp; try (with_reducible rfl)
    try simp only [Act.put, List.setIfInBounds_toArray, List.set_cons_zero, List.set_cons_succ]
    refine wpAnyH_take (i := 5) (v := ?_) rfl (by kernel_rfl) (by kernel_rfl) (by kernel_rfl) (fun _ _ _ h => h) (Or.inl ⟨by rfl, ?_⟩) (by assumption) ?_
    rotate_left 1
    · intro w hSw; (try dsimp only at hSw); go_simp; try (with_reducible rfl)
    try simp only [Act.put, List.setIfInBounds_toArray, List.set_cons_zero, List.set_cons_succ]
    refine wpAnyH_take (i := 6) (v := ?_) rfl (by kernel_rfl) (by kernel_rfl) (by kernel_rfl) (fun _ _ _ h => h) (Or.inl ⟨by rfl, ?_⟩) (by assumption) ?_
    rotate_left 1
    · intro w hSw; (try dsimp only at hSw); go_simp; try (with_reducible rfl)
    try simp only [Act.put, List.setIfInBounds_toArray, List.set_cons_zero, List.set_cons_succ]
    refine wpAnyH_take (i := 7) (v := ?_) rfl (by kernel_rfl) (by kernel_rfl) (by kernel_rfl) (fun _ _ _ h => h) (Or.inl ⟨by rfl, ?_⟩) (by assumption) ?_
    rotate_left 1
    · intro w hSw; (try dsimp only at hSw); go_simp; try (with_reducible rfl)
    try simp only [Act.put, List.setIfInBounds_toArray, List.set_cons_zero, List.set_cons_succ]
    refine wpAnyH_take (i := 8) (v := ?_) rfl (by kernel_rfl) (by kernel_rfl) (by kernel_rfl) (fun _ _ _ h => h) (Or.inl ⟨by rfl, ?_⟩) (by assumption) ?_
    rotate_left 1
    · intro w hSw; (try dsimp only at hSw); go_simp; try (with_reducible rfl)
    try simp only [Act.put, List.setIfInBounds_toArray, List.set_cons_zero, List.set_cons_succ]
    refine wpAnyH_take (i := 9) (v := ?_) rfl (by kernel_rfl) (by kernel_rfl) (by kernel_rfl) (fun _ _ _ h => h) (Or.inl ⟨by rfl, ?_⟩) (by assumption) ?_
    rotate_left 1
    · intro w hSw; (try dsimp only at hSw); go_simp; try (with_reducible rfl)
    try simp only [Act.put, List.setIfInBounds_toArray, List.set_cons_zero, List.set_cons_succ]
    refine wpAnyH_take (i := 10) (v := ?_) rfl (by kernel_rfl) (by kernel_rfl) (by kernel_rfl) (fun _ _ _ h => h) (Or.inl ⟨by rfl, ?_⟩) (by assumption) ?_
    rotate_left 1
    · intro w hSw; (try dsimp only at hSw); go_simp; try (with_reducible rfl)
    try simp only [Act.put, List.setIfInBounds_toArray, List.set_cons_zero, List.set_cons_succ]
    refine wpAnyH_ready (rs := [11]) (by kernel_rfl) (by simp) ?_
    refine AllReadyH.cons rfl (fun K hK => ?_) AllReadyH.nil
    go_simp
    refine hK.out _ _ HH.out.rd.c0 (fun hHeld => ?_)
    clear hK K
    try simp only [Act.put, List.setIfInBounds_toArray, List.set_cons_zero, List.set_cons_succ]
    refine wpAnyH_ready (rs := [12]) (by kernel_rfl) (by simp) ?_
    refine AllReadyH.cons rfl (fun K hK => ?_) AllReadyH.nil
    go_simp
    refine HRd.out.mono ?_; rintro en w1 ⟨rfl, hb1⟩
    replace HH := Lib.hid (HH.out.later hb1)
    clear hb1
    try go_wp2_with fail
    refine hK.out _ _ HH.out.rd.c0 (fun hHeld => ?_)
    clear hK K
    try simp only [Act.put, List.setIfInBounds_toArray, List.set_cons_zero, List.set_cons_succ]
    clear c0 c1 c2 c3 cq fq fz1 fz2 fz3
    obtain ⟨c0, c1, c2, c3, fz⟩ := HH.out.rd
    simp only [if_true, if_false, Bool.false_eq_true] at c1 c2 c3
    have fz1 := fz 1
    have fz2 := fz 2
    have fz3 := fz 3
    have cq := HH.out.old
    have fq := HH.out.ce.fz o
    clear fz
    refine wpAnyH_take (i := 13) (v := ?_) rfl (by kernel_rfl) (by kernel_rfl) (by kernel_rfl) (fun _ _ _ h => h) (Or.inl ⟨by rfl, ?_⟩) (by assumption) ?_
    rotate_left 1
    · intro w hSw; (try dsimp only at hSw); go_simp; try (with_reducible rfl)
    try simp only [Act.put, List.setIfInBounds_toArray, List.set_cons_zero, List.set_cons_succ]
    refine wpAnyH_take (i := 14) (v := ?_) rfl (by kernel_rfl) (by kernel_rfl) (by kernel_rfl) (fun _ _ _ h => h) (Or.inl ⟨by rfl, ?_⟩) (by assumption) ?_
    rotate_left 1
    · intro w hSw; (try dsimp only at hSw); go_simp; try (with_reducible rfl)
    try simp only [Act.put, List.setIfInBounds_toArray, List.set_cons_zero, List.set_cons_succ]
    refine wpAnyH_take (i := 15) (v := ?_) rfl (by kernel_rfl) (by kernel_rfl) (by kernel_rfl) (fun _ _ _ h => h) (Or.inl ⟨by rfl, ?_⟩) (by assumption) ?_
    rotate_left 1
    · intro w hSw; (try dsimp only at hSw); go_simp; try (with_reducible rfl)
    try simp only [Act.put, List.setIfInBounds_toArray, List.set_cons_zero, List.set_cons_succ]
    refine wpAnyH_take (i := 16) (v := ?_) rfl (by kernel_rfl) (by kernel_rfl) (by kernel_rfl) (fun _ _ _ h => h) (Or.inl ⟨by rfl, ?_⟩) (by assumption) ?_
    rotate_left 1
    · intro w hSw; (try dsimp only at hSw); go_simp; try (with_reducible rfl)
    try simp only [Act.put, List.setIfInBounds_toArray, List.set_cons_zero, List.set_cons_succ]
    refine wpAnyH_take (i := 17) (v := ?_) rfl (by kernel_rfl) (by kernel_rfl) (by kernel_rfl) (fun _ _ _ h => h) (Or.inl ⟨by rfl, ?_⟩) (by assumption) ?_
    rotate_left 1
    · intro w hSw; (try dsimp only at hSw); go_simp; try (with_reducible rfl)
    try simp only [Act.put, List.setIfInBounds_toArray, List.set_cons_zero, List.set_cons_succ]
    refine wpAnyH_ready (rs := [18]) (by kernel_rfl) (by simp) ?_
    refine AllReadyH.cons rfl (fun K hK => ?_) AllReadyH.nil
    go_simp
    replace HH := Lib.hid HH.out.sq
    refine hK.out _ _ HH.out.rd.c0 (fun hHeld => ?_)
    clear hK K
    try simp only [Act.put, List.setIfInBounds_toArray, List.set_cons_zero, List.set_cons_succ]
    clear c0 c1 c2 c3 cq fq fz1 fz2 fz3
    obtain ⟨c0, c1, c2, c3, fz⟩ := HH.out.rd
    simp only [if_true, if_false, Bool.false_eq_true] at c1 c2 c3
    have fz1 := fz 1
    have fz2 := fz 2
    have fz3 := fz 3
    have cq := HH.out.old
    have fq := HH.out.ce.fz o
    clear fz
    refine wpAnyH_take (i := 19) (v := ?_) rfl (by kernel_rfl) (by kernel_rfl) (by kernel_rfl) (fun _ _ _ h => h) (Or.inl ⟨by rfl, ?_⟩) (by assumption) ?_
    rotate_left 1
    · intro w hSw; (try dsimp only at hSw); go_simp; try (with_reducible rfl)
    try simp only [Act.put, List.setIfInBounds_toArray, List.set_cons_zero, List.set_cons_succ]
    refine wpAnyH_take (i := 20) (v := ?_) rfl (by kernel_rfl) (by kernel_rfl) (by kernel_rfl) (fun _ _ _ h => h) (Or.inl ⟨by rfl, ?_⟩) (by assumption) ?_
    rotate_left 1
    · intro w hSw; (try dsimp only at hSw); go_simp; try (with_reducible rfl)
    try simp only [Act.put, List.setIfInBounds_toArray, List.set_cons_zero, List.set_cons_succ]
    refine wpAnyH_ready (rs := [21]) (by kernel_rfl) (by simp) ?_
    refine AllReadyH.cons rfl (fun K hK => ?_) AllReadyH.nil
    go_simp
    replace HH := Lib.hid HH.out.sa
    refine hK.out _ _ HH.out.rd.c0 (fun hHeld => ?_)
    clear hK K
    try simp only [Act.put, List.setIfInBounds_toArray, List.set_cons_zero, List.set_cons_succ]
    clear c0 c1 c2 c3 cq fq fz1 fz2 fz3
    obtain ⟨c0, c1, c2, c3, fz⟩ := HH.out.rd
    simp only [if_true, if_false, Bool.false_eq_true] at c1 c2 c3
    have fz1 := fz 1
    have fz2 := fz 2
    have fz3 := fz 3
    have cq := HH.out.old
    have fq := HH.out.ce.fz o
    clear fz
    refine wpAnyH_take (i := 22) (v := ?_) rfl (by kernel_rfl) (by kernel_rfl) (by kernel_rfl) (fun _ _ _ h => h) (Or.inl ⟨by rfl, ?_⟩) (by assumption) ?_
    rotate_left 1
    · intro w hSw; (try dsimp only at hSw); go_simp; try (with_reducible rfl)
    try simp only [Act.put, List.setIfInBounds_toArray, List.set_cons_zero, List.set_cons_succ]
    refine wpAnyH_take (i := 23) (v := ?_) rfl (by kernel_rfl) (by kernel_rfl) (by kernel_rfl) (fun _ _ _ h => h) (Or.inl ⟨by rfl, ?_⟩) (by assumption) ?_
    rotate_left 1
    · intro w hSw; (try dsimp only at hSw); go_simp; try (with_reducible rfl)
    try simp only [Act.put, List.setIfInBounds_toArray, List.set_cons_zero, List.set_cons_succ]
    refine wpAnyH_ready (rs := [24]) (by kernel_rfl) (by simp) ?_
    refine AllReadyH.cons rfl (fun K hK => ?_) AllReadyH.nil
    go_simp
    replace HH := Lib.hid HH.out.sf
    refine hK.out _ _ HH.out.rd.c0 (fun hHeld => ?_)
    clear hK K
    try simp only [Act.put, List.setIfInBounds_toArray, List.set_cons_zero, List.set_cons_succ]
    clear c0 c1 c2 c3 cq fq fz1 fz2 fz3
    obtain ⟨c0, c1, c2, c3, fz⟩ := HH.out.rd
    simp only [if_true, if_false, Bool.false_eq_true] at c1 c2 c3
    have fz1 := fz 1
    have fz2 := fz 2
    have fz3 := fz 3
    have cq := HH.out.old
    have fq := HH.out.ce.fz o
    clear fz
    refine wpAnyH_done (by kernel_rfl) ?_ _
    clear hHeld
    go_wp2_with fail
    go_ret
    exact half_done HH.out


  · have tE : (e == 0) = false := by simpa using h0
    have e1 : stD b ⟨a, e, p⟩ size t = ⟨a, e, p⟩ := by unfold stD; rw [if_pos h0]
    have e2 : (Value.string (bs (vlD b ⟨a, e, p⟩ size t old))) = l[o] := by rw [hold]; unfold vlD; rw [if_pos h0]
    rw [e1, e2, List.set_getElem_self]
    have HR := Lib.hid hR
    have HC := Lib.hid hC
    have c2 := hR.c2
    clear hR hC e1 e2 hS hold
    go_enter Tryz.func89, Tryz.ntmps89
    go_wp2_with fail
    go_ret
    exact ⟨rfl, HR.out, HC.out, Aside.refl _ _⟩

section
variable {w : World} {r q o lo hi : Nat} {vb : Value} {s : RS} {l : List Value} {b : List UInt8}

theorem nameM_any (hR : Rdr w r vb s) (hC : Cel w q l) (ho : o < l.length) (hne : r ≠ q) {old : List UInt8} (hold : l[o] = .string (bs old)) (hS : Sl w lo hi vb (iz b)) (hhi : hi ≤ w.heap.size) (hbl : b.length ≤ 1000000) :
    Calls Tryz.prog 81 #[.pointer (some ⟨r, 0, none⟩), .pointer (some ⟨q, o, none⟩)] w (NextPost w r q o vb (stN b s) (l.set o (.string (bs (vlN b s old))))) := by
  have HN := Lib.hid (name_next hR hC ho hne hold hS hhi hbl)
  clear hR hC hS
  go_enter Tryz.func81, Tryz.ntmps81
  go_wp2_with fail
  refine HN.out.mono ?_; rintro en w1 ⟨rfl, h1, h2, h3⟩
  have HP := Lib.hid (And.intro h1 (And.intro h2 h3))
  clear h1 h2 h3
  go_wp2_with fail
  go_ret
  exact ⟨rfl, HP.out⟩

theorem twoM_any (hR : Rdr w r vb s) (hC : Cel w q l) (ho : o < l.length) (hne : r ≠ q) {old : Int} (hold : l[o] = .int .i64 old) (hS : Sl w lo hi vb (iz b)) (hhi : hi ≤ w.heap.size) (hbl : b.length ≤ 1000000) :
    Calls Tryz.prog 82 #[.pointer (some ⟨r, 0, none⟩), .pointer (some ⟨q, o, none⟩)] w (NextPost w r q o vb (st2 b s) (l.set o (.int .i64 (vl2 b s old)))) := by
  have HN := Lib.hid (two_next hR hC ho hne hold hS hhi hbl)
  clear hR hC hS
  go_enter Tryz.func82, Tryz.ntmps82
  go_wp2_with fail
  refine HN.out.mono ?_; rintro en w1 ⟨rfl, h1, h2, h3⟩
  have HP := Lib.hid (And.intro h1 (And.intro h2 h3))
  clear h1 h2 h3
  go_wp2_with fail
  go_ret
  exact ⟨rfl, HP.out⟩

theorem fourM_any (hR : Rdr w r vb s) (hC : Cel w q l) (ho : o < l.length) (hne : r ≠ q) {old : Int} (hold : l[o] = .int .i64 old) (hS : Sl w lo hi vb (iz b)) (hhi : hi ≤ w.heap.size) (hbl : b.length ≤ 1000000) :
    Calls Tryz.prog 109 #[.pointer (some ⟨r, 0, none⟩), .pointer (some ⟨q, o, none⟩)] w (NextPost w r q o vb (st4 b s) (l.set o (.int .i64 (vl4 b s old)))) := by
  have HN := Lib.hid (four_next hR hC ho hne hold hS hhi hbl)
  clear hR hC hS
  go_enter Tryz.func109, Tryz.ntmps109
  go_wp2_with fail
  refine HN.out.mono ?_; rintro en w1 ⟨rfl, h1, h2, h3⟩
  have HP := Lib.hid (And.intro h1 (And.intro h2 h3))
  clear h1 h2 h3
  go_wp2_with fail
  go_ret
  exact ⟨rfl, HP.out⟩

theorem dataM_any (hR : Rdr w r vb s) (hC : Cel w q l) (ho : o < l.length) (hne : r ≠ q) {old : List UInt8} (hold : l[o] = .string (bs old)) (hS : Sl w lo hi vb (iz b)) (hhi : hi ≤ w.heap.size) (hbl : b.length ≤ 300000) (size t : Int) (ht : (Lit.int .i64 t).wf = true) :
    Calls Tryz.prog 110 #[.pointer (some ⟨r, 0, none⟩), .pointer (some ⟨q, o, none⟩), .int .i64 size, .int .i64 t] w (NextPost w r q o vb (stD b s size t) (l.set o (.string (bs (vlD b s size t old))))) := by
  have a1 : Below w.heap.size w (w.alloc (.cells #[.int .i64 size] 3)) := (Below.refl _ _).alloc (Nat.le_refl _) _
  have a2 : Below w.heap.size w ((w.alloc (.cells #[.int .i64 size] 3)).alloc (.cells #[.int .i64 t] 3)) := bel_alloc a1 _
  have HN := Lib.hid (data_next (gs := w.heap.size) (gt := w.heap.size + 1) (hR.below a2) (hC.below (by omega) a2) ho hne hold (hS.below a2 hhi) (Nat.le_trans hhi a2.size) hbl (size := size) (t := t) (by simp [go_sem]) (by simp [go_sem]) ht)
  have HA := Lib.hid (Aside.of_all a2 : Aside (fun b => b = r ∨ b = q) w _)
  clear hR hC hS a1 a2
  go_enter Tryz.func110, Tryz.ntmps110
  go_wp2_with fail
  refine HN.out.mono ?_; rintro en w1 ⟨rfl, h1, h2, h3⟩
  have HP := Lib.hid (And.intro h1 (And.intro h2 (HA.out.trans h3)))
  clear h1 h2 h3
  go_wp2_with fail
  go_ret
  exact ⟨rfl, HP.out⟩
end

end Go.Proofs.YtpdaekgldgoalaaGreat

/-
  Question: what is read, the walk.
-/
namespace Go.Proofs.YtpdaekgldgoalaaGreat
open Go.RowKit Go.Shelf
set_option linter.unusedVariables false
set_option linter.unusedSimpArgs false
set_option maxRecDepth 100000

/-- The reader behind each part, and what each part comes to. -/
def s1 (b : List UInt8) (a : Int) : RS := stN b ⟨a, 0, 0⟩
def rN (b : List UInt8) (a : Int) : List UInt8 := vlN b ⟨a, 0, 0⟩ []
def s2 (b : List UInt8) (a : Int) : RS := st2 b (s1 b a)
def rT (b : List UInt8) (a : Int) : Int := vl2 b (s1 b a) 0
def s3 (b : List UInt8) (a : Int) : RS := st2 b (s2 b a)
def rC (b : List UInt8) (a : Int) : Int := vl2 b (s2 b a) 0
def s4 (b : List UInt8) (a : Int) : RS := st4 b (s3 b a)
def rL (b : List UInt8) (a : Int) : Int := vl4 b (s3 b a) 0
def s5 (b : List UInt8) (a : Int) : RS := st2 b (s4 b a)
def rZ (b : List UInt8) (a : Int) : Int := vl2 b (s4 b a) 0
def s6 (b : List UInt8) (a : Int) : RS := stD b (s5 b a) (rZ b a) (rT b a)
def rD (b : List UInt8) (a : Int) : List UInt8 := vlD b (s5 b a) (rZ b a) (rT b a) []

/-- What Question tells. -/
def quesV (b : List UInt8) (a : Int) : Value :=
  if (s3 b a).e = 0 then .tuple #[.agg #[.string (bs (rN b a)), .int .i64 (rT b a), .int .i64 (rC b a)], .int .i64 (s3 b a).a, .agg #[.int .i64 0, .int .i64 0]]
  else .tuple #[.agg #[.string ⟨#[]⟩, .int .i64 0, .int .i64 0], .int .i64 0, .agg #[.int .i64 (s3 b a).e, .int .i64 (s3 b a).p]]

theorem nx_below {w0 w w' : World} {r q : Nat} (ha : Aside (fun b => b = r ∨ b = q) w w') (hb : Below w0.heap.size w0 w) (hr : w0.heap.size ≤ r) (hq : w0.heap.size ≤ q) : Below w0.heap.size w0 w' :=
  below_aside hb ha fun b hb2 => ⟨Nat.lt_of_lt_of_le hb2 hb.size, fun hg => by rcases hg with rfl | rfl <;> omega⟩

set_option maxHeartbeats 8000000 in
theorem question_any {w : World} {lo hi : Nat} {vb : Value} {b : List UInt8} (hS : Sl w lo hi vb (iz b)) (hhi : hi ≤ w.heap.size) (hbl : b.length ≤ 300000) (a : Int) :
    Calls Tryz.prog 78 #[vb, .int .i64 a] w (Tells w (quesV b a)) := by
  have hS2 := hS
  obtain ⟨av, cv, rfl, _⟩ := hS
  have hS : Sl w lo hi (.slice av b.length cv) (iz b) := by rw [iz_len] at hS2; exact hS2
  clear hS2
  rw [iz_len]
  obtain ⟨m, hm⟩ : ∃ m, b.length = m := ⟨_, rfl⟩
  rw [hm] at hS hbl ⊢
  obtain ⟨vb, hvb⟩ : ∃ vb : Value, .slice av m cv = vb := ⟨_, rfl⟩
  have HVB := Lib.hid hvb
  rw [hvb] at hS ⊢
  clear hvb
  obtain ⟨S1, hS1⟩ : ∃ S, s1 b a = S := ⟨_, rfl⟩
  obtain ⟨S2, hS2⟩ : ∃ S, s2 b a = S := ⟨_, rfl⟩
  obtain ⟨S3, hS3⟩ : ∃ S, s3 b a = S := ⟨_, rfl⟩
  obtain ⟨n, hn⟩ : ∃ n, rN b a = n := ⟨_, rfl⟩
  obtain ⟨t, ht⟩ : ∃ t, rT b a = t := ⟨_, rfl⟩
  obtain ⟨c, hc⟩ : ∃ c, rC b a = c := ⟨_, rfl⟩
  have hV : quesV b a = if S3.e = 0 then .tuple #[.agg #[.string (bs n), .int .i64 t, .int .i64 c], .int .i64 S3.a, .agg #[.int .i64 0, .int .i64 0]]
      else .tuple #[.agg #[.string ⟨#[]⟩, .int .i64 0, .int .i64 0], .int .i64 0, .agg #[.int .i64 S3.e, .int .i64 S3.p]] := by unfold quesV; rw [hS3, hn, ht, hc]
  rw [hV]
  obtain ⟨V, hVV⟩ : ∃ V, (if S3.e = 0 then Value.tuple #[.agg #[.string (bs n), .int .i64 t, .int .i64 c], .int .i64 S3.a, .agg #[.int .i64 0, .int .i64 0]]
      else .tuple #[.agg #[.string ⟨#[]⟩, .int .i64 0, .int .i64 0], .int .i64 0, .agg #[.int .i64 S3.e, .int .i64 S3.p]]) = V := ⟨_, rfl⟩
  rw [hVV]
  have HV := Lib.hid hVV
  clear hVV
  obtain ⟨wA, hA⟩ : ∃ wA, w.alloc (.cells #[.string ⟨#[]⟩, .int .i64 0, .int .i64 0] 55) = wA := ⟨_, rfl⟩
  obtain ⟨wB, hB⟩ : ∃ wB, wA.alloc (.cells #[.int .i64 0, .int .i64 0] 47) = wB := ⟨_, rfl⟩
  obtain ⟨wC, hC⟩ : ∃ wC, wB.alloc (.cells #[.string ⟨#[]⟩, .int .i64 0, .int .i64 0] 55) = wC := ⟨_, rfl⟩
  obtain ⟨wD, hD⟩ : ∃ wD, wC.alloc (.cells #[vb, .int .i64 a, .int .i64 0, .int .i64 0] 142) = wD := ⟨_, rfl⟩
  have zA : wA.heap.size = w.heap.size + 1 := by rw [← hA]; simp
  have zB : wB.heap.size = w.heap.size + 2 := by rw [← hB, World.size_alloc, zA]
  have zC : wC.heap.size = w.heap.size + 3 := by rw [← hC, World.size_alloc, zB]
  have zD : wD.heap.size = w.heap.size + 4 := by rw [← hD, World.size_alloc, zC]
  have bA : Below w.heap.size w wA := by rw [← hA]; exact (Below.refl _ _).alloc (Nat.le_refl _) _
  have bB : Below wA.heap.size wA wB := by rw [← hB]; exact (Below.refl _ _).alloc (Nat.le_refl _) _
  have bC : Below wB.heap.size wB wC := by rw [← hC]; exact (Below.refl _ _).alloc (Nat.le_refl _) _
  have bD : Below wC.heap.size wC wD := by rw [← hD]; exact (Below.refl _ _).alloc (Nat.le_refl _) _
  have hb : Below w.heap.size w wD := bel_call (bel_call (bel_call bA bB) bC) bD
  have c0 : Cel wA w.heap.size [.string ⟨#[]⟩, .int .i64 0, .int .i64 0] := ⟨fun j hj => by
    rw [← hA]
    match j, hj with
    | 0, _ => simp [go_sem]
    | 1, _ => simp [go_sem]
    | 2, _ => simp [go_sem], fun j => by rw [← hA]; simp [go_sem]⟩
  have c1 : Cel wB (w.heap.size + 1) [.int .i64 0, .int .i64 0] := ⟨fun j hj => by
    rw [← hB, ← zA]
    match j, hj with
    | 0, _ => simp [go_sem]
    | 1, _ => simp [go_sem], fun j => by rw [← hB, ← zA]; simp [go_sem]⟩
  have c2 : Cel wC (w.heap.size + 2) [.string ⟨#[]⟩, .int .i64 0, .int .i64 0] := ⟨fun j hj => by
    rw [← hC, ← zB]
    match j, hj with
    | 0, _ => simp [go_sem]
    | 1, _ => simp [go_sem]
    | 2, _ => simp [go_sem], fun j => by rw [← hC, ← zB]; simp [go_sem]⟩
  have cr : Rdr wD (w.heap.size + 3) vb ⟨a, 0, 0⟩ := by
    rw [← hD, ← zC]
    exact ⟨by simp [go_sem], by simp [go_sem], by simp [go_sem], by simp [go_sem], fun j => by simp [go_sem]⟩
  have c0' := ((c0.below (by simp) bB).below (by simp) bC).below (by simp) bD
  have c1' := (c1.below (by simp) bC).below (by simp) bD
  have c2' := c2.below (by simp) bD
  obtain ⟨z, hz⟩ : ∃ z, w.heap.size = z := ⟨_, rfl⟩
  have HS := Lib.hid hS
  have HN := Lib.hid (nameM_any (o := 0) cr c2' (by simp) (by omega) (old := []) rfl (hS.below hb hhi) (Nat.le_trans hhi hb.size) (by omega))
  have e1 : stN b ⟨a, 0, 0⟩ = S1 := hS1
  have e2 : vlN b ⟨a, 0, 0⟩ [] = n := hn
  rw [e1, e2] at HN
  have H2 := Lib.hid (fun wx (hb2 : Below w.heap.size w wx) (hr : Rdr wx (w.heap.size + 3) vb S1) (hc : Cel wx (w.heap.size + 2) [.string (bs n), .int .i64 0, .int .i64 0]) => show Calls Tryz.prog 82 #[.pointer (some ⟨w.heap.size + 3, 0, none⟩), .pointer (some ⟨w.heap.size + 2, 1, none⟩)] wx (NextPost wx (w.heap.size + 3) (w.heap.size + 2) 1 vb S2 [.string (bs n), .int .i64 t, .int .i64 0]) from by
    have h := twoM_any (o := 1) hr hc (by simp) (by omega) (old := 0) rfl (hS.below hb2 hhi) (Nat.le_trans hhi hb2.size) (by omega)
    have g1 : st2 b S1 = S2 := by rw [← hS2, s2, hS1]
    have g2 : vl2 b S1 0 = t := by rw [← ht, rT, hS1]
    rw [g1, g2] at h
    exact h)
  have H3 := Lib.hid (fun wx (hb2 : Below w.heap.size w wx) (hr : Rdr wx (w.heap.size + 3) vb S2) (hc2 : Cel wx (w.heap.size + 2) [.string (bs n), .int .i64 t, .int .i64 0]) => show Calls Tryz.prog 82 #[.pointer (some ⟨w.heap.size + 3, 0, none⟩), .pointer (some ⟨w.heap.size + 2, 2, none⟩)] wx (NextPost wx (w.heap.size + 3) (w.heap.size + 2) 2 vb S3 [.string (bs n), .int .i64 t, .int .i64 c]) from by
    have h := twoM_any (o := 2) hr hc2 (by simp) (by omega) (old := 0) rfl (hS.below hb2 hhi) (Nat.le_trans hhi hb2.size) (by omega)
    have g1 : st2 b S2 = S3 := by rw [← hS3, s3, hS2]
    have g2 : vl2 b S2 0 = c := by rw [← hc, rC, hS2]
    rw [g1, g2] at h
    exact h)
  have HK := Lib.hid (And.intro c0' c1')
  have HB := Lib.hid hb
  clear hS1 hS2 hS3 hn ht hc hV e1 e2 c0 c1 c2 cr c0' c1' c2' bA bB bC bD hb hS
  rw [hz] at HN H2 H3 HK
  have hvb := HVB.out
  subst hvb
  go_enter Tryz.func78, Tryz.ntmps78
  go_wp2_with fail
  refine HN.out.mono ?_; rintro en w1 ⟨rfl, hr, hc, ha⟩
  have hb1 := nx_below (w0 := w) ha HB.out (by omega) (by omega)
  have HB1 := Lib.hid hb1
  have HK1 := Lib.hid (And.intro (HK.out.1.aside (by simp) ha (by omega)) (HK.out.2.aside (by simp) ha (by omega)))
  have HX := Lib.hid (H2.out _ (by rw [← hz]; exact hb1) hr hc)
  clear hr hc ha hb1 HK HB HN H2
  go_wp2_with fail
  refine HX.out.mono ?_; rintro en w2 ⟨rfl, hr, hc, ha⟩
  have hb2 := nx_below (w0 := w) ha HB1.out (by omega) (by omega)
  have HB2 := Lib.hid hb2
  have HK2 := Lib.hid (And.intro (HK1.out.1.aside (by simp) ha (by omega)) (HK1.out.2.aside (by simp) ha (by omega)))
  have HY := Lib.hid (H3.out _ (by rw [← hz]; exact hb2) hr hc)
  clear hr hc ha hb2 HK1 HB1 HX H3
  go_wp2_with fail
  refine HY.out.mono ?_; rintro en w3 ⟨rfl, hr, hc, ha⟩
  have hb3 := nx_below (w0 := w) ha HB2.out (by omega) (by omega)
  have HB3 := Lib.hid hb3
  have HK3 := Lib.hid (And.intro (HK2.out.1.aside (by simp) ha (by omega)) (HK2.out.2.aside (by simp) ha (by omega)))
  obtain ⟨a3, e3, p3⟩ := S3
  obtain ⟨r0, r1, r2, r3, rf⟩ := hr
  simp only at r1 r2 r3
  have q0 : w3.cell? ⟨z + 2, 0, none⟩ = some (.string (bs n)) := hc.c 0 (by simp)
  have q1 : w3.cell? ⟨z + 2, 1, none⟩ = some (.int .i64 t) := hc.c 1 (by simp)
  have q2 : w3.cell? ⟨z + 2, 2, none⟩ = some (.int .i64 c) := hc.c 2 (by simp)
  have k0 : w3.cell? ⟨z, 0, none⟩ = some (.string ⟨#[]⟩) := HK3.out.1.c 0 (by simp)
  have k1 : w3.cell? ⟨z, 1, none⟩ = some (.int .i64 0) := HK3.out.1.c 1 (by simp)
  have k2 : w3.cell? ⟨z, 2, none⟩ = some (.int .i64 0) := HK3.out.1.c 2 (by simp)
  have f0 := HK3.out.1.fz 0
  have f1 := HK3.out.1.fz 1
  have f2 := HK3.out.1.fz 2
  have l0 : w3.cell? ⟨z + 1, 0, none⟩ = some (.int .i64 0) := HK3.out.2.c 0 (by simp)
  have l1 : w3.cell? ⟨z + 1, 1, none⟩ = some (.int .i64 0) := HK3.out.2.c 1 (by simp)
  have g0 := HK3.out.2.fz 0
  have g1 := HK3.out.2.fz 1
  clear hc ha hb3 HK2 HB2 HY rf
  by_cases h0 : e3 = 0
  · subst h0
    rw [if_pos rfl] at HV
    go_wp2_with fail
    go_region
    have W1 := (((((HK3.out.1.set (o := 0) (by simp) (Value.string (bs n))).set (o := 1) (by simp) (Value.int .i64 t)).set (o := 2) (by simp) (Value.int .i64 c)).other (a := ⟨z + 1, 0, none⟩) (by simp) (Value.int .i64 0)).other (a := ⟨z + 1, 1, none⟩) (by simp) (Value.int .i64 0))
    have W2 := (((((HK3.out.2.other (a := ⟨z, 0, none⟩) (by simp) (Value.string (bs n))).other (a := ⟨z, 1, none⟩) (by simp) (Value.int .i64 t)).other (a := ⟨z, 2, none⟩) (by simp) (Value.int .i64 c)).set (o := 0) (by simp) (Value.int .i64 0)).set (o := 1) (by simp) (Value.int .i64 0))
    have x0 : (((((w3.setCell ⟨z, 0, none⟩ (Value.string (bs n))).setCell ⟨z, 1, none⟩ (Value.int .i64 t)).setCell ⟨z, 2, none⟩ (Value.int .i64 c)).setCell ⟨z + 1, 0, none⟩ (Value.int .i64 0)).setCell ⟨z + 1, 1, none⟩ (Value.int .i64 0)).cell? ⟨z, 0, none⟩ = some (Value.string (bs n)) := W1.c 0 (by simp)
    have x1 : (((((w3.setCell ⟨z, 0, none⟩ (Value.string (bs n))).setCell ⟨z, 1, none⟩ (Value.int .i64 t)).setCell ⟨z, 2, none⟩ (Value.int .i64 c)).setCell ⟨z + 1, 0, none⟩ (Value.int .i64 0)).setCell ⟨z + 1, 1, none⟩ (Value.int .i64 0)).cell? ⟨z, 1, none⟩ = some (Value.int .i64 t) := W1.c 1 (by simp)
    have x2 : (((((w3.setCell ⟨z, 0, none⟩ (Value.string (bs n))).setCell ⟨z, 1, none⟩ (Value.int .i64 t)).setCell ⟨z, 2, none⟩ (Value.int .i64 c)).setCell ⟨z + 1, 0, none⟩ (Value.int .i64 0)).setCell ⟨z + 1, 1, none⟩ (Value.int .i64 0)).cell? ⟨z, 2, none⟩ = some (Value.int .i64 c) := W1.c 2 (by simp)
    have y0 : (((((w3.setCell ⟨z, 0, none⟩ (Value.string (bs n))).setCell ⟨z, 1, none⟩ (Value.int .i64 t)).setCell ⟨z, 2, none⟩ (Value.int .i64 c)).setCell ⟨z + 1, 0, none⟩ (Value.int .i64 0)).setCell ⟨z + 1, 1, none⟩ (Value.int .i64 0)).cell? ⟨z + 1, 0, none⟩ = some (Value.int .i64 0) := W2.c 0 (by simp)
    have y1 : (((((w3.setCell ⟨z, 0, none⟩ (Value.string (bs n))).setCell ⟨z, 1, none⟩ (Value.int .i64 t)).setCell ⟨z, 2, none⟩ (Value.int .i64 c)).setCell ⟨z + 1, 0, none⟩ (Value.int .i64 0)).setCell ⟨z + 1, 1, none⟩ (Value.int .i64 0)).cell? ⟨z + 1, 1, none⟩ = some (Value.int .i64 0) := W2.c 1 (by simp)
    have hle : w.heap.size ≤ z := by omega
    have hle1 : w.heap.size ≤ z + 1 := by omega
    have HF := Lib.hid (((((HB3.out.setCell (p := ⟨z, 0, none⟩) hle (Value.string (bs n))).setCell (p := ⟨z, 1, none⟩) hle (Value.int .i64 t)).setCell (p := ⟨z, 2, none⟩) hle (Value.int .i64 c)).setCell (p := ⟨z + 1, 0, none⟩) hle1 (Value.int .i64 0)).setCell (p := ⟨z + 1, 1, none⟩) hle1 (Value.int .i64 0)).drew
    clear W1 W2 hle hle1
    go_wp2_with fail
    exact bodyPost_ret (by simp [results, Tryz.results78, go_sem, x0, x1, x2, y0, y1]; rfl) rfl ⟨by rw [← HV.out], HF.out⟩
  · have tE : (e3 != 0) = true := by simpa using h0
    rw [if_neg h0] at HV
    go_wp2_with fail
    go_region
    have W1 := (((((HK3.out.1.set (o := 0) (by simp) (Value.string ⟨#[]⟩)).set (o := 1) (by simp) (Value.int .i64 0)).set (o := 2) (by simp) (Value.int .i64 0)).other (a := ⟨z + 1, 0, none⟩) (by simp) (Value.int .i64 e3)).other (a := ⟨z + 1, 1, none⟩) (by simp) (Value.int .i64 p3))
    have W2 := (((((HK3.out.2.other (a := ⟨z, 0, none⟩) (by simp) (Value.string ⟨#[]⟩)).other (a := ⟨z, 1, none⟩) (by simp) (Value.int .i64 0)).other (a := ⟨z, 2, none⟩) (by simp) (Value.int .i64 0)).set (o := 0) (by simp) (Value.int .i64 e3)).set (o := 1) (by simp) (Value.int .i64 p3))
    have x0 : (((((w3.setCell ⟨z, 0, none⟩ (Value.string ⟨#[]⟩)).setCell ⟨z, 1, none⟩ (Value.int .i64 0)).setCell ⟨z, 2, none⟩ (Value.int .i64 0)).setCell ⟨z + 1, 0, none⟩ (Value.int .i64 e3)).setCell ⟨z + 1, 1, none⟩ (Value.int .i64 p3)).cell? ⟨z, 0, none⟩ = some (Value.string ⟨#[]⟩) := W1.c 0 (by simp)
    have x1 : (((((w3.setCell ⟨z, 0, none⟩ (Value.string ⟨#[]⟩)).setCell ⟨z, 1, none⟩ (Value.int .i64 0)).setCell ⟨z, 2, none⟩ (Value.int .i64 0)).setCell ⟨z + 1, 0, none⟩ (Value.int .i64 e3)).setCell ⟨z + 1, 1, none⟩ (Value.int .i64 p3)).cell? ⟨z, 1, none⟩ = some (Value.int .i64 0) := W1.c 1 (by simp)
    have x2 : (((((w3.setCell ⟨z, 0, none⟩ (Value.string ⟨#[]⟩)).setCell ⟨z, 1, none⟩ (Value.int .i64 0)).setCell ⟨z, 2, none⟩ (Value.int .i64 0)).setCell ⟨z + 1, 0, none⟩ (Value.int .i64 e3)).setCell ⟨z + 1, 1, none⟩ (Value.int .i64 p3)).cell? ⟨z, 2, none⟩ = some (Value.int .i64 0) := W1.c 2 (by simp)
    have y0 : (((((w3.setCell ⟨z, 0, none⟩ (Value.string ⟨#[]⟩)).setCell ⟨z, 1, none⟩ (Value.int .i64 0)).setCell ⟨z, 2, none⟩ (Value.int .i64 0)).setCell ⟨z + 1, 0, none⟩ (Value.int .i64 e3)).setCell ⟨z + 1, 1, none⟩ (Value.int .i64 p3)).cell? ⟨z + 1, 0, none⟩ = some (Value.int .i64 e3) := W2.c 0 (by simp)
    have y1 : (((((w3.setCell ⟨z, 0, none⟩ (Value.string ⟨#[]⟩)).setCell ⟨z, 1, none⟩ (Value.int .i64 0)).setCell ⟨z, 2, none⟩ (Value.int .i64 0)).setCell ⟨z + 1, 0, none⟩ (Value.int .i64 e3)).setCell ⟨z + 1, 1, none⟩ (Value.int .i64 p3)).cell? ⟨z + 1, 1, none⟩ = some (Value.int .i64 p3) := W2.c 1 (by simp)
    have hle : w.heap.size ≤ z := by omega
    have hle1 : w.heap.size ≤ z + 1 := by omega
    have HF := Lib.hid (((((HB3.out.setCell (p := ⟨z, 0, none⟩) hle (Value.string ⟨#[]⟩)).setCell (p := ⟨z, 1, none⟩) hle (Value.int .i64 0)).setCell (p := ⟨z, 2, none⟩) hle (Value.int .i64 0)).setCell (p := ⟨z + 1, 0, none⟩) hle1 (Value.int .i64 e3)).setCell (p := ⟨z + 1, 1, none⟩) hle1 (Value.int .i64 p3)).drew
    clear W1 W2 hle hle1
    go_wp2_with fail
    exact bodyPost_ret (by simp [results, Tryz.results78, go_sem, x0, x1, x2, y0, y1]; rfl) rfl ⟨by rw [← HV.out], HF.out⟩
end Go.Proofs.YtpdaekgldgoalaaGreat

/-
  Read: what is read, the walk.
-/
namespace Go.Proofs.YtpdaekgldgoalaaGreat
open Go.RowKit Go.Shelf
set_option linter.unusedVariables false
set_option linter.unusedSimpArgs false
set_option maxRecDepth 100000

/-- A TTL, as it is told. -/
def ttlR (l : Int) : Int := if 2147483647 < l then 0 else l

/-- What Read tells. -/
def recV (b : List UInt8) (a : Int) : Value :=
  if (s6 b a).e = 0 then .tuple #[.agg #[.string (bs (rN b a)), .int .i64 (rT b a), .int .i64 (rC b a), .int .i64 (ttlR (rL b a)), .string (bs (rD b a))], .int .i64 (s6 b a).a, .agg #[.int .i64 0, .int .i64 0]]
  else .tuple #[.agg #[.string ⟨#[]⟩, .int .i64 0, .int .i64 0, .int .i64 0, .string ⟨#[]⟩], .int .i64 0, .agg #[.int .i64 (s6 b a).e, .int .i64 (s6 b a).p]]

theorem num2_lt (x y : Int) (hx : 0 ≤ x ∧ x < 256) (hy : 0 ≤ y ∧ y < 256) : 0 ≤ num2 x y ∧ num2 x y ≤ 65535 := by unfold num2; omega

theorem vl2_lt (b : List UInt8) (s : RS) : 0 ≤ vl2 b s 0 ∧ vl2 b s 0 ≤ 65535 := by
  unfold vl2
  split
  · decide
  · unfold getF
    split
    · rename_i h
      unfold nAt2
      have hg : ∀ k, 0 ≤ (iz b).getD k 0 ∧ (iz b).getD k 0 < 256 := fun k => by
        rcases Nat.lt_or_ge k b.length with hk | hk
        · rw [iz_get b k hk]
          have : b[k].toNat < 256 := b[k].toNat_lt
          omega
        · rw [List.getD, List.getElem?_eq_none (by rw [iz_len]; exact hk)]; decide
      exact num2_lt _ _ (hg _) (hg _)
    · decide

set_option maxHeartbeats 16000000 in
theorem readC_any {w : World} {lo hi : Nat} {vb : Value} {b : List UInt8} (hS : Sl w lo hi vb (iz b)) (hhi : hi ≤ w.heap.size) (hbl : b.length ≤ 300000) (a : Int) :
    Calls Tryz.prog 106 #[vb, .int .i64 a] w (Tells w (recV b a)) := by
  have hS2 := hS
  obtain ⟨av, cv, rfl, _⟩ := hS
  have hS : Sl w lo hi (.slice av b.length cv) (iz b) := by rw [iz_len] at hS2; exact hS2
  clear hS2
  rw [iz_len]
  obtain ⟨m, hm⟩ : ∃ m, b.length = m := ⟨_, rfl⟩
  rw [hm] at hS hbl ⊢
  obtain ⟨vb, hvb⟩ : ∃ vb : Value, .slice av m cv = vb := ⟨_, rfl⟩
  have HVB := Lib.hid hvb
  rw [hvb] at hS ⊢
  clear hvb
  obtain ⟨S1, hS1⟩ : ∃ S, s1 b a = S := ⟨_, rfl⟩
  obtain ⟨S2, hS2⟩ : ∃ S, s2 b a = S := ⟨_, rfl⟩
  obtain ⟨S3, hS3⟩ : ∃ S, s3 b a = S := ⟨_, rfl⟩
  obtain ⟨S4, hS4⟩ : ∃ S, s4 b a = S := ⟨_, rfl⟩
  obtain ⟨S5, hS5⟩ : ∃ S, s5 b a = S := ⟨_, rfl⟩
  obtain ⟨S6, hS6⟩ : ∃ S, s6 b a = S := ⟨_, rfl⟩
  obtain ⟨n, hn⟩ : ∃ n, rN b a = n := ⟨_, rfl⟩
  obtain ⟨t, ht⟩ : ∃ t, rT b a = t := ⟨_, rfl⟩
  obtain ⟨c, hc⟩ : ∃ c, rC b a = c := ⟨_, rfl⟩
  obtain ⟨l, hl⟩ : ∃ l, rL b a = l := ⟨_, rfl⟩
  obtain ⟨y, hy⟩ : ∃ y, rZ b a = y := ⟨_, rfl⟩
  obtain ⟨d, hd⟩ : ∃ d, rD b a = d := ⟨_, rfl⟩
  have hwt : (Lit.int .i64 t).wf = true := by
    have h := vl2_lt b (s1 b a)
    have e : vl2 b (s1 b a) 0 = t := ht
    rw [e] at h
    exact WalkArith.wf_i64 (by omega)
  have hV : recV b a = if S6.e = 0 then .tuple #[.agg #[.string (bs n), .int .i64 t, .int .i64 c, .int .i64 (ttlR l), .string (bs d)], .int .i64 S6.a, .agg #[.int .i64 0, .int .i64 0]]
      else .tuple #[.agg #[.string ⟨#[]⟩, .int .i64 0, .int .i64 0, .int .i64 0, .string ⟨#[]⟩], .int .i64 0, .agg #[.int .i64 S6.e, .int .i64 S6.p]] := by unfold recV; rw [hS6, hn, ht, hc, hl, hd]
  rw [hV]
  obtain ⟨V, hVV⟩ : ∃ V, (if S6.e = 0 then Value.tuple #[.agg #[.string (bs n), .int .i64 t, .int .i64 c, .int .i64 (ttlR l), .string (bs d)], .int .i64 S6.a, .agg #[.int .i64 0, .int .i64 0]]
      else .tuple #[.agg #[.string ⟨#[]⟩, .int .i64 0, .int .i64 0, .int .i64 0, .string ⟨#[]⟩], .int .i64 0, .agg #[.int .i64 S6.e, .int .i64 S6.p]]) = V := ⟨_, rfl⟩
  rw [hVV]
  have HV := Lib.hid hVV
  clear hVV
  obtain ⟨wA, hA⟩ : ∃ wA, w.alloc (.cells #[.string ⟨#[]⟩, .int .i64 0, .int .i64 0, .int .i64 0, .string ⟨#[]⟩] 52) = wA := ⟨_, rfl⟩
  obtain ⟨wB, hB⟩ : ∃ wB, wA.alloc (.cells #[.int .i64 0, .int .i64 0] 47) = wB := ⟨_, rfl⟩
  obtain ⟨wC, hC⟩ : ∃ wC, wB.alloc (.cells #[.string ⟨#[]⟩, .int .i64 0, .int .i64 0, .int .i64 0, .string ⟨#[]⟩] 52) = wC := ⟨_, rfl⟩
  obtain ⟨wD, hD⟩ : ∃ wD, wC.alloc (.cells #[.int .i64 0] 3) = wD := ⟨_, rfl⟩
  obtain ⟨wE, hE⟩ : ∃ wE, wD.alloc (.cells #[vb, .int .i64 a, .int .i64 0, .int .i64 0] 142) = wE := ⟨_, rfl⟩
  have zA : wA.heap.size = w.heap.size + 1 := by rw [← hA]; simp
  have zB : wB.heap.size = w.heap.size + 2 := by rw [← hB, World.size_alloc, zA]
  have zC : wC.heap.size = w.heap.size + 3 := by rw [← hC, World.size_alloc, zB]
  have zD : wD.heap.size = w.heap.size + 4 := by rw [← hD, World.size_alloc, zC]
  have zE : wE.heap.size = w.heap.size + 5 := by rw [← hE, World.size_alloc, zD]
  have bA : Below w.heap.size w wA := by rw [← hA]; exact (Below.refl _ _).alloc (Nat.le_refl _) _
  have bB : Below wA.heap.size wA wB := by rw [← hB]; exact (Below.refl _ _).alloc (Nat.le_refl _) _
  have bC : Below wB.heap.size wB wC := by rw [← hC]; exact (Below.refl _ _).alloc (Nat.le_refl _) _
  have bD : Below wC.heap.size wC wD := by rw [← hD]; exact (Below.refl _ _).alloc (Nat.le_refl _) _
  have bE : Below wD.heap.size wD wE := by rw [← hE]; exact (Below.refl _ _).alloc (Nat.le_refl _) _
  have hb : Below w.heap.size w wE := bel_call (bel_call (bel_call (bel_call bA bB) bC) bD) bE
  have c0 : Cel wA (w.heap.size) [.string ⟨#[]⟩, .int .i64 0, .int .i64 0, .int .i64 0, .string ⟨#[]⟩] := ⟨fun j hj => by
    rw [← hA]
    match j, hj with
    | 0, _ => simp [go_sem]
    | 1, _ => simp [go_sem]
    | 2, _ => simp [go_sem]
    | 3, _ => simp [go_sem]
    | 4, _ => simp [go_sem], fun j => by rw [← hA]; simp [go_sem]⟩
  have c1 : Cel wB (w.heap.size + 1) [.int .i64 0, .int .i64 0] := ⟨fun j hj => by
    rw [← hB, ← zA]
    match j, hj with
    | 0, _ => simp [go_sem]
    | 1, _ => simp [go_sem], fun j => by rw [← hB, ← zA]; simp [go_sem]⟩
  have c2 : Cel wC (w.heap.size + 2) [.string ⟨#[]⟩, .int .i64 0, .int .i64 0, .int .i64 0, .string ⟨#[]⟩] := ⟨fun j hj => by
    rw [← hC, ← zB]
    match j, hj with
    | 0, _ => simp [go_sem]
    | 1, _ => simp [go_sem]
    | 2, _ => simp [go_sem]
    | 3, _ => simp [go_sem]
    | 4, _ => simp [go_sem], fun j => by rw [← hC, ← zB]; simp [go_sem]⟩
  have c3 : Cel wD (w.heap.size + 3) [.int .i64 0] := ⟨fun j hj => by
    rw [← hD, ← zC]
    match j, hj with
    | 0, _ => simp [go_sem], fun j => by rw [← hD, ← zC]; simp [go_sem]⟩
  have cr : Rdr wE (w.heap.size + 4) vb ⟨a, 0, 0⟩ := by
    rw [← hE, ← zD]
    exact ⟨by simp [go_sem], by simp [go_sem], by simp [go_sem], by simp [go_sem], fun j => by simp [go_sem]⟩
  have c0' := (((c0.below (by simp) bB).below (by simp) bC).below (by simp) bD).below (by simp) bE
  have c1' := ((c1.below (by simp) bC).below (by simp) bD).below (by simp) bE
  have c2' := (c2.below (by simp) bD).below (by simp) bE
  have c3' := c3.below (by simp) bE
  obtain ⟨z, hz⟩ : ∃ z, w.heap.size = z := ⟨_, rfl⟩
  have HN := Lib.hid (nameM_any (o := 0) cr c2' (by simp) (by omega) (old := []) rfl (hS.below hb hhi) (Nat.le_trans hhi hb.size) (by omega))
  have e1 : stN b ⟨a, 0, 0⟩ = S1 := hS1
  have e2 : vlN b ⟨a, 0, 0⟩ [] = n := hn
  rw [e1, e2] at HN
  have H2 := Lib.hid (fun wx (hb2 : Below w.heap.size w wx) (hr : Rdr wx (w.heap.size + 4) vb S1) (hc2 : Cel wx (w.heap.size + 2) [.string (bs n), .int .i64 0, .int .i64 0, .int .i64 0, .string ⟨#[]⟩]) => show Calls Tryz.prog 82 #[.pointer (some ⟨w.heap.size + 4, 0, none⟩), .pointer (some ⟨w.heap.size + 2, 1, none⟩)] wx (NextPost wx (w.heap.size + 4) (w.heap.size + 2) 1 vb S2 [.string (bs n), .int .i64 t, .int .i64 0, .int .i64 0, .string ⟨#[]⟩]) from by
    have h := twoM_any (o := 1) hr hc2 (by simp) (by omega) (old := 0) rfl (hS.below hb2 hhi) (Nat.le_trans hhi hb2.size) (by omega)
    have g1 : st2 b S1 = S2 := by rw [← hS2, s2, hS1]
    have g2 : vl2 b S1 0 = t := by rw [← ht, rT, hS1]
    rw [g1, g2] at h
    exact h)
  have H3 := Lib.hid (fun wx (hb2 : Below w.heap.size w wx) (hr : Rdr wx (w.heap.size + 4) vb S2) (hc2 : Cel wx (w.heap.size + 2) [.string (bs n), .int .i64 t, .int .i64 0, .int .i64 0, .string ⟨#[]⟩]) => show Calls Tryz.prog 82 #[.pointer (some ⟨w.heap.size + 4, 0, none⟩), .pointer (some ⟨w.heap.size + 2, 2, none⟩)] wx (NextPost wx (w.heap.size + 4) (w.heap.size + 2) 2 vb S3 [.string (bs n), .int .i64 t, .int .i64 c, .int .i64 0, .string ⟨#[]⟩]) from by
    have h := twoM_any (o := 2) hr hc2 (by simp) (by omega) (old := 0) rfl (hS.below hb2 hhi) (Nat.le_trans hhi hb2.size) (by omega)
    have g1 : st2 b S2 = S3 := by rw [← hS3, s3, hS2]
    have g2 : vl2 b S2 0 = c := by rw [← hc, rC, hS2]
    rw [g1, g2] at h
    exact h)
  have H4 := Lib.hid (fun wx (hb2 : Below w.heap.size w wx) (hr : Rdr wx (w.heap.size + 4) vb S3) (hc2 : Cel wx (w.heap.size + 2) [.string (bs n), .int .i64 t, .int .i64 c, .int .i64 0, .string ⟨#[]⟩]) => show Calls Tryz.prog 109 #[.pointer (some ⟨w.heap.size + 4, 0, none⟩), .pointer (some ⟨w.heap.size + 2, 3, none⟩)] wx (NextPost wx (w.heap.size + 4) (w.heap.size + 2) 3 vb S4 [.string (bs n), .int .i64 t, .int .i64 c, .int .i64 l, .string ⟨#[]⟩]) from by
    have h := fourM_any (o := 3) hr hc2 (by simp) (by omega) (old := 0) rfl (hS.below hb2 hhi) (Nat.le_trans hhi hb2.size) (by omega)
    have g1 : st4 b S3 = S4 := by rw [← hS4, s4, hS3]
    have g2 : vl4 b S3 0 = l := by rw [← hl, rL, hS3]
    rw [g1, g2] at h
    exact h)
  have H5 := Lib.hid (fun wx (hb2 : Below w.heap.size w wx) (hr : Rdr wx (w.heap.size + 4) vb S4) (hc2 : Cel wx (w.heap.size + 3) [.int .i64 0]) => show Calls Tryz.prog 82 #[.pointer (some ⟨w.heap.size + 4, 0, none⟩), .pointer (some ⟨w.heap.size + 3, 0, none⟩)] wx (NextPost wx (w.heap.size + 4) (w.heap.size + 3) 0 vb S5 [.int .i64 y]) from by
    have h := twoM_any (o := 0) hr hc2 (by simp) (by omega) (old := 0) rfl (hS.below hb2 hhi) (Nat.le_trans hhi hb2.size) (by omega)
    have g1 : st2 b S4 = S5 := by rw [← hS5, s5, hS4]
    have g2 : vl2 b S4 0 = y := by rw [← hy, rZ, hS4]
    rw [g1, g2] at h
    exact h)
  have H6 := Lib.hid (fun wx (hb2 : Below w.heap.size w wx) (hr : Rdr wx (w.heap.size + 4) vb S5) (hc2 : Cel wx (w.heap.size + 2) [.string (bs n), .int .i64 t, .int .i64 c, .int .i64 l, .string ⟨#[]⟩]) => show Calls Tryz.prog 110 #[.pointer (some ⟨w.heap.size + 4, 0, none⟩), .pointer (some ⟨w.heap.size + 2, 4, none⟩), .int .i64 y, .int .i64 t] wx (NextPost wx (w.heap.size + 4) (w.heap.size + 2) 4 vb S6 [.string (bs n), .int .i64 t, .int .i64 c, .int .i64 l, .string (bs d)]) from by
    have h := dataM_any (o := 4) hr hc2 (by simp) (by omega) (old := []) rfl (hS.below hb2 hhi) (Nat.le_trans hhi hb2.size) (by omega) y t hwt
    have g1 : stD b S5 y t = S6 := by rw [← hS6, s6, hS5, hy, ht]
    have g2 : vlD b S5 y t [] = d := by rw [← hd, rD, hS5, hy, ht]
    rw [g1, g2] at h
    exact h)
  have HK := Lib.hid (And.intro c0' c1')
  have HQ3 := Lib.hid c3'
  have HB := Lib.hid hb
  clear hS1 hS2 hS3 hS4 hS5 hS6 hn ht hc hl hy hd hV e1 e2 c0 c1 c2 c3 cr c0' c1' c2' c3' bA bB bC bD bE hb hS
  rw [hz] at HN H2 H3 H4 H5 H6 HK HQ3
  have hvb := HVB.out
  subst hvb
  go_enter Tryz.func106, Tryz.ntmps106
  go_wp2_with fail
  refine HN.out.mono ?_; rintro en w1 ⟨rfl, hr, hc, ha⟩
  have hb1 := nx_below (w0 := w) ha HB.out (by omega) (by omega)
  have HB1 := Lib.hid hb1
  have HK1 := Lib.hid (And.intro (HK.out.1.aside (by simp) ha (by omega)) (HK.out.2.aside (by simp) ha (by omega)))
  have HQ4 := Lib.hid (HQ3.out.aside (by simp) ha (by omega))
  have HX2 := Lib.hid (H2.out _ (by rw [← hz]; exact hb1) hr hc)
  clear hr hc ha hb1 HK HB HN H2 HQ3
  go_wp2_with fail
  refine HX2.out.mono ?_; rintro en w2 ⟨rfl, hr, hc, ha⟩
  have hb2 := nx_below (w0 := w) ha HB1.out (by omega) (by omega)
  have HB2 := Lib.hid hb2
  have HK2 := Lib.hid (And.intro (HK1.out.1.aside (by simp) ha (by omega)) (HK1.out.2.aside (by simp) ha (by omega)))
  have HQ5 := Lib.hid (HQ4.out.aside (by simp) ha (by omega))
  have HX3 := Lib.hid (H3.out _ (by rw [← hz]; exact hb2) hr hc)
  clear hr hc ha hb2 HK1 HB1 HX2 H3 HQ4
  go_wp2_with fail
  refine HX3.out.mono ?_; rintro en w3 ⟨rfl, hr, hc, ha⟩
  have hb3 := nx_below (w0 := w) ha HB2.out (by omega) (by omega)
  have HB3 := Lib.hid hb3
  have HK3 := Lib.hid (And.intro (HK2.out.1.aside (by simp) ha (by omega)) (HK2.out.2.aside (by simp) ha (by omega)))
  have HQ6 := Lib.hid (HQ5.out.aside (by simp) ha (by omega))
  have HX4 := Lib.hid (H4.out _ (by rw [← hz]; exact hb3) hr hc)
  clear hr hc ha hb3 HK2 HB2 HX3 H4 HQ5
  go_wp2_with fail
  refine HX4.out.mono ?_; rintro en w4 ⟨rfl, hr, hc, ha⟩
  have hb4 := nx_below (w0 := w) ha HB3.out (by omega) (by omega)
  have HB4 := Lib.hid hb4
  have HK4 := Lib.hid (And.intro (HK3.out.1.aside (by simp) ha (by omega)) (HK3.out.2.aside (by simp) ha (by omega)))
  have hq := HQ6.out.aside (by simp) ha (by omega)
  have HR4 := Lib.hid hc
  have HX5 := Lib.hid (H5.out _ (by rw [← hz]; exact hb4) hr hq)
  clear hr hc ha hb4 HK3 HB3 HX4 H5 HQ6 hq
  go_wp2_with fail
  refine HX5.out.mono ?_; rintro en w5 ⟨rfl, hr, hc, ha⟩
  have hb5 := nx_below (w0 := w) ha HB4.out (by omega) (by omega)
  have HB5 := Lib.hid hb5
  have HK5 := Lib.hid (And.intro (HK4.out.1.aside (by simp) ha (by omega)) (HK4.out.2.aside (by simp) ha (by omega)))
  have hc5 := HR4.out.aside (by simp) ha (by omega)
  have u0 : w5.cell? ⟨z + 3, 0, none⟩ = some (.int .i64 y) := hc.c 0 (by simp)
  have u1 : w5.cell? ⟨z + 2, 1, none⟩ = some (.int .i64 t) := hc5.c 1 (by simp)
  have HX6 := Lib.hid (H6.out _ (by rw [← hz]; exact hb5) hr hc5)
  clear hr hc ha hb5 HK4 HB4 HX5 H6 HR4 hc5
  go_wp2_with fail
  refine HX6.out.mono ?_; rintro en w6 ⟨rfl, hr, hc, ha⟩
  have hb6 := nx_below (w0 := w) ha HB5.out (by omega) (by omega)
  have HB6 := Lib.hid hb6
  have HK6 := Lib.hid (And.intro (HK5.out.1.aside (by simp) ha (by omega)) (HK5.out.2.aside (by simp) ha (by omega)))
  obtain ⟨a3, e3, p3⟩ := S6
  obtain ⟨r0, r1, r2, r3, rf⟩ := hr
  simp only at r1 r2 r3
  clear u0 u1
  have q0 : w6.cell? ⟨z + 2, 0, none⟩ = some (.string (bs n)) := hc.c 0 (by simp)
  have q1 : w6.cell? ⟨z + 2, 1, none⟩ = some (.int .i64 t) := hc.c 1 (by simp)
  have q2 : w6.cell? ⟨z + 2, 2, none⟩ = some (.int .i64 c) := hc.c 2 (by simp)
  have q3 : w6.cell? ⟨z + 2, 3, none⟩ = some (.int .i64 l) := hc.c 3 (by simp)
  have q4 : w6.cell? ⟨z + 2, 4, none⟩ = some (.string (bs d)) := hc.c 4 (by simp)
  have qf := hc.fz 3
  have k0 : w6.cell? ⟨z, 0, none⟩ = some (.string ⟨#[]⟩) := HK6.out.1.c 0 (by simp)
  have f0 := HK6.out.1.fz 0
  have k1 : w6.cell? ⟨z, 1, none⟩ = some (.int .i64 0) := HK6.out.1.c 1 (by simp)
  have f1 := HK6.out.1.fz 1
  have k2 : w6.cell? ⟨z, 2, none⟩ = some (.int .i64 0) := HK6.out.1.c 2 (by simp)
  have f2 := HK6.out.1.fz 2
  have k3 : w6.cell? ⟨z, 3, none⟩ = some (.int .i64 0) := HK6.out.1.c 3 (by simp)
  have f3 := HK6.out.1.fz 3
  have k4 : w6.cell? ⟨z, 4, none⟩ = some (.string ⟨#[]⟩) := HK6.out.1.c 4 (by simp)
  have f4 := HK6.out.1.fz 4
  have l0 : w6.cell? ⟨z + 1, 0, none⟩ = some (.int .i64 0) := HK6.out.2.c 0 (by simp)
  have l1 : w6.cell? ⟨z + 1, 1, none⟩ = some (.int .i64 0) := HK6.out.2.c 1 (by simp)
  have g0 := HK6.out.2.fz 0
  have g1 := HK6.out.2.fz 1
  clear ha hb6 HK5 HB5 HX6 rf
  have HC6 := Lib.hid hc
  clear hc
  by_cases h0 : e3 = 0
  · subst h0
    rw [if_pos rfl] at HV
    by_cases hbig : 2147483647 < l
    · have tl : decide ((2147483647 : Int) < l) = true := by simpa using hbig
      have et : ttlR l = 0 := if_pos hbig
      rw [et] at HV
      obtain ⟨w7, hw7⟩ : ∃ w7, w6.setCell ⟨z + 2, 3, none⟩ (.int .i64 0) = w7 := ⟨_, rfl⟩
      have ha7 : Aside (fun b => b = z + 2) w6 w7 := by rw [← hw7]; exact Aside.setCell w6 (p := ⟨z + 2, 3, none⟩) _ rfl
      have hc7 : Cel w7 (z + 2) [.string (bs n), .int .i64 t, .int .i64 c, .int .i64 0, .string (bs d)] := by rw [← hw7]; exact HC6.out.set (o := 3) (by simp) (.int .i64 0)
      have HB7 := Lib.hid (below_aside HB6.out ha7 fun b hb => ⟨Nat.lt_of_lt_of_le hb HB6.out.size, by omega⟩)
      have HK7 := Lib.hid (And.intro (HK6.out.1.aside (by simp) ha7 (by omega)) (HK6.out.2.aside (by simp) ha7 (by omega)))
      have R0 := ha7.cell_lt r0 (by simp)
      have R1 := ha7.cell_lt r1 (by simp)
      have R2 := ha7.cell_lt r2 (by simp)
      have R3 := ha7.cell_lt r3 (by simp)
      have Q0 : w7.cell? ⟨z + 2, 0, none⟩ = some (.string (bs n)) := hc7.c 0 (by simp)
      have Q1 : w7.cell? ⟨z + 2, 1, none⟩ = some (.int .i64 t) := hc7.c 1 (by simp)
      have Q2 : w7.cell? ⟨z + 2, 2, none⟩ = some (.int .i64 c) := hc7.c 2 (by simp)
      have Q3 : w7.cell? ⟨z + 2, 3, none⟩ = some (.int .i64 0) := hc7.c 3 (by simp)
      have Q4 : w7.cell? ⟨z + 2, 4, none⟩ = some (.string (bs d)) := hc7.c 4 (by simp)
      have K0 : w7.cell? ⟨z, 0, none⟩ = some (.string ⟨#[]⟩) := HK7.out.1.c 0 (by simp)
      have F0 := HK7.out.1.fz 0
      have K1 : w7.cell? ⟨z, 1, none⟩ = some (.int .i64 0) := HK7.out.1.c 1 (by simp)
      have F1 := HK7.out.1.fz 1
      have K2 : w7.cell? ⟨z, 2, none⟩ = some (.int .i64 0) := HK7.out.1.c 2 (by simp)
      have F2 := HK7.out.1.fz 2
      have K3 : w7.cell? ⟨z, 3, none⟩ = some (.int .i64 0) := HK7.out.1.c 3 (by simp)
      have F3 := HK7.out.1.fz 3
      have K4 : w7.cell? ⟨z, 4, none⟩ = some (.string ⟨#[]⟩) := HK7.out.1.c 4 (by simp)
      have F4 := HK7.out.1.fz 4
      have L0 : w7.cell? ⟨z + 1, 0, none⟩ = some (.int .i64 0) := HK7.out.2.c 0 (by simp)
      have L1 : w7.cell? ⟨z + 1, 1, none⟩ = some (.int .i64 0) := HK7.out.2.c 1 (by simp)
      have G0 := HK7.out.2.fz 0
      have G1 := HK7.out.2.fz 1
      clear ha7 hc7 et
      go_wp2_with fail
      go_region
      have W1 := (((((((HK7.out.1.set (o := 0) (by simp) (Value.string (bs n))).set (o := 1) (by simp) (Value.int .i64 t)).set (o := 2) (by simp) (Value.int .i64 c)).set (o := 3) (by simp) (Value.int .i64 0)).set (o := 4) (by simp) (Value.string (bs d))).other (a := ⟨z + 1, 0, none⟩) (by simp) (Value.int .i64 0)).other (a := ⟨z + 1, 1, none⟩) (by simp) (Value.int .i64 0))
      have W2 := (((((((HK7.out.2.other (a := ⟨z, 0, none⟩) (by simp) (Value.string (bs n))).other (a := ⟨z, 1, none⟩) (by simp) (Value.int .i64 t)).other (a := ⟨z, 2, none⟩) (by simp) (Value.int .i64 c)).other (a := ⟨z, 3, none⟩) (by simp) (Value.int .i64 0)).other (a := ⟨z, 4, none⟩) (by simp) (Value.string (bs d))).set (o := 0) (by simp) (Value.int .i64 0)).set (o := 1) (by simp) (Value.int .i64 0))
      have x0 : (((((((w7.setCell ⟨z, 0, none⟩ (Value.string (bs n))).setCell ⟨z, 1, none⟩ (Value.int .i64 t)).setCell ⟨z, 2, none⟩ (Value.int .i64 c)).setCell ⟨z, 3, none⟩ (Value.int .i64 0)).setCell ⟨z, 4, none⟩ (Value.string (bs d))).setCell ⟨z + 1, 0, none⟩ (Value.int .i64 0)).setCell ⟨z + 1, 1, none⟩ (Value.int .i64 0)).cell? ⟨z, 0, none⟩ = some (Value.string (bs n)) := W1.c 0 (by simp)
      have x1 : (((((((w7.setCell ⟨z, 0, none⟩ (Value.string (bs n))).setCell ⟨z, 1, none⟩ (Value.int .i64 t)).setCell ⟨z, 2, none⟩ (Value.int .i64 c)).setCell ⟨z, 3, none⟩ (Value.int .i64 0)).setCell ⟨z, 4, none⟩ (Value.string (bs d))).setCell ⟨z + 1, 0, none⟩ (Value.int .i64 0)).setCell ⟨z + 1, 1, none⟩ (Value.int .i64 0)).cell? ⟨z, 1, none⟩ = some (Value.int .i64 t) := W1.c 1 (by simp)
      have x2 : (((((((w7.setCell ⟨z, 0, none⟩ (Value.string (bs n))).setCell ⟨z, 1, none⟩ (Value.int .i64 t)).setCell ⟨z, 2, none⟩ (Value.int .i64 c)).setCell ⟨z, 3, none⟩ (Value.int .i64 0)).setCell ⟨z, 4, none⟩ (Value.string (bs d))).setCell ⟨z + 1, 0, none⟩ (Value.int .i64 0)).setCell ⟨z + 1, 1, none⟩ (Value.int .i64 0)).cell? ⟨z, 2, none⟩ = some (Value.int .i64 c) := W1.c 2 (by simp)
      have x3 : (((((((w7.setCell ⟨z, 0, none⟩ (Value.string (bs n))).setCell ⟨z, 1, none⟩ (Value.int .i64 t)).setCell ⟨z, 2, none⟩ (Value.int .i64 c)).setCell ⟨z, 3, none⟩ (Value.int .i64 0)).setCell ⟨z, 4, none⟩ (Value.string (bs d))).setCell ⟨z + 1, 0, none⟩ (Value.int .i64 0)).setCell ⟨z + 1, 1, none⟩ (Value.int .i64 0)).cell? ⟨z, 3, none⟩ = some (Value.int .i64 0) := W1.c 3 (by simp)
      have x4 : (((((((w7.setCell ⟨z, 0, none⟩ (Value.string (bs n))).setCell ⟨z, 1, none⟩ (Value.int .i64 t)).setCell ⟨z, 2, none⟩ (Value.int .i64 c)).setCell ⟨z, 3, none⟩ (Value.int .i64 0)).setCell ⟨z, 4, none⟩ (Value.string (bs d))).setCell ⟨z + 1, 0, none⟩ (Value.int .i64 0)).setCell ⟨z + 1, 1, none⟩ (Value.int .i64 0)).cell? ⟨z, 4, none⟩ = some (Value.string (bs d)) := W1.c 4 (by simp)
      have y0 : (((((((w7.setCell ⟨z, 0, none⟩ (Value.string (bs n))).setCell ⟨z, 1, none⟩ (Value.int .i64 t)).setCell ⟨z, 2, none⟩ (Value.int .i64 c)).setCell ⟨z, 3, none⟩ (Value.int .i64 0)).setCell ⟨z, 4, none⟩ (Value.string (bs d))).setCell ⟨z + 1, 0, none⟩ (Value.int .i64 0)).setCell ⟨z + 1, 1, none⟩ (Value.int .i64 0)).cell? ⟨z + 1, 0, none⟩ = some (Value.int .i64 0) := W2.c 0 (by simp)
      have y1 : (((((((w7.setCell ⟨z, 0, none⟩ (Value.string (bs n))).setCell ⟨z, 1, none⟩ (Value.int .i64 t)).setCell ⟨z, 2, none⟩ (Value.int .i64 c)).setCell ⟨z, 3, none⟩ (Value.int .i64 0)).setCell ⟨z, 4, none⟩ (Value.string (bs d))).setCell ⟨z + 1, 0, none⟩ (Value.int .i64 0)).setCell ⟨z + 1, 1, none⟩ (Value.int .i64 0)).cell? ⟨z + 1, 1, none⟩ = some (Value.int .i64 0) := W2.c 1 (by simp)
      have hle : w.heap.size ≤ z := by omega
      have hle1 : w.heap.size ≤ z + 1 := by omega
      have HF := Lib.hid (((((((HB7.out.setCell (p := ⟨z, 0, none⟩) hle (Value.string (bs n))).setCell (p := ⟨z, 1, none⟩) hle (Value.int .i64 t)).setCell (p := ⟨z, 2, none⟩) hle (Value.int .i64 c)).setCell (p := ⟨z, 3, none⟩) hle (Value.int .i64 0)).setCell (p := ⟨z, 4, none⟩) hle (Value.string (bs d))).setCell (p := ⟨z + 1, 0, none⟩) hle1 (Value.int .i64 0)).setCell (p := ⟨z + 1, 1, none⟩) hle1 (Value.int .i64 0)).drew
      clear W1 W2 hle hle1
      go_wp2_with fail
      exact bodyPost_ret (by simp [results, Tryz.results106, go_sem, x0, x1, x2, x3, x4, y0, y1]; rfl) rfl ⟨by rw [← HV.out], HF.out⟩

    · have tl : decide ((2147483647 : Int) < l) = false := by simpa using hbig
      have et : ttlR l = l := if_neg hbig
      rw [et] at HV
      clear et
      go_wp2_with fail
      go_region
      have W1 := (((((((HK6.out.1.set (o := 0) (by simp) (Value.string (bs n))).set (o := 1) (by simp) (Value.int .i64 t)).set (o := 2) (by simp) (Value.int .i64 c)).set (o := 3) (by simp) (Value.int .i64 l)).set (o := 4) (by simp) (Value.string (bs d))).other (a := ⟨z + 1, 0, none⟩) (by simp) (Value.int .i64 0)).other (a := ⟨z + 1, 1, none⟩) (by simp) (Value.int .i64 0))
      have W2 := (((((((HK6.out.2.other (a := ⟨z, 0, none⟩) (by simp) (Value.string (bs n))).other (a := ⟨z, 1, none⟩) (by simp) (Value.int .i64 t)).other (a := ⟨z, 2, none⟩) (by simp) (Value.int .i64 c)).other (a := ⟨z, 3, none⟩) (by simp) (Value.int .i64 l)).other (a := ⟨z, 4, none⟩) (by simp) (Value.string (bs d))).set (o := 0) (by simp) (Value.int .i64 0)).set (o := 1) (by simp) (Value.int .i64 0))
      have x0 : (((((((w6.setCell ⟨z, 0, none⟩ (Value.string (bs n))).setCell ⟨z, 1, none⟩ (Value.int .i64 t)).setCell ⟨z, 2, none⟩ (Value.int .i64 c)).setCell ⟨z, 3, none⟩ (Value.int .i64 l)).setCell ⟨z, 4, none⟩ (Value.string (bs d))).setCell ⟨z + 1, 0, none⟩ (Value.int .i64 0)).setCell ⟨z + 1, 1, none⟩ (Value.int .i64 0)).cell? ⟨z, 0, none⟩ = some (Value.string (bs n)) := W1.c 0 (by simp)
      have x1 : (((((((w6.setCell ⟨z, 0, none⟩ (Value.string (bs n))).setCell ⟨z, 1, none⟩ (Value.int .i64 t)).setCell ⟨z, 2, none⟩ (Value.int .i64 c)).setCell ⟨z, 3, none⟩ (Value.int .i64 l)).setCell ⟨z, 4, none⟩ (Value.string (bs d))).setCell ⟨z + 1, 0, none⟩ (Value.int .i64 0)).setCell ⟨z + 1, 1, none⟩ (Value.int .i64 0)).cell? ⟨z, 1, none⟩ = some (Value.int .i64 t) := W1.c 1 (by simp)
      have x2 : (((((((w6.setCell ⟨z, 0, none⟩ (Value.string (bs n))).setCell ⟨z, 1, none⟩ (Value.int .i64 t)).setCell ⟨z, 2, none⟩ (Value.int .i64 c)).setCell ⟨z, 3, none⟩ (Value.int .i64 l)).setCell ⟨z, 4, none⟩ (Value.string (bs d))).setCell ⟨z + 1, 0, none⟩ (Value.int .i64 0)).setCell ⟨z + 1, 1, none⟩ (Value.int .i64 0)).cell? ⟨z, 2, none⟩ = some (Value.int .i64 c) := W1.c 2 (by simp)
      have x3 : (((((((w6.setCell ⟨z, 0, none⟩ (Value.string (bs n))).setCell ⟨z, 1, none⟩ (Value.int .i64 t)).setCell ⟨z, 2, none⟩ (Value.int .i64 c)).setCell ⟨z, 3, none⟩ (Value.int .i64 l)).setCell ⟨z, 4, none⟩ (Value.string (bs d))).setCell ⟨z + 1, 0, none⟩ (Value.int .i64 0)).setCell ⟨z + 1, 1, none⟩ (Value.int .i64 0)).cell? ⟨z, 3, none⟩ = some (Value.int .i64 l) := W1.c 3 (by simp)
      have x4 : (((((((w6.setCell ⟨z, 0, none⟩ (Value.string (bs n))).setCell ⟨z, 1, none⟩ (Value.int .i64 t)).setCell ⟨z, 2, none⟩ (Value.int .i64 c)).setCell ⟨z, 3, none⟩ (Value.int .i64 l)).setCell ⟨z, 4, none⟩ (Value.string (bs d))).setCell ⟨z + 1, 0, none⟩ (Value.int .i64 0)).setCell ⟨z + 1, 1, none⟩ (Value.int .i64 0)).cell? ⟨z, 4, none⟩ = some (Value.string (bs d)) := W1.c 4 (by simp)
      have y0 : (((((((w6.setCell ⟨z, 0, none⟩ (Value.string (bs n))).setCell ⟨z, 1, none⟩ (Value.int .i64 t)).setCell ⟨z, 2, none⟩ (Value.int .i64 c)).setCell ⟨z, 3, none⟩ (Value.int .i64 l)).setCell ⟨z, 4, none⟩ (Value.string (bs d))).setCell ⟨z + 1, 0, none⟩ (Value.int .i64 0)).setCell ⟨z + 1, 1, none⟩ (Value.int .i64 0)).cell? ⟨z + 1, 0, none⟩ = some (Value.int .i64 0) := W2.c 0 (by simp)
      have y1 : (((((((w6.setCell ⟨z, 0, none⟩ (Value.string (bs n))).setCell ⟨z, 1, none⟩ (Value.int .i64 t)).setCell ⟨z, 2, none⟩ (Value.int .i64 c)).setCell ⟨z, 3, none⟩ (Value.int .i64 l)).setCell ⟨z, 4, none⟩ (Value.string (bs d))).setCell ⟨z + 1, 0, none⟩ (Value.int .i64 0)).setCell ⟨z + 1, 1, none⟩ (Value.int .i64 0)).cell? ⟨z + 1, 1, none⟩ = some (Value.int .i64 0) := W2.c 1 (by simp)
      have hle : w.heap.size ≤ z := by omega
      have hle1 : w.heap.size ≤ z + 1 := by omega
      have HF := Lib.hid (((((((HB6.out.setCell (p := ⟨z, 0, none⟩) hle (Value.string (bs n))).setCell (p := ⟨z, 1, none⟩) hle (Value.int .i64 t)).setCell (p := ⟨z, 2, none⟩) hle (Value.int .i64 c)).setCell (p := ⟨z, 3, none⟩) hle (Value.int .i64 l)).setCell (p := ⟨z, 4, none⟩) hle (Value.string (bs d))).setCell (p := ⟨z + 1, 0, none⟩) hle1 (Value.int .i64 0)).setCell (p := ⟨z + 1, 1, none⟩) hle1 (Value.int .i64 0)).drew
      clear W1 W2 hle hle1
      go_wp2_with fail
      exact bodyPost_ret (by simp [results, Tryz.results106, go_sem, x0, x1, x2, x3, x4, y0, y1]; rfl) rfl ⟨by rw [← HV.out], HF.out⟩

  · have tE : (e3 != 0) = true := by simpa using h0
    rw [if_neg h0] at HV
    go_wp2_with fail
    go_region
    have W1 := (((((((HK6.out.1.set (o := 0) (by simp) (Value.string ⟨#[]⟩)).set (o := 1) (by simp) (Value.int .i64 0)).set (o := 2) (by simp) (Value.int .i64 0)).set (o := 3) (by simp) (Value.int .i64 0)).set (o := 4) (by simp) (Value.string ⟨#[]⟩)).other (a := ⟨z + 1, 0, none⟩) (by simp) (Value.int .i64 e3)).other (a := ⟨z + 1, 1, none⟩) (by simp) (Value.int .i64 p3))
    have W2 := (((((((HK6.out.2.other (a := ⟨z, 0, none⟩) (by simp) (Value.string ⟨#[]⟩)).other (a := ⟨z, 1, none⟩) (by simp) (Value.int .i64 0)).other (a := ⟨z, 2, none⟩) (by simp) (Value.int .i64 0)).other (a := ⟨z, 3, none⟩) (by simp) (Value.int .i64 0)).other (a := ⟨z, 4, none⟩) (by simp) (Value.string ⟨#[]⟩)).set (o := 0) (by simp) (Value.int .i64 e3)).set (o := 1) (by simp) (Value.int .i64 p3))
    have x0 : (((((((w6.setCell ⟨z, 0, none⟩ (Value.string ⟨#[]⟩)).setCell ⟨z, 1, none⟩ (Value.int .i64 0)).setCell ⟨z, 2, none⟩ (Value.int .i64 0)).setCell ⟨z, 3, none⟩ (Value.int .i64 0)).setCell ⟨z, 4, none⟩ (Value.string ⟨#[]⟩)).setCell ⟨z + 1, 0, none⟩ (Value.int .i64 e3)).setCell ⟨z + 1, 1, none⟩ (Value.int .i64 p3)).cell? ⟨z, 0, none⟩ = some (Value.string ⟨#[]⟩) := W1.c 0 (by simp)
    have x1 : (((((((w6.setCell ⟨z, 0, none⟩ (Value.string ⟨#[]⟩)).setCell ⟨z, 1, none⟩ (Value.int .i64 0)).setCell ⟨z, 2, none⟩ (Value.int .i64 0)).setCell ⟨z, 3, none⟩ (Value.int .i64 0)).setCell ⟨z, 4, none⟩ (Value.string ⟨#[]⟩)).setCell ⟨z + 1, 0, none⟩ (Value.int .i64 e3)).setCell ⟨z + 1, 1, none⟩ (Value.int .i64 p3)).cell? ⟨z, 1, none⟩ = some (Value.int .i64 0) := W1.c 1 (by simp)
    have x2 : (((((((w6.setCell ⟨z, 0, none⟩ (Value.string ⟨#[]⟩)).setCell ⟨z, 1, none⟩ (Value.int .i64 0)).setCell ⟨z, 2, none⟩ (Value.int .i64 0)).setCell ⟨z, 3, none⟩ (Value.int .i64 0)).setCell ⟨z, 4, none⟩ (Value.string ⟨#[]⟩)).setCell ⟨z + 1, 0, none⟩ (Value.int .i64 e3)).setCell ⟨z + 1, 1, none⟩ (Value.int .i64 p3)).cell? ⟨z, 2, none⟩ = some (Value.int .i64 0) := W1.c 2 (by simp)
    have x3 : (((((((w6.setCell ⟨z, 0, none⟩ (Value.string ⟨#[]⟩)).setCell ⟨z, 1, none⟩ (Value.int .i64 0)).setCell ⟨z, 2, none⟩ (Value.int .i64 0)).setCell ⟨z, 3, none⟩ (Value.int .i64 0)).setCell ⟨z, 4, none⟩ (Value.string ⟨#[]⟩)).setCell ⟨z + 1, 0, none⟩ (Value.int .i64 e3)).setCell ⟨z + 1, 1, none⟩ (Value.int .i64 p3)).cell? ⟨z, 3, none⟩ = some (Value.int .i64 0) := W1.c 3 (by simp)
    have x4 : (((((((w6.setCell ⟨z, 0, none⟩ (Value.string ⟨#[]⟩)).setCell ⟨z, 1, none⟩ (Value.int .i64 0)).setCell ⟨z, 2, none⟩ (Value.int .i64 0)).setCell ⟨z, 3, none⟩ (Value.int .i64 0)).setCell ⟨z, 4, none⟩ (Value.string ⟨#[]⟩)).setCell ⟨z + 1, 0, none⟩ (Value.int .i64 e3)).setCell ⟨z + 1, 1, none⟩ (Value.int .i64 p3)).cell? ⟨z, 4, none⟩ = some (Value.string ⟨#[]⟩) := W1.c 4 (by simp)
    have y0 : (((((((w6.setCell ⟨z, 0, none⟩ (Value.string ⟨#[]⟩)).setCell ⟨z, 1, none⟩ (Value.int .i64 0)).setCell ⟨z, 2, none⟩ (Value.int .i64 0)).setCell ⟨z, 3, none⟩ (Value.int .i64 0)).setCell ⟨z, 4, none⟩ (Value.string ⟨#[]⟩)).setCell ⟨z + 1, 0, none⟩ (Value.int .i64 e3)).setCell ⟨z + 1, 1, none⟩ (Value.int .i64 p3)).cell? ⟨z + 1, 0, none⟩ = some (Value.int .i64 e3) := W2.c 0 (by simp)
    have y1 : (((((((w6.setCell ⟨z, 0, none⟩ (Value.string ⟨#[]⟩)).setCell ⟨z, 1, none⟩ (Value.int .i64 0)).setCell ⟨z, 2, none⟩ (Value.int .i64 0)).setCell ⟨z, 3, none⟩ (Value.int .i64 0)).setCell ⟨z, 4, none⟩ (Value.string ⟨#[]⟩)).setCell ⟨z + 1, 0, none⟩ (Value.int .i64 e3)).setCell ⟨z + 1, 1, none⟩ (Value.int .i64 p3)).cell? ⟨z + 1, 1, none⟩ = some (Value.int .i64 p3) := W2.c 1 (by simp)
    have hle : w.heap.size ≤ z := by omega
    have hle1 : w.heap.size ≤ z + 1 := by omega
    have HF := Lib.hid (((((((HB6.out.setCell (p := ⟨z, 0, none⟩) hle (Value.string ⟨#[]⟩)).setCell (p := ⟨z, 1, none⟩) hle (Value.int .i64 0)).setCell (p := ⟨z, 2, none⟩) hle (Value.int .i64 0)).setCell (p := ⟨z, 3, none⟩) hle (Value.int .i64 0)).setCell (p := ⟨z, 4, none⟩) hle (Value.string ⟨#[]⟩)).setCell (p := ⟨z + 1, 0, none⟩) hle1 (Value.int .i64 e3)).setCell (p := ⟨z + 1, 1, none⟩) hle1 (Value.int .i64 p3)).drew
    clear W1 W2 hle hle1
    go_wp2_with fail
    exact bodyPost_ret (by simp [results, Tryz.results106, go_sem, x0, x1, x2, x3, x4, y0, y1]; rfl) rfl ⟨by rw [← HV.out], HF.out⟩
end Go.Proofs.YtpdaekgldgoalaaGreat

/-
  Rows beside each other: bytes, numbers, texts; appends to them.
-/
namespace Go.Proofs.YtpdaekgldgoalaaGreat
open Go.RowKit Go.Shelf
set_option linter.unusedVariables false
set_option maxRecDepth 100000

/-- What a row's append may turn. -/
theorem aside_grown {w w' : World} {v : Value} (h : w.grownBy w' v.ownBlock) : Aside (fun b => v.ownBlock = some b) w w' := Aside.grown h fun _ h => h

/-- append of no bytes. -/
theorem run_appB0 {w : World} (B : Nat) (v : Value) (l : List UInt8) (ad : Option Addr) (c : Nat) (hown : OwnB w B v l) :
    (Builtin.append_ #[43, 43] 43 #[v, .slice ad 0 c]).run Tryz.prog w = .ok v w := by
  obtain ⟨i0, hi, hz0, hz1, hz2⟩ := info_parts Tryz.info5
  rcases hown with ⟨rfl, rfl⟩ | ⟨g, cap, fz, rfl, hbg, hlc, hcm, hfz, hg⟩
  · cases ad <;> simp [Builtin.append_, run_underlying Tryz.underlying43, sizeOf, typeInfo, hi, Builtin.lenOf, Builtin.firstCells, loadCells, loadCellsFrom]
  · cases ad <;> simp [Builtin.append_, run_underlying Tryz.underlying43, sizeOf, typeInfo, hi, Builtin.lenOf, Builtin.firstCells, loadCells, loadCellsFrom, storeCells, hlc]

/-- append of any bytes. -/
theorem run_appBs {w : World} (B : Nat) (v xv : Value) (l l' : List UInt8) {lo hi : Nat} (hown : OwnB w B v l) (hx : Sl w lo hi xv (iz l')) (hb : l.length + l'.length ≤ 1000000) (hB : B ≤ w.heap.size) :
    ∃ a' c' w', (Builtin.append_ #[43, 43] 43 #[v, xv]).run Tryz.prog w = .ok (.slice a' (l.length + l'.length) c') w' ∧ OwnB w' B (.slice a' (l.length + l'.length) c') (l ++ l') ∧ Aside (fun b => v.ownBlock = some b) w w' := by
  rcases Nat.eq_zero_or_pos l'.length with h0 | h0
  · have : l' = [] := List.eq_nil_of_length_eq_zero h0
    subst this
    obtain ⟨ad, c, rfl, _⟩ := hx
    have h1 := run_appB0 B v l ad c hown
    obtain ⟨a', c', rfl⟩ := hown.shape
    exact ⟨a', c', w, h1, by rw [List.append_nil]; exact hown, Aside.refl _ _⟩
  · obtain ⟨v', w', h1, h2, h3, _⟩ := run_appB B v xv l l' hown hx h0 hb hB
    obtain ⟨a', c', hv⟩ := h2.shape
    rw [List.length_append] at hv
    subst hv
    exact ⟨a', c', w', h1, h2, aside_grown h3⟩

end Go.Proofs.YtpdaekgldgoalaaGreat

/-
  slices.Concat of rows of bytes.
-/
namespace Go.Proofs.YtpdaekgldgoalaaGreat
open Go.RowKit Go.Shelf
set_option linter.unusedVariables false
set_option linter.unusedSimpArgs false
set_option maxRecDepth 100000

/-- Grow of nothing: a row of the call's own, empty. -/
theorem grow_any (w : World) (n : Nat) (hn : n ≤ 1000000) :
    Calls Tryz.prog 97 #[.slice none 0 0, .int .i64 n] w fun e w' => ∃ a c, e = .returned (.slice a 0 c) ∧ OwnB w' w.heap.size (.slice a 0 c) [] ∧ Below w.heap.size w w' := by
  by_cases h0 : n = 0
  · subst h0
    go_enter Tryz.func97, Tryz.ntmps97
    go_wp2_with fail
    go_ret
    exact ⟨none, 0, rfl, OwnB.nil _ _, Below.refl _ _⟩
  · have t1 : ¬ ((n : Int) < 0) := by omega
    have t2 : (0 : Int) < n := by omega
    have e1 : wrap64 ((n : Int) - 0) = n := by rw [IntWalk.wrap64_in _ ⟨by omega, by omega⟩]; omega
    obtain ⟨i, hi, hz0, hz1, hz2⟩ := info_parts Tryz.info5
    have hr := Lib.run_append_nil_zeros (P := Tryz.prog) w 43 3 43 5 i _ .i64 .i64 Tryz.underlying43 Tryz.underlying3 hi hz0 n (by omega) (by omega) (by omega) (by rw [hz2]; omega)
    have hge := grownCap_ge w n 0 5
    obtain ⟨cap, hcap⟩ : ∃ cap, grownCap w n 0 5 = cap := ⟨_, rfl⟩
    have hml := grownCap_le_maxLen w n 0 5 (by unfold maxLen; omega)
    rw [hcap] at hr hge hml
    have hrow : (Builtin.zeroCells (Value.int .u8 0).cells n ++ Builtin.zeroCells (Value.int .u8 0).cells (cap - n)) = (rowB [] cap).toArray := by
      rw [zeroCells_one _ rfl, zeroCells_one _ rfl]
      unfold rowB
      simp [ub]
      congr 1; omega
    rw [hrow] at hr
    have HR := Lib.hid hr
    have HO : Hid (OwnB (w.drew.alloc (.cells (rowB [] cap).toArray 5)) w.heap.size (.slice (some ⟨w.heap.size, 0, none⟩) 0 cap) []) :=
      .inr ⟨w.heap.size, cap, (0, 0), rfl, Nat.le_refl _, Nat.zero_le _, hml, .inl rfl, heap_alloc_new w.drew _⟩
    clear hr hrow hcap hi hz0 hz1 hz2
    go_enter Tryz.func97, Tryz.ntmps97
    go_wp2_with (at_builtin; refine wpList_append_run (.tmp 20) (.tmp 21) 43 3 rfl rfl rfl rfl HR.out ?_)
    go_ret
    exact ⟨_, _, rfl, HO.out, (Below.refl _ w).drew.alloc (Nat.le_refl _) _⟩

theorem flat_take {ls : List (List UInt8)} {k : Nat} (h : k < ls.length) : (ls.take (k + 1)).flatten = (ls.take k).flatten ++ ls[k] := by
  rw [List.take_succ_eq_append_getElem h, List.flatten_append]
  simp
theorem flat_le (ls : List (List UInt8)) (k : Nat) : (ls.take k).flatten.length ≤ ls.flatten.length := by
  conv => rhs; rw [← List.take_append_drop k ls, List.flatten_append, List.length_append]
  omega

set_option maxHeartbeats 4000000 in
/-- Concat: the rows' bytes, one behind the other, in a row of the call's own. -/
theorem concat_any {w : World} {g lo hi n c0 : Nat} {ls : List (List UInt8)} (hn : ls.length = n) (hn6 : n ≤ 1000) (hg : g < w.heap.size) (hhi : hi ≤ w.heap.size) (hb : ls.flatten.length ≤ 900000)
    (hc : ∀ j (h : j < ls.length), ∃ a c, w.cell? ⟨g, j, none⟩ = some (.slice a ls[j].length c) ∧ Sl w lo hi (.slice a ls[j].length c) (iz ls[j])) :
    Calls Tryz.prog 86 #[.slice (some ⟨g, 0, none⟩) n c0] w fun e w' => ∃ v, e = .returned v ∧ OwnB w' w.heap.size v ls.flatten ∧ Below w.heap.size w w' := by
  have HC := Lib.hid hc
  have HN := Lib.hid hn
  obtain ⟨N, hN⟩ : ∃ N, ls.flatten.length = N := ⟨_, rfl⟩
  have HNN := Lib.hid hN
  rw [hN] at hb
  have HG := Lib.hid (fun wx => grow_any wx N (by omega))
  clear hc hN hn
  go_enter Tryz.func86, Tryz.ntmps86
  go_wp2_with fail
  go_loopg [3, 11] n (fun k v3 v11 wr => ∃ j z : Nat, j + k = n ∧ v11 = .int .i64 j ∧ v3 = .int .i64 z ∧ z ≤ N ∧ Hid ((ls.take j).flatten.length = z) ∧ w = wr)
  case atStart => exact ⟨0, 0, by omega, rfl, rfl, by omega, rfl, rfl⟩
  case round =>
    obtain ⟨j, z, hj, rfl, rfl, hz, HZ, rfl⟩ := hrel
    by_cases hlt : j < n
    · have hlt2 : j < ls.length := by have := HN.out; omega
      obtain ⟨a, c, c1, _⟩ := HC.out j hlt2
      have HZ2 := Lib.hid (show (ls.take (j + 1)).flatten.length = z + ls[j].length by rw [flat_take hlt2, List.length_append, HZ.out])
      have hle : z + ls[j].length ≤ N := by rw [← HZ2.out, ← HNN.out]; exact flat_le ls (j + 1)
      obtain ⟨m, hm⟩ : ∃ m, ls[j].length = m := ⟨_, rfl⟩
      rw [hm] at c1 hle HZ2
      clear hm
      go_wp2_with fail
      go_roundg (n - (j + 1))
      case measure => omega
      case rel => exact ⟨j + 1, z + m, by omega, by go_num, by go_num, hle, HZ2, rfl⟩
    · have hje : j = n := by omega
      subst hje
      have hzN : z = N := by rw [← HZ.out, ← HNN.out, List.take_of_length_le (by have := HN.out; omega)]
      subst hzN
      clear HZ
      go_wp2_with fail
      refine (HG.out _).mono ?_; rintro e w1 ⟨a6, c6, rfl, ho, hb1⟩
      have HO := Lib.hid ho
      have HB := Lib.hid hb1
      clear ho hb1
      go_wp2_with fail
      go_loopg [6, 27] j (fun k v6 v27 wr => ∃ (i : Nat) (acc : List UInt8) (a : Option Addr) (c : Nat), i + k = j ∧ v27 = .int .i64 i ∧ v6 = .slice a acc.length c ∧ Hid ((ls.take i).flatten = acc) ∧ Hid (OwnB wr w.heap.size (.slice a acc.length c) acc) ∧ Hid (Below w.heap.size w wr))
      case atStart => exact ⟨0, [], a6, c6, by omega, rfl, rfl, rfl, HO, HB⟩
      case round =>
        clear HO HB
        obtain ⟨i, acc, a, c, hi2, rfl, rfl, HA, HO, HB⟩ := hrel
        by_cases hlt : i < j
        · have hlt2 : i < ls.length := by have := HN.out; omega
          obtain ⟨ax, cx, c1, hs⟩ := HC.out i hlt2
          have hs2 := hs.below HB.out hhi
          have c2 := HB.out.cell (p := ⟨g, i, none⟩) hg
          rw [c1] at c2
          have HA2 := Lib.hid (show (ls.take (i + 1)).flatten = acc ++ ls[i] by rw [flat_take hlt2, HA.out])
          have hle : acc.length + ls[i].length ≤ 900000 := by
            have h1 := flat_le ls (i + 1)
            rw [HA2.out, List.length_append, HNN.out] at h1
            omega
          obtain ⟨a', c', w', hr, ho, ha⟩ := run_appBs w.heap.size _ _ acc ls[i] HO.out hs2 (by omega) HB.out.size
          have hlt3 := HO.out.lt
          have HB2 := Lib.hid (below_aside HB.out ha fun b hb => ⟨Nat.lt_of_lt_of_le hb HB.out.size, fun hg2 => by have := (hlt3 b hg2).1; omega⟩)
          have hL : (acc ++ ls[i]).length = acc.length + ls[i].length := List.length_append
          obtain ⟨x, hx⟩ : ∃ x, ls[i] = x := ⟨_, rfl⟩
          rw [hx] at hr ho c2 hs2 HA2 hL
          obtain ⟨m, hm⟩ : ∃ m, x.length = m := ⟨_, rfl⟩
          obtain ⟨y, hy⟩ : ∃ y, acc.length = y := ⟨_, rfl⟩
          rw [hm] at c2
          rw [hm, hy] at hr ho
          have HLN := Lib.hid hL
          have HR := Lib.hid hr
          have HOn := Lib.hid ho
          have HM := Lib.hid hm
          have HY := Lib.hid hy
          rw [hy]
          clear hr ho ha hs hs2 hx hL hm hy hle c1
          go_wp2_with (at_builtin; refine wpList_append_run (.tmp 31) (.tmp 32) 43 43 rfl rfl rfl rfl HR.out ?_)
          go_roundg (j - (i + 1))
          case measure => omega
          case rel => exact ⟨i + 1, acc ++ x, a', c', by omega, by go_num, by rw [HLN.out, HM.out, HY.out], HA2, by rw [HLN.out, HM.out, HY.out]; exact HOn, HB2⟩
        · have hie : i = j := by omega
          subst hie
          have hE : acc = ls.flatten := by rw [← HA.out, List.take_of_length_le (by have := HN.out; omega)]
          have HE := Lib.hid hE
          clear hE
          go_wp2_with fail
          go_ret
          exact ⟨_, rfl, HE.out ▸ HO.out, HB.out⟩
end Go.Proofs.YtpdaekgldgoalaaGreat
