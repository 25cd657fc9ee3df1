/-
  cmp.Or of two numbers; the byte at a place; where a pointer leads.
-/
import Derived.Test.YtaikpgcmcmkdcaaKa
import Derived.LoopN
namespace Go.Proofs.Ytaikpgcmcmkdcaa
open Go.RowKit Go.Shelf
set_option linter.unusedVariables false
set_option maxRecDepth 100000

set_option maxHeartbeats 400000 in
theorem or_any (g : Nat) (x y : Int) (w : World) (c0 : w.cell? ⟨g, 0, none⟩ = some (.int .i64 x)) (c1 : w.cell? ⟨g, 1, none⟩ = some (.int .i64 y)) :
    Calls Try.prog 88 #[.slice (some ⟨g, 0, none⟩) 2 2] w fun e w' => e = .returned (.int .i64 (if x = 0 then y else x)) ∧ w = w' := by
  by_cases h : x = 0
  · subst h
    by_cases hy : y = 0
    · subst hy
      go_enter Try.func88, Try.ntmps88
      go_wp2
      refine wp_loop_rounds 3 ?_
      iterate 3 (rw [rounds_succ]; go_wp2)
      go_ret
      exact ⟨rfl, rfl⟩
    · have t : (y != 0) = true := by simpa using hy
      go_enter Try.func88, Try.ntmps88
      go_wp2
      refine wp_loop_rounds 3 ?_
      iterate 2 (rw [rounds_succ]; go_wp2)
      go_ret
      exact ⟨rfl, rfl⟩
  · have t : (x != 0) = true := by simpa using h
    go_enter Try.func88, Try.ntmps88
    go_wp2
    refine wp_loop_rounds 3 ?_
    iterate 1 (rw [rounds_succ]; go_wp2)
    go_ret
    exact ⟨rfl, rfl⟩

/-- The slice at a place. -/
theorem Sl.spot {w : World} {lo hi : Nat} {v : Value} {l : List Int} (h : Sl w lo hi v l) (p : Nat) (hp : p < l.length) :
    ∃ g off c, v = .slice (some ⟨g, off, none⟩) l.length c ∧ g < hi ∧ w.cell? ⟨g, off + p, none⟩ = some (.int .u8 (l.getD p 0)) := by
  obtain ⟨a, c, rfl, _, _, hx⟩ := h
  obtain ⟨g, off, rfl, _, h2, h3⟩ := hx (by omega)
  exact ⟨g, off, c, rfl, h2, h3 p hp⟩

/-- The byte at a place, or the fault. -/
def lenV (b : List UInt8) (p : Nat) : Value :=
  if h : p < b.length then (if 64 ≤ b[p].toNat ∧ b[p].toNat < 192 then .tuple #[.int .i64 0, .agg #[.int .i64 4, .int .i64 p]] else .tuple #[.int .i64 b[p].toNat, .agg #[.int .i64 0, .int .i64 0]])
  else .tuple #[.int .i64 0, .agg #[.int .i64 4, .int .i64 p]]

set_option maxHeartbeats 400000 in
theorem length_any {w : World} {lo hi : Nat} {v : Value} {b : List UInt8} (h : Sl w lo hi v (iz b)) (p : Nat) (hp : p ≤ b.length) (hl : b.length ≤ 1000000) :
    Calls Try.prog 86 #[v, .int .i64 p] w (Tells w (lenV b p)) := by
  have HB := Lib.hid ((Below.refl w.heap.size w).alloc (Nat.le_refl _) (.cells #[.int .i64 0, .int .i64 0] 54))
  by_cases hlt : p < b.length
  · obtain ⟨g, off, c, rfl, _, hc⟩ := h.spot p (by simpa using hlt)
    have hg : g < w.heap.size := World.block_lt_of_cell? w _ hc
    rw [iz_get b p hlt] at hc
    rw [iz_len]
    have hv : lenV b p = if 64 ≤ b[p].toNat ∧ b[p].toNat < 192 then .tuple #[.int .i64 0, .agg #[.int .i64 4, .int .i64 p]] else .tuple #[.int .i64 b[p].toNat, .agg #[.int .i64 0, .int .i64 0]] := by
      unfold lenV; rw [dif_pos hlt]
    have hx : b[p].toNat < 256 := b[p].toNat_lt
    obtain ⟨x, hxe⟩ : ∃ x, b[p].toNat = x := ⟨_, rfl⟩
    rw [hxe] at hc hv hx
    clear hxe
    have t0 : ((p : Int) == b.length) = false := by simp; omega
    by_cases h1 : 64 ≤ x
    · have t1 : decide ((63 : Int) < x) = true := by simp; omega
      by_cases h2 : x < 192
      · have t2 : decide ((x : Int) < 192) = true := by simp; omega
        rw [if_pos ⟨h1, h2⟩] at hv
        rw [hv]
        go_enter Try.func86, Try.ntmps86
        go_wp2
        exact bodyPost_ret  (by simp [results, Try.results86, go_sem]) rfl ⟨rfl, (Below.refl _ _).alloc (Nat.le_refl _) _⟩
      · have t2 : decide ((x : Int) < 192) = false := by simp; omega
        rw [if_neg (fun h => h2 h.2)] at hv
        rw [hv]
        go_enter Try.func86, Try.ntmps86
        go_wp2
        exact bodyPost_ret  (by simp [results, Try.results86, go_sem]) rfl ⟨rfl, (Below.refl _ _).alloc (Nat.le_refl _) _⟩
    · have t1 : decide ((63 : Int) < x) = false := by simp; omega
      rw [if_neg (fun h => h1 h.1)] at hv
      rw [hv]
      go_enter Try.func86, Try.ntmps86
      go_wp2
      exact bodyPost_ret  (by simp [results, Try.results86, go_sem]) rfl ⟨rfl, (Below.refl _ _).alloc (Nat.le_refl _) _⟩
  · have hv : lenV b p = .tuple #[.int .i64 0, .agg #[.int .i64 4, .int .i64 p]] := by unfold lenV; rw [dif_neg hlt]
    rw [hv]
    obtain ⟨a, c, rfl, _⟩ := h
    rw [iz_len]
    have t0 : ((p : Int) == b.length) = true := by simp; omega
    go_enter Try.func86, Try.ntmps86
    go_wp2
    exact bodyPost_ret  (by simp [results, Try.results86, go_sem]) rfl ⟨rfl, (Below.refl _ _).alloc (Nat.le_refl _) _⟩

/-- Where a pointer leads, where it ends, or the fault. -/
def folV (b : List UInt8) (p part : Nat) : Value :=
  if h : p + 1 < b.length then (if part ≤ ptr b[p] b[p + 1] then .tuple #[.int .i64 0, .int .i64 0, .agg #[.int .i64 150, .int .i64 p]] else .tuple #[.int .i64 (ptr b[p] b[p + 1] : Nat), .int .i64 (p + 2 : Nat), .agg #[.int .i64 0, .int .i64 0]])
  else .tuple #[.int .i64 0, .int .i64 0, .agg #[.int .i64 4, .int .i64 b.length]]

/-- The result's cells written, something laid behind. -/
theorem res_below {w w1 : World} {o : Obj} (hb : Below (w.heap.size + 1) (w.alloc o) w1) (x y : Value) (o' : Obj) :
    Below w.heap.size w (((w1.setCell ⟨w.heap.size, 0, none⟩ x).setCell ⟨w.heap.size, 1, none⟩ y).alloc o') := by
  have h0 := ((Below.refl w.heap.size w).alloc (Nat.le_refl _) o).trans (hb.mono (Nat.le_succ _))
  have h1 := (h0.setCell (p := ⟨w.heap.size, 0, none⟩) (Nat.le_refl _) x).setCell (p := ⟨w.heap.size, 1, none⟩) (Nat.le_refl _) y
  exact h1.alloc h1.size o'

set_option maxHeartbeats 400000 in
theorem follow_any {w : World} {lo hi : Nat} {v : Value} {b : List UInt8} (h : Sl w lo hi v (iz b)) (hhi : hi ≤ w.heap.size) (p part : Nat) (hp : p < b.length) (hx : 192 ≤ b[p].toNat) (hpt : part ≤ b.length) (hl : b.length ≤ 1000000) :
    Calls Try.prog 87 #[v, .int .i64 p, .int .i64 part] w (Tells w (folV b p part)) := by
  have HB0 := Lib.hid ((Below.refl w.heap.size w).alloc (Nat.le_refl _) (.cells #[.int .i64 0, .int .i64 0] 54))
  have hs := h.below HB0.out hhi
  have HG := get16_any hs (iz_byte b) (by simpa using hl) (by simp; omega) p
  rw [iz_len] at HG
  by_cases h1 : p + 1 < b.length
  · have e1 : getF 2 b.length p (nAt2 (iz b) (p : Int).toNat) = (b[p].toNat * 256 + b[p + 1].toNat : Nat) := by
      unfold getF nAt2 num2
      rw [if_pos (by omega), Int.toNat_natCast, iz_get b p hp, iz_get b (p + 1) h1]
      omega
    have e2 : getF 2 b.length p (p + 2) = (p + 2 : Nat) := by unfold getF; rw [if_pos (by omega)]; push_cast; rfl
    have e3 : getE 2 b.length p = 0 := by unfold getE; rw [if_neg (by omega), if_neg (by omega)]
    have e4 : getA 2 b.length p = 0 := by unfold getA; rw [if_neg (by omega)]
    rw [e1, e2, e3, e4] at HG
    have hy : b[p + 1].toNat < 256 := b[p + 1].toNat_lt
    have hx2 : b[p].toNat < 256 := b[p].toNat_lt
    have hptr : ptr b[p] b[p + 1] = (b[p].toNat * 256 + b[p + 1].toNat) % 16384 := by unfold ptr; omega
    have hv : folV b p part = if part ≤ ptr b[p] b[p + 1] then .tuple #[.int .i64 0, .int .i64 0, .agg #[.int .i64 150, .int .i64 p]] else .tuple #[.int .i64 (ptr b[p] b[p + 1] : Nat), .int .i64 (p + 2 : Nat), .agg #[.int .i64 0, .int .i64 0]] := by
      unfold folV; rw [dif_pos h1]
    rw [hptr] at hv
    obtain ⟨N, hN⟩ : ∃ N, b[p].toNat * 256 + b[p + 1].toNat = N := ⟨_, rfl⟩
    rw [hN] at HG hv
    have hNb : N < 65536 := by omega
    have hrem : ((N : Int).tmod 16384) = ((N % 16384 : Nat) : Int) := by rw [Int.tmod_eq_emod_of_nonneg (by omega)]; omega
    obtain ⟨T, hT⟩ : ∃ T, N % 16384 = T := ⟨_, rfl⟩
    rw [hT] at hrem hv
    obtain ⟨e, he⟩ : ∃ e, p + 2 = e := ⟨_, rfl⟩
    rw [he] at HG hv
    have HH := Lib.hid HG
    clear hN hptr hx2 hy e1 e2 e3 e4 HG he hs h
    by_cases h2 : part ≤ T
    · have t2 : decide ((part : Int) ≤ T) = true := by simp; omega
      rw [if_pos h2] at hv
      rw [hv]
      go_enter Try.func87, Try.ntmps87
      go_wp2_with fail
      refine HH.out.mono ?_
      rintro e w1 ⟨rfl, hb⟩
      simp only [World.size_alloc] at hb
      have HB := Lib.hid hb
      have hlt := below_lt hb
      obtain ⟨k0, k1, k3⟩ := res_cells hb
      clear hb
      go_wp2_with fail
      obtain ⟨m0, m1⟩ := res_set (.int .i64 150) (.int .i64 p) k0 k1
      exact bodyPost_ret (by simp [results, Try.results87, go_sem, m0, m1, hlt]) rfl ⟨rfl, res_below HB.out _ _ _⟩
    · have t2 : decide ((part : Int) ≤ T) = false := by simp; omega
      rw [if_neg h2] at hv
      rw [hv]
      go_enter Try.func87, Try.ntmps87
      go_wp2_with fail
      refine HH.out.mono ?_
      rintro e w1 ⟨rfl, hb⟩
      simp only [World.size_alloc] at hb
      have HB := Lib.hid hb
      have hlt := below_lt hb
      obtain ⟨k0, k1, k3⟩ := res_cells hb
      clear hb
      go_wp2_with fail
      obtain ⟨m0, m1⟩ := res_set (.int .i64 0) (.int .i64 0) k0 k1
      exact bodyPost_ret (by simp [results, Try.results87, go_sem, m0, m1, hlt]) rfl ⟨rfl, res_below HB.out _ _ _⟩
  · have e1 : ∀ x, getF 2 b.length p x = 0 := fun x => by unfold getF; rw [if_neg (by omega)]
    have e3 : getE 2 b.length p = 4 := by unfold getE; rw [if_neg (by omega), if_pos (by omega)]
    have e4 : getA 2 b.length p = b.length := by unfold getA; rw [if_pos (by omega)]
    have hv : folV b p part = .tuple #[.int .i64 0, .int .i64 0, .agg #[.int .i64 4, .int .i64 b.length]] := by unfold folV; rw [dif_neg h1]
    rw [e1, e1, e3, e4] at HG
    rw [hv]
    have HH := Lib.hid HG
    clear e1 e3 e4 HG hs h
    go_enter Try.func87, Try.ntmps87
    go_wp2_with fail
    refine HH.out.mono ?_
    rintro e w1 ⟨rfl, hb⟩
    simp only [World.size_alloc] at hb
    have HB := Lib.hid hb
    have hlt := below_lt hb
    obtain ⟨k0, k1, k3⟩ := res_cells hb
    clear hb
    go_wp2_with fail
    go_region
    go_wp2_with fail
    obtain ⟨m0, m1⟩ := res_set (.int .i64 4) (.int .i64 b.length) k0 k1
    exact bodyPost_ret (by simp [results, Try.results87, go_sem, m0, m1, hlt]) rfl ⟨rfl, below_drewN (res_below HB.out _ _ _) 1⟩

end Go.Proofs.Ytaikpgcmcmkdcaa
