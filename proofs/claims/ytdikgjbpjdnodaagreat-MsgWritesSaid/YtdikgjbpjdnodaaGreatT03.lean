/-
  cmp.Or of two numbers; the byte at a place; where a pointer leads.
-/
import Derived.Test.YtdikgjbpjdnodaaGreatT02
import Derived.LoopN
import Derived.Deep.LoopGhost
import Derived.Deep.RegionHeld3
import Derived.Test.YtdikgjbpjdnodaaGreatT00
import Derived.Laws.CopyOwn
namespace Go.Proofs.YtdikgjbpjdnodaaGreat
open Go.RowKit Go.Shelf
set_option linter.unusedVariables false
set_option maxRecDepth 100000

set_option maxHeartbeats 400000 in
theorem or_any (g : Nat) (x y : Int) (w : World) (c0 : w.cell? ⟨g, 0, none⟩ = some (.int .i64 x)) (c1 : w.cell? ⟨g, 1, none⟩ = some (.int .i64 y)) :
    Calls Tryz.prog 118 #[.slice (some ⟨g, 0, none⟩) 2 2] w fun e w' => e = .returned (.int .i64 (if x = 0 then y else x)) ∧ w = w' := by
  by_cases h : x = 0
  · subst h
    by_cases hy : y = 0
    · subst hy
      go_enter Tryz.func118, Tryz.ntmps118
      go_wp2
      refine wp_loop_rounds 3 ?_
      iterate 3 (rw [rounds_succ]; go_wp2)
      go_ret
      exact ⟨rfl, rfl⟩
    · have t : (y != 0) = true := by simpa using hy
      go_enter Tryz.func118, Tryz.ntmps118
      go_wp2
      refine wp_loop_rounds 3 ?_
      iterate 2 (rw [rounds_succ]; go_wp2)
      go_ret
      exact ⟨rfl, rfl⟩
  · have t : (x != 0) = true := by simpa using h
    go_enter Tryz.func118, Tryz.ntmps118
    go_wp2
    refine wp_loop_rounds 3 ?_
    iterate 1 (rw [rounds_succ]; go_wp2)
    go_ret
    exact ⟨rfl, rfl⟩

/-- The slice at a place. -/
theorem Sl.spot {w : World} {lo hi : Nat} {v : Value} {l : List Int} (h : Sl w lo hi v l) (p : Nat) (hp : p < l.length) :
    ∃ g off c, v = .slice (some ⟨g, off, none⟩) l.length c ∧ g < hi ∧ w.cell? ⟨g, off + p, none⟩ = some (.int .u8 (l.getD p 0)) := by
  obtain ⟨a, c, rfl, _, _, hx⟩ := h
  obtain ⟨g, off, rfl, _, h2, h3⟩ := hx (by omega)
  exact ⟨g, off, c, rfl, h2, h3 p hp⟩

/-- The byte at a place, or the fault. -/
def lenV (b : List UInt8) (p : Nat) : Value :=
  if h : p < b.length then (if 64 ≤ b[p].toNat ∧ b[p].toNat < 192 then .tuple #[.int .i64 0, .agg #[.int .i64 4, .int .i64 p]] else .tuple #[.int .i64 b[p].toNat, .agg #[.int .i64 0, .int .i64 0]])
  else .tuple #[.int .i64 0, .agg #[.int .i64 4, .int .i64 p]]

set_option maxHeartbeats 400000 in
theorem length_any {w : World} {lo hi : Nat} {v : Value} {b : List UInt8} (h : Sl w lo hi v (iz b)) (p : Nat) (hp : p ≤ b.length) (hl : b.length ≤ 1000000) :
    Calls Tryz.prog 116 #[v, .int .i64 p] w (Tells w (lenV b p)) := by
  have HB := Lib.hid ((Below.refl w.heap.size w).alloc (Nat.le_refl _) (.cells #[.int .i64 0, .int .i64 0] 43))
  by_cases hlt : p < b.length
  · obtain ⟨g, off, c, rfl, _, hc⟩ := h.spot p (by simpa using hlt)
    have hg : g < w.heap.size := World.block_lt_of_cell? w _ hc
    rw [iz_get b p hlt] at hc
    rw [iz_len]
    have hv : lenV b p = if 64 ≤ b[p].toNat ∧ b[p].toNat < 192 then .tuple #[.int .i64 0, .agg #[.int .i64 4, .int .i64 p]] else .tuple #[.int .i64 b[p].toNat, .agg #[.int .i64 0, .int .i64 0]] := by
      unfold lenV; rw [dif_pos hlt]
    have hx : b[p].toNat < 256 := b[p].toNat_lt
    obtain ⟨x, hxe⟩ : ∃ x, b[p].toNat = x := ⟨_, rfl⟩
    rw [hxe] at hc hv hx
    clear hxe
    have t0 : ((p : Int) == b.length) = false := by simp; omega
    by_cases h1 : 64 ≤ x
    · have t1 : decide ((63 : Int) < x) = true := by simp; omega
      by_cases h2 : x < 192
      · have t2 : decide ((x : Int) < 192) = true := by simp; omega
        rw [if_pos ⟨h1, h2⟩] at hv
        rw [hv]
        go_enter Tryz.func116, Tryz.ntmps116
        go_wp2
        exact bodyPost_ret  (by simp [results, Tryz.results116, go_sem]) rfl ⟨rfl, (Below.refl _ _).alloc (Nat.le_refl _) _⟩
      · have t2 : decide ((x : Int) < 192) = false := by simp; omega
        rw [if_neg (fun h => h2 h.2)] at hv
        rw [hv]
        go_enter Tryz.func116, Tryz.ntmps116
        go_wp2
        exact bodyPost_ret  (by simp [results, Tryz.results116, go_sem]) rfl ⟨rfl, (Below.refl _ _).alloc (Nat.le_refl _) _⟩
    · have t1 : decide ((63 : Int) < x) = false := by simp; omega
      rw [if_neg (fun h => h1 h.1)] at hv
      rw [hv]
      go_enter Tryz.func116, Tryz.ntmps116
      go_wp2
      exact bodyPost_ret  (by simp [results, Tryz.results116, go_sem]) rfl ⟨rfl, (Below.refl _ _).alloc (Nat.le_refl _) _⟩
  · have hv : lenV b p = .tuple #[.int .i64 0, .agg #[.int .i64 4, .int .i64 p]] := by unfold lenV; rw [dif_neg hlt]
    rw [hv]
    obtain ⟨a, c, rfl, _⟩ := h
    rw [iz_len]
    have t0 : ((p : Int) == b.length) = true := by simp; omega
    go_enter Tryz.func116, Tryz.ntmps116
    go_wp2
    exact bodyPost_ret  (by simp [results, Tryz.results116, go_sem]) rfl ⟨rfl, (Below.refl _ _).alloc (Nat.le_refl _) _⟩

/-- Where a pointer leads, where it ends, or the fault. -/
def folV (b : List UInt8) (p part : Nat) : Value :=
  if h : p + 1 < b.length then (if part ≤ ptr b[p] b[p + 1] then .tuple #[.int .i64 0, .int .i64 0, .agg #[.int .i64 150, .int .i64 p]] else .tuple #[.int .i64 (ptr b[p] b[p + 1] : Nat), .int .i64 (p + 2 : Nat), .agg #[.int .i64 0, .int .i64 0]])
  else .tuple #[.int .i64 0, .int .i64 0, .agg #[.int .i64 4, .int .i64 b.length]]

/-- The result's cells written, something laid behind. -/
theorem res_below {w w1 : World} {o : Obj} (hb : Below (w.heap.size + 1) (w.alloc o) w1) (x y : Value) (o' : Obj) :
    Below w.heap.size w (((w1.setCell ⟨w.heap.size, 0, none⟩ x).setCell ⟨w.heap.size, 1, none⟩ y).alloc o') := by
  have h0 := ((Below.refl w.heap.size w).alloc (Nat.le_refl _) o).trans (hb.mono (Nat.le_succ _))
  have h1 := (h0.setCell (p := ⟨w.heap.size, 0, none⟩) (Nat.le_refl _) x).setCell (p := ⟨w.heap.size, 1, none⟩) (Nat.le_refl _) y
  exact h1.alloc h1.size o'

set_option maxHeartbeats 400000 in
theorem follow_any {w : World} {lo hi : Nat} {v : Value} {b : List UInt8} (h : Sl w lo hi v (iz b)) (hhi : hi ≤ w.heap.size) (p part : Nat) (hp : p < b.length) (hx : 192 ≤ b[p].toNat) (hpt : part ≤ b.length) (hl : b.length ≤ 1000000) :
    Calls Tryz.prog 117 #[v, .int .i64 p, .int .i64 part] w (Tells w (folV b p part)) := by
  have HB0 := Lib.hid ((Below.refl w.heap.size w).alloc (Nat.le_refl _) (.cells #[.int .i64 0, .int .i64 0] 43))
  have hs := h.below HB0.out hhi
  have HG := get16_any hs (iz_byte b) (by simpa using hl) (by simp; omega) p
  rw [iz_len] at HG
  by_cases h1 : p + 1 < b.length
  · have e1 : getF 2 b.length p (nAt2 (iz b) (p : Int).toNat) = (b[p].toNat * 256 + b[p + 1].toNat : Nat) := by
      unfold getF nAt2 num2
      rw [if_pos (by omega), Int.toNat_natCast, iz_get b p hp, iz_get b (p + 1) h1]
      omega
    have e2 : getF 2 b.length p (p + 2) = (p + 2 : Nat) := by unfold getF; rw [if_pos (by omega)]; push_cast; rfl
    have e3 : getE 2 b.length p = 0 := by unfold getE; rw [if_neg (by omega), if_neg (by omega)]
    have e4 : getA 2 b.length p = 0 := by unfold getA; rw [if_neg (by omega)]
    rw [e1, e2, e3, e4] at HG
    have hy : b[p + 1].toNat < 256 := b[p + 1].toNat_lt
    have hx2 : b[p].toNat < 256 := b[p].toNat_lt
    have hptr : ptr b[p] b[p + 1] = (b[p].toNat * 256 + b[p + 1].toNat) % 16384 := by unfold ptr; omega
    have hv : folV b p part = if part ≤ ptr b[p] b[p + 1] then .tuple #[.int .i64 0, .int .i64 0, .agg #[.int .i64 150, .int .i64 p]] else .tuple #[.int .i64 (ptr b[p] b[p + 1] : Nat), .int .i64 (p + 2 : Nat), .agg #[.int .i64 0, .int .i64 0]] := by
      unfold folV; rw [dif_pos h1]
    rw [hptr] at hv
    obtain ⟨N, hN⟩ : ∃ N, b[p].toNat * 256 + b[p + 1].toNat = N := ⟨_, rfl⟩
    rw [hN] at HG hv
    have hNb : N < 65536 := by omega
    have hrem : ((N : Int).tmod 16384) = ((N % 16384 : Nat) : Int) := by rw [Int.tmod_eq_emod_of_nonneg (by omega)]; omega
    obtain ⟨T, hT⟩ : ∃ T, N % 16384 = T := ⟨_, rfl⟩
    rw [hT] at hrem hv
    obtain ⟨e, he⟩ : ∃ e, p + 2 = e := ⟨_, rfl⟩
    rw [he] at HG hv
    have HH := Lib.hid HG
    clear hN hptr hx2 hy e1 e2 e3 e4 HG he hs h
    by_cases h2 : part ≤ T
    · have t2 : decide ((part : Int) ≤ T) = true := by simp; omega
      rw [if_pos h2] at hv
      rw [hv]
      go_enter Tryz.func117, Tryz.ntmps117
      go_wp2_with fail
      refine HH.out.mono ?_
      rintro e w1 ⟨rfl, hb⟩
      simp only [World.size_alloc] at hb
      have HB := Lib.hid hb
      have hlt := below_lt hb
      obtain ⟨k0, k1, k3⟩ := res_cells hb
      clear hb
      go_wp2_with fail
      obtain ⟨m0, m1⟩ := res_set (.int .i64 150) (.int .i64 p) k0 k1
      exact bodyPost_ret (by simp [results, Tryz.results117, go_sem, m0, m1, hlt]) rfl ⟨rfl, res_below HB.out _ _ _⟩
    · have t2 : decide ((part : Int) ≤ T) = false := by simp; omega
      rw [if_neg h2] at hv
      rw [hv]
      go_enter Tryz.func117, Tryz.ntmps117
      go_wp2_with fail
      refine HH.out.mono ?_
      rintro e w1 ⟨rfl, hb⟩
      simp only [World.size_alloc] at hb
      have HB := Lib.hid hb
      have hlt := below_lt hb
      obtain ⟨k0, k1, k3⟩ := res_cells hb
      clear hb
      go_wp2_with fail
      obtain ⟨m0, m1⟩ := res_set (.int .i64 0) (.int .i64 0) k0 k1
      exact bodyPost_ret (by simp [results, Tryz.results117, go_sem, m0, m1, hlt]) rfl ⟨rfl, res_below HB.out _ _ _⟩
  · have e1 : ∀ x, getF 2 b.length p x = 0 := fun x => by unfold getF; rw [if_neg (by omega)]
    have e3 : getE 2 b.length p = 4 := by unfold getE; rw [if_neg (by omega), if_pos (by omega)]
    have e4 : getA 2 b.length p = b.length := by unfold getA; rw [if_pos (by omega)]
    have hv : folV b p part = .tuple #[.int .i64 0, .int .i64 0, .agg #[.int .i64 4, .int .i64 b.length]] := by unfold folV; rw [dif_neg h1]
    rw [e1, e1, e3, e4] at HG
    rw [hv]
    have HH := Lib.hid HG
    clear e1 e3 e4 HG hs h
    go_enter Tryz.func117, Tryz.ntmps117
    go_wp2_with fail
    refine HH.out.mono ?_
    rintro e w1 ⟨rfl, hb⟩
    simp only [World.size_alloc] at hb
    have HB := Lib.hid hb
    have hlt := below_lt hb
    obtain ⟨k0, k1, k3⟩ := res_cells hb
    clear hb
    go_wp2_with fail
    go_region
    go_wp2_with fail
    obtain ⟨m0, m1⟩ := res_set (.int .i64 4) (.int .i64 b.length) k0 k1
    exact bodyPost_ret (by simp [results, Tryz.results117, go_sem, m0, m1, hlt]) rfl ⟨rfl, below_drewN (res_below HB.out _ _ _) 1⟩

end Go.Proofs.YtdikgjbpjdnodaaGreat

/-
  Read.
-/
namespace Go.Proofs.YtdikgjbpjdnodaaGreat
open Go.RowKit Go.Shelf
set_option linter.unusedVariables false
set_option maxRecDepth 100000

/-- Where the result's block and one behind it stand. -/
structure Rdy (w w1 : World) : Prop where
  below : Below (w.heap.size + 1) (w.alloc (.cells #[.int .i64 0, .int .i64 0] 43)) w1

theorem Rdy.lt {w w1 : World} (h : Rdy w w1) : w.heap.size < w1.heap.size := below_lt h.below
theorem Rdy.call {w w1 w2 : World} (h : Rdy w w1) (hb : Below w1.heap.size w1 w2) : Rdy w w2 := ⟨h.below.trans (hb.mono h.lt)⟩
theorem Rdy.alloc {w w1 : World} (h : Rdy w w1) (o : Obj) : Rdy w (w1.alloc o) := ⟨h.below.alloc h.lt o⟩
theorem Rdy.set {w w1 : World} (h : Rdy w w1) {p : Addr} (hp : w.heap.size < p.block) (x : Value) : Rdy w (w1.setCell p x) := ⟨h.below.setCell hp x⟩
theorem Rdy.cells {w w1 : World} (h : Rdy w w1) : w1.cell? ⟨w.heap.size, 0, none⟩ = some (.int .i64 0) ∧ w1.cell? ⟨w.heap.size, 1, none⟩ = some (.int .i64 0) ∧ ∀ j, w1.frozen? ⟨w.heap.size, j, none⟩ = false := res_cells h.below
theorem Rdy.fin {w w1 : World} (h : Rdy w w1) (x y : Value) (o : Obj) : Below w.heap.size w (((w1.setCell ⟨w.heap.size, 0, none⟩ x).setCell ⟨w.heap.size, 1, none⟩ y).alloc o) := by
  have := ((((Below.refl w.heap.size w).alloc (Nat.le_refl _) _).trans (h.below.mono (Nat.le_succ _))).setCell (p := ⟨w.heap.size, 0, none⟩) (Nat.le_refl _) x).setCell (p := ⟨w.heap.size, 1, none⟩) (Nat.le_refl _) y
  exact this.alloc this.size o
theorem Rdy.end_ {w w1 : World} (h : Rdy w w1) (x y : Value) : Below w.heap.size w ((w1.setCell ⟨w.heap.size, 0, none⟩ x).setCell ⟨w.heap.size, 1, none⟩ y) :=
  ((((Below.refl w.heap.size w).alloc (Nat.le_refl _) _).trans (h.below.mono (Nat.le_succ _))).setCell (Nat.le_refl _) x).setCell (Nat.le_refl _) y

theorem Rdy.old {w w1 : World} (h : Rdy w w1) : Below w.heap.size w w1 := ((Below.refl w.heap.size w).alloc (Nat.le_refl _) _).trans (h.below.mono (Nat.le_succ _))
theorem Rdy.on {w w1 w2 : World} (h : Rdy w w1) (hb : Below (w.heap.size + 1) w1 w2) : Rdy w w2 := ⟨h.below.trans hb⟩

/-- append of bytes that are a whole block. -/
theorem app_own {w : World} {B g : Nat} {v vl : Value} {n m : List UInt8} (HO : OwnU w B v n) (hl : Own w g vl (iz m)) (hm : 0 < m.length) (hb : n.length + m.length ≤ 1000000) (hB : B ≤ w.heap.size) :
    ∃ a' c' w', (Builtin.append_ #[28, 28] 28 #[v, vl]).run Tryz.prog w = .ok (.slice a' (n.length + m.length) c') w' ∧ OwnU w' B (.slice a' (n.length + m.length) c') (n ++ m) ∧ Below B w w' := by
  rcases hl with ⟨_, h⟩ | ⟨rfl, hh⟩
  · have := congrArg List.length h
    rw [iz_len, List.length_nil] at this
    omega
  · rw [iz_len]
    obtain ⟨a', c', w', h1, h2, h3⟩ := run_appU (w := w) B v n m g m.length HO (fun j hj => by
      have : j < (iz m).length := by simpa using hj
      rw [List.getD, List.getElem?_eq_getElem hj]
      simp only [World.cell?, hh]
      simp [iz, hj]) hb hB
    exact ⟨a', c', w', h1, h2, (Below.refl _ _).grown h3 hB HO.row⟩

/-- What octet.Bytes tells, and what is known of the worlds behind it. -/
theorem bytes_cut {w1 : World} {lo hi : Nat} {v : Value} {b : List UInt8} (h : Sl w1 lo hi v (iz b)) (hl : b.length ≤ 1000000) (p k : Nat) (hk : p + k ≤ b.length) :
    Calls Tryz.prog 119 #[v, .int .i64 p, .int .i64 k] w1 (BytesPost w1 (iz ((b.drop p).take k)) (p + k : Nat) 0 0) := by
  have := bytes_at (iz b) p k (by simpa using hl) (by simpa using hk) w1 h
  rw [iz_cut] at this
  push_cast
  exact this

theorem bytes_short {w1 : World} {lo hi : Nat} {v : Value} {b : List UInt8} (h : Sl w1 lo hi v (iz b)) (hl : b.length ≤ 1000000) (p k : Nat) (hp : p ≤ b.length) (hk : b.length < p + k) (hk2 : k ≤ 1000) :
    Calls Tryz.prog 119 #[v, .int .i64 p, .int .i64 k] w1 (BytesPost w1 [] 0 4 b.length) := by
  have := bytes_at_no (iz b) p k (by simpa using hl) (by simpa using hp) (by simpa using hk) (by omega) w1 h
  rw [iz_len] at this
  exact this

set_option maxRecDepth 100000 in
set_option maxHeartbeats 4000000 in
theorem read_core {w : World} {lo hi : Nat} {v : Value} {b : List UInt8} (h : Sl w lo hi v (iz b)) (hhi : hi ≤ w.heap.size) (hl : b.length ≤ 1000000) (a : Nat) (ha : a ≤ b.length)
    (n' : List UInt8) (x' : Nat) (e' : Int) (a' : Nat) (hR : rd b a a a 0 [] = (n', x', e', a')) :
    Calls Tryz.prog 108 #[v, .int .i64 a] w (Tells w (.tuple #[.string (bs n'), .int .i64 x', .agg #[.int .i64 e', .int .i64 a']])) := by
  have HS := Lib.hid h
  obtain ⟨ad, c, rfl, _⟩ := h
  simp only [iz_len] at HS
  rw [iz_len]
  have t0 : ¬ b.length < a := by omega
  have HR := Lib.hid hR
  clear hR
  go_enter Tryz.func108, Tryz.ntmps108
  go_wp2
  go_step3
  go_wp2
  go_step3
  go_wp2
  go_loopg [7, 8, 9] a (fun g v7 v8 v9 wr => ∃ (next : Nat) (n : List UInt8), v8 = .int .i64 g ∧ v9 = .int .i64 next ∧ g ≤ b.length ∧ n.length ≤ 254 ∧ Hid (OwnU wr (w.heap.size + 1) v7 n) ∧ Hid (rd b a g g next n = (n', x', e', a')) ∧ Hid (Rdy w wr))
  case atStart => exact ⟨0, [], rfl, rfl, ha, by simp, OwnU.nil _ _, HR.out, ⟨Below.refl _ _⟩⟩
  case round =>
    obtain ⟨next, n, rfl, rfl, hg, hn, HO, HRR, HB⟩ := hrel
    obtain ⟨g, rfl⟩ : ∃ g, g = gk := ⟨_, rfl⟩
    obtain ⟨wo, rfl⟩ : ∃ wo, wo = wr := ⟨_, rfl⟩
    go_wp2
    go_loopg [7, 8, 9, 10] (b.length - g) (fun g2 v7 v8 v9 v10 wy => ∃ (here : Nat) (n : List UInt8), v8 = .int .i64 g ∧ v9 = .int .i64 next ∧ v10 = .int .i64 here ∧ here + g2 = b.length ∧ n.length ≤ 254 ∧ Hid (OwnU wy (w.heap.size + 1) v7 n) ∧ Hid (rd b a g here next n = (n', x', e', a')) ∧ Hid (Rdy w wy))
    case atStart => exact ⟨g, n, rfl, rfl, rfl, by omega, hn, HO, HRR, HB⟩
    case round =>
      clear HO HRR HB hn n
      obtain ⟨here, n, rfl, rfl, rfl, hh, hn, HO, HRR, HB⟩ := hrel
      have HSr := Lib.hid (HS.out.below ((((Below.refl w.heap.size w).alloc (Nat.le_refl _) _).trans (HB.out.below.mono (Nat.le_succ _)))) hhi)
      have HLen := Lib.hid (length_any HSr.out here (by omega) hl)
      have stop : ∀ (e : Int) (k : Nat), rd b a g here next n = ([], 0, e, k) → Hid (n' = [] ∧ x' = 0 ∧ e' = e ∧ a' = k) := fun e k hk => by
        have := hk.symm.trans HRR.out
        simp only [Prod.mk.injEq] at this
        exact ⟨this.1.symm, this.2.1.symm, this.2.2.1.symm, this.2.2.2.symm⟩
      by_cases hlt : here < b.length
      · by_cases hmid : 64 ≤ b[here].toNat ∧ b[here].toNat < 192
        · have HE := stop 4 here (rd_mid hlt hmid.1 hmid.2)
          have hv : lenV b here = .tuple #[.int .i64 0, .agg #[.int .i64 4, .int .i64 here]] := by unfold lenV; rw [dif_pos hlt, if_pos hmid]
          rw [hv] at HLen
          clear hv stop HRR hmid HSr HS HO HR
          go_wp2_with fail
          refine HLen.out.mono ?_; rintro e w1 ⟨rfl, hb⟩
          have HB1 := Lib.hid (HB.out.call hb)
          have hlt1 := HB1.out.lt
          obtain ⟨k0, k1, k3⟩ := HB1.out.cells
          clear hb
          go_wp2_with fail
          go_region
          go_wp2_with fail
          obtain ⟨m0, m1⟩ := res_set (.int .i64 4) (.int .i64 here) k0 k1
          exact bodyPost_ret (v := .tuple #[.string ⟨#[]⟩, .int .i64 0, .agg #[.int .i64 4, .int .i64 here]]) (by simp [results, Tryz.results108, go_sem, m0, m1, hlt1]) rfl ⟨by obtain ⟨rfl, rfl, rfl, rfl⟩ := HE.out; rfl, below_drewN (HB1.out.fin _ _ _) 1⟩
        · have hv : lenV b here = .tuple #[.int .i64 b[here].toNat, .agg #[.int .i64 0, .int .i64 0]] := by unfold lenV; rw [dif_pos hlt, if_neg hmid]
          rw [hv] at HLen
          clear hv
          by_cases hc : 192 ≤ b[here].toNat
          · have t1 : decide ((63 : Int) < b[here].toNat) = true := by simp; omega
            by_cases hh1 : here + 1 < b.length
            · by_cases hpt : g ≤ ptr b[here] b[here + 1]
              · have HE := stop 150 here (rd_back hlt hc hh1 hpt)
                have hfv : folV b here g = .tuple #[.int .i64 0, .int .i64 0, .agg #[.int .i64 150, .int .i64 here]] := by unfold folV; rw [dif_pos hh1, if_pos hpt]
                have HF := Lib.hid (fun (wx : World) (h1 : Rdy w wx) => hfv ▸ follow_any (HS.out.below h1.old hhi) (Nat.le_trans hhi h1.old.size) here g hlt hc hg hl)
                obtain ⟨cc, hcc⟩ : ∃ cc, b[here].toNat = cc := ⟨_, rfl⟩
                rw [hcc] at HLen t1
                clear hfv hpt stop HRR hmid HSr HS HO HR hcc hc
                go_wp2_with fail
                refine HLen.out.mono ?_; rintro e w1 ⟨rfl, hb⟩
                have HB1 := Lib.hid ((HB.out.call hb).alloc (.cells #[.int .i64 0, .int .i64 0] 43))
                clear hb
                go_wp2_with fail
                refine (HF.out _ HB1.out).mono ?_; rintro e w2 ⟨rfl, hb⟩
                have HB2 := Lib.hid (HB1.out.call hb)
                have hlt2 := HB2.out.lt
                obtain ⟨k0, k1, k3⟩ := HB2.out.cells
                clear hb
                go_wp2_with fail
                go_region
                go_wp2_with fail
                obtain ⟨m0, m1⟩ := res_set (.int .i64 150) (.int .i64 here) k0 k1
                exact bodyPost_ret (v := .tuple #[.string ⟨#[]⟩, .int .i64 0, .agg #[.int .i64 150, .int .i64 here]]) (by simp [results, Tryz.results108, go_sem, m0, m1, hlt2]) rfl ⟨by obtain ⟨rfl, rfl, rfl, rfl⟩ := HE.out; rfl, below_drewN (HB2.out.fin _ _ _) 1⟩
              · obtain ⟨T, hT⟩ : ∃ T, ptr b[here] b[here + 1] = T := ⟨_, rfl⟩
                have HN := Lib.hid (rd_go (a := a) (next := next) (n := n) hlt hc hh1 hpt)
                have hfv : folV b here g = .tuple #[.int .i64 0, .int .i64 0, .agg #[.int .i64 0, .int .i64 0]] ∨ folV b here g = .tuple #[.int .i64 T, .int .i64 (here + 2 : Nat), .agg #[.int .i64 0, .int .i64 0]] := by
                  right; unfold folV; rw [dif_pos hh1, if_neg hpt, hT]
                have hfv : folV b here g = .tuple #[.int .i64 T, .int .i64 (here + 2 : Nat), .agg #[.int .i64 0, .int .i64 0]] := by unfold folV; rw [dif_pos hh1, if_neg hpt, hT]
                have HF := Lib.hid (fun (wx : World) (h1 : Rdy w wx) => hfv ▸ follow_any (HS.out.below h1.old hhi) (Nat.le_trans hhi h1.old.size) here g hlt hc hg hl)
                rw [hT] at hpt HN
                obtain ⟨E, hE⟩ : ∃ E, here + 2 = E := ⟨_, rfl⟩
                rw [hE] at HF HN
                obtain ⟨nx, hnx⟩ : ∃ nx, (if next = 0 then E else next) = nx := ⟨_, rfl⟩
                rw [hnx] at HN
                have hor : (if (next : Int) = 0 then (E : Int) else next) = nx := by
                  rw [← hnx]; by_cases h : next = 0 <;> simp [h]
                have HOr := Lib.hid (fun gg wx c0 c1 => hor ▸ or_any gg next E wx c0 c1)
                have HRN := Lib.hid (HN.out.symm.trans HRR.out)
                have HO2 := Lib.hid (fun w1 (h : Below wr.heap.size wr w1) => HO.out.below h)
                obtain ⟨cc, hcc⟩ : ∃ cc, b[here].toNat = cc := ⟨_, rfl⟩
                rw [hcc] at HLen t1
                clear hfv stop HN HRR hmid HSr HS HO HR hcc hc hor hnx hE hT
                go_wp2_with fail
                refine HLen.out.mono ?_; rintro e w1 ⟨rfl, hb⟩
                have HB1 := Lib.hid ((HB.out.call hb).alloc (.cells #[.int .i64 0, .int .i64 0] 43))
                have HW1 := Lib.hid (hb.alloc hb.size (.cells #[.int .i64 0, .int .i64 0] 43))
                clear hb
                go_wp2_with fail
                refine (HF.out _ HB1.out).mono ?_; rintro e w2 ⟨rfl, hb⟩
                have HB2 := Lib.hid ((HB1.out.call hb).alloc (.cells #[.int .i64 0, .int .i64 0] 43))
                have HW2 := Lib.hid (have h := bel_call HW1.out hb; h.alloc h.size (.cells #[.int .i64 0, .int .i64 0] 43))
                clear hb
                go_wp2_with fail
                refine (HOr.out _ _ (by simp [go_sem]) (by simp [go_sem])).mono ?_; rintro e w3 ⟨rfl, rfl⟩
                have HB3 := Lib.hid (HB2.out.alloc (.cells #[.int .i64 next, .int .i64 E] 3))
                have HO3 := Lib.hid (HO2.out _ (HW2.out.alloc HW2.out.size (.cells #[.int .i64 next, .int .i64 E] 3)))
                clear HO2
                go_wp2_with fail
                go_roundg T
                case measure => omega
                case rel => exact ⟨nx, n, rfl, rfl, by omega, hn, HO3, HRN, HB3⟩
            · have HE := stop 4 b.length (rd_half hlt hc (by omega))
              have hfv : folV b here g = .tuple #[.int .i64 0, .int .i64 0, .agg #[.int .i64 4, .int .i64 b.length]] := by unfold folV; rw [dif_neg hh1]
              have HF := Lib.hid (fun (wx : World) (h1 : Rdy w wx) => hfv ▸ follow_any (HS.out.below h1.old hhi) (Nat.le_trans hhi h1.old.size) here g hlt hc hg hl)
              obtain ⟨cc, hcc⟩ : ∃ cc, b[here].toNat = cc := ⟨_, rfl⟩
              rw [hcc] at HLen t1
              clear hfv stop HRR hmid HSr HS HO HR hcc hc
              go_wp2_with fail
              refine HLen.out.mono ?_; rintro e w1 ⟨rfl, hb⟩
              have HB1 := Lib.hid ((HB.out.call hb).alloc (.cells #[.int .i64 0, .int .i64 0] 43))
              clear hb
              go_wp2_with fail
              refine (HF.out _ HB1.out).mono ?_; rintro e w2 ⟨rfl, hb⟩
              have HB2 := Lib.hid (HB1.out.call hb)
              have hlt2 := HB2.out.lt
              obtain ⟨k0, k1, k3⟩ := HB2.out.cells
              clear hb
              go_wp2_with fail
              go_region
              go_wp2_with fail
              obtain ⟨m0, m1⟩ := res_set (.int .i64 4) (.int .i64 b.length) k0 k1
              exact bodyPost_ret (v := .tuple #[.string ⟨#[]⟩, .int .i64 0, .agg #[.int .i64 4, .int .i64 b.length]]) (by simp [results, Tryz.results108, go_sem, m0, m1, hlt2]) rfl ⟨by obtain ⟨rfl, rfl, rfl, rfl⟩ := HE.out; rfl, below_drewN (HB2.out.fin _ _ _) 1⟩
          · have t1 : decide ((63 : Int) < b[here].toNat) = false := by simp; omega
            by_cases hsh : b.length < here + (1 + b[here].toNat)
            · have hz : b[here].toNat ≠ 0 := by omega
              have HE := stop 4 b.length (rd_short hlt hz (by omega) hsh)
              have HBy := Lib.hid (fun (wx : World) (h1 : Rdy w wx) => bytes_short (HS.out.below h1.old hhi) hl here (1 + b[here].toNat) (by omega) hsh (by omega))
              have hcb : b[here].toNat < 64 := by omega
              obtain ⟨cc, hcc⟩ : ∃ cc, b[here].toNat = cc := ⟨_, rfl⟩
              rw [hcc] at HLen t1 HBy hcb
              push_cast at HBy
              clear stop HRR hmid HSr HS HO HR hcc hc hsh hz
              go_wp2_with fail
              refine HLen.out.mono ?_; rintro e w1 ⟨rfl, hb⟩
              have HB1 := Lib.hid ((HB.out.call hb).alloc (.cells #[.int .i64 0, .int .i64 0] 43))
              have HW1 := Lib.hid (hb.alloc hb.size (.cells #[.int .i64 0, .int .i64 0] 43))
              have hlt0 := (HB.out.call hb).lt
              clear hb
              go_wp2_with fail
              refine (HBy.out _ HB1.out).mono ?_; rintro e w2 ⟨vl, gl, rfl, ho, hg1, hg2, hb⟩
              obtain ⟨f0, f1, f3⟩ := res_cells (show Below (w1.heap.size + 1) _ w2 from by simpa using hb)
              have hlt2 : w1.heap.size < w2.heap.size := below_lt hb
              have HB2 := Lib.hid (HB1.out.call hb)
              have HW2 := Lib.hid (bel_call HW1.out hb)
              have HOw := Lib.hid ho
              have hgl : w1.heap.size < gl := by simp at hg1; omega
              clear hb ho hg1 hg2
              have hne : w.heap.size ≠ w1.heap.size := Nat.ne_of_lt hlt0
              have hlt3 := HB2.out.lt
              obtain ⟨k0, k1, k3⟩ := HB2.out.cells
              go_wp2_with fail
              go_region
              go_wp2_with fail
              have HB4 := (HB2.out.set (p := ⟨w1.heap.size, 0, none⟩) hlt0 (.int .i64 4)).set (p := ⟨w1.heap.size, 1, none⟩) hlt0 (.int .i64 b.length)
              obtain ⟨j0, j1, j3⟩ := HB4.cells
              obtain ⟨m0, m1⟩ := res_set (.int .i64 4) (.int .i64 b.length) j0 j1
              exact bodyPost_ret (v := .tuple #[.string ⟨#[]⟩, .int .i64 0, .agg #[.int .i64 4, .int .i64 b.length]]) (by simp [results, Tryz.results108, go_sem, m0, m1]) rfl ⟨by obtain ⟨rfl, rfl, rfl, rfl⟩ := HE.out; rfl, below_drewN (HB4.end_ _ _) 1⟩
            · obtain ⟨m, hm⟩ : ∃ m, (b.drop here).take (1 + b[here].toNat) = m := ⟨_, rfl⟩
              have hml : m.length = 1 + b[here].toNat := by rw [← hm, List.length_take, List.length_drop]; omega
              have HBy := Lib.hid (fun (wx : World) (h1 : Rdy w wx) => bytes_cut (HS.out.below h1.old hhi) hl here (1 + b[here].toNat) (by omega))
              rw [hm] at HBy
              have hcb : b[here].toNat < 64 := by omega
              by_cases hz : b[here].toNat = 0
              · have hm0 : m = [0] := by
                  rw [← hm, hz, List.drop_eq_getElem_cons hlt, List.take_succ_cons, List.take_zero]
                  congr 1
                  exact UInt8.toNat_inj.mp hz
                obtain ⟨nx, hnx⟩ : ∃ nx, (if next = 0 then here + 1 else next) = nx := ⟨_, rfl⟩
                have hor : (if (next : Int) = 0 then (here + 1 : Int) else next) = nx := by
                  rw [← hnx]; by_cases h : next = 0 <;> simp [h]
                have HOr := Lib.hid (fun gg wx c0 c1 => hor ▸ or_any gg next (here + 1) wx c0 c1)
                have he := (rd_zero (a := a) (part := g) (next := next) (n := n) hlt hz).symm.trans HRR.out
                rw [hnx, ← hm0] at he
                have HE := Lib.hid he
                have HCV := Lib.hid (fun a5 c5 (wx : World) (h : OwnU wx (w.heap.size + 1) (.slice a5 (n.length + 1) c5) (n ++ m)) => back_U h)
                rw [hz] at HLen t1 HBy hcb hml hsh
                push_cast at HBy
                clear stop HRR hmid HSr HS HR hc hm hnx hor hm0 he hz
                rw [Nat.add_zero] at hml
                go_wp2_with fail
                refine HLen.out.mono ?_; rintro e w1 ⟨rfl, hb⟩
                have HB1 := Lib.hid ((HB.out.call hb).alloc (.cells #[.int .i64 0, .int .i64 0] 43))
                have HW1 := Lib.hid (hb.alloc hb.size (.cells #[.int .i64 0, .int .i64 0] 43))
                have hlt0 := (HB.out.call hb).lt
                have hlt9 := hb.size
                clear hb
                go_wp2_with fail
                refine (HBy.out _ HB1.out).mono ?_; rintro e w2 ⟨vl, gl, rfl, ho, hg1, hg2, hb⟩
                obtain ⟨f0, f1, f3⟩ := res_cells (show Below (w1.heap.size + 1) _ w2 from by simpa using hb)
                have hlt2 : w1.heap.size < w2.heap.size := below_lt hb
                have hgl : w1.heap.size < gl := by simp at hg1; omega
                have HB4 := Lib.hid (((HB1.out.call hb).set (p := ⟨w1.heap.size, 0, none⟩) hlt0 (.int .i64 0)).set (p := ⟨w1.heap.size, 1, none⟩) hlt0 (.int .i64 0))
                have HW4 := Lib.hid (((bel_call HW1.out hb).setCell (p := ⟨w1.heap.size, 0, none⟩) hlt9 (.int .i64 0)).setCell (p := ⟨w1.heap.size, 1, none⟩) hlt9 (.int .i64 0))
                obtain ⟨a5, c5, w5, hr5, ho5, hb5⟩ := app_own (B := w.heap.size + 1) (HO.out.below HW4.out) ((ho.set (p := ⟨w1.heap.size, 0, none⟩) (by show gl ≠ w1.heap.size; omega) (.int .i64 0)).set (p := ⟨w1.heap.size, 1, none⟩) (by show gl ≠ w1.heap.size; omega) (.int .i64 0)) (by omega) (by omega) (by have := HB4.out.lt; omega)
                rw [hml] at hr5 ho5
                have HR5 := Lib.hid hr5
                have HO5 := Lib.hid ho5
                have HB5 := Lib.hid (HB4.out.on hb5)
                have hlt5 := (HB4.out.on hb5).lt
                obtain ⟨k0, k1, k3⟩ := (HB4.out.on hb5).cells
                clear hb ho hg1 hg2 hr5 ho5 hb5
                go_wp2_with (at_builtin; refine wpList_append_run (.tmp 71) (.tmp 72) 28 28 rfl rfl rfl rfl HR5.out ?_)
                have hcv := HCV.out a5 c5
                go_region_held3 (fun wx => OwnU wx (w.heap.size + 1) (.slice a5 (n.length + 1) c5) (n ++ m)) (first | exact HO5.out | exact HO5.out.below ((Below.refl _ _).alloc (Nat.le_refl _) _).drew | exact (((HO5.out.setCell (p := ⟨w.heap.size, 0, none⟩) (Nat.lt_succ_self _) _).setCell (p := ⟨w.heap.size, 1, none⟩) (Nat.lt_succ_self _) _).below ((Below.refl _ _).alloc (Nat.le_refl _) _).drew)) (first | (go_at_call 118; refine (HOr.out _ _ (by simp [go_sem]) (by simp [go_sem])).mono ?_; rintro e w6 ⟨rfl, rfl⟩))
                go_wp2_with fail
                obtain ⟨m0, m1⟩ := res_set (.int .i64 0) (.int .i64 0) k0 k1
                exact bodyPost_ret (v := .tuple #[.string (bs (n ++ m)), .int .i64 nx, .agg #[.int .i64 0, .int .i64 0]]) (by simp [results, Tryz.results108, go_sem, m0, m1, hlt5]) rfl ⟨by have := HE.out; simp only [Prod.mk.injEq] at this; obtain ⟨rfl, rfl, rfl, rfl⟩ := this; rfl, below_drewN (HB5.out.fin _ _ _) 1⟩
              · by_cases hlong : 254 < n.length + (1 + b[here].toNat)
                · have HE := stop 3 a (rd_long hlt hz (by omega) hsh hlong)
                  obtain ⟨cc, hcc⟩ : ∃ cc, b[here].toNat = cc := ⟨_, rfl⟩
                  rw [hcc] at HLen t1 HBy hcb hml hz hlong hm
                  obtain ⟨E, hE⟩ : ∃ E, here + (1 + cc) = E := ⟨_, rfl⟩
                  rw [hcc, hE] at hsh
                  rw [hE] at HBy
                  push_cast at HBy
                  have tz : ((cc : Int) == 0) = false := by simp; omega
                  have tl : decide ((255 : Int) ≤ n.length + (1 + cc)) = true := by simp; omega
                  clear stop HRR hmid HSr HS HR hcc hc hm hE
                  go_wp2_with fail
                  refine HLen.out.mono ?_; rintro e w1 ⟨rfl, hb⟩
                  have HB1 := Lib.hid ((HB.out.call hb).alloc (.cells #[.int .i64 0, .int .i64 0] 43))
                  have HW1 := Lib.hid (hb.alloc hb.size (.cells #[.int .i64 0, .int .i64 0] 43))
                  have hlt0 := (HB.out.call hb).lt
                  have hlt9 := hb.size
                  clear hb
                  go_wp2_with fail
                  refine (HBy.out _ HB1.out).mono ?_; rintro e w2 ⟨vl, gl, rfl, ho, hg1, hg2, hb⟩
                  obtain ⟨f0, f1, f3⟩ := res_cells (show Below (w1.heap.size + 1) _ w2 from by simpa using hb)
                  have hlt2 : w1.heap.size < w2.heap.size := below_lt hb
                  have hgl : w1.heap.size < gl := by simp at hg1; omega
                  have HB4 := Lib.hid (((HB1.out.call hb).set (p := ⟨w1.heap.size, 0, none⟩) hlt0 (.int .i64 0)).set (p := ⟨w1.heap.size, 1, none⟩) hlt0 (.int .i64 0))
                  have HW4 := Lib.hid (((bel_call HW1.out hb).setCell (p := ⟨w1.heap.size, 0, none⟩) hlt9 (.int .i64 0)).setCell (p := ⟨w1.heap.size, 1, none⟩) hlt9 (.int .i64 0))
                  obtain ⟨a5, c5, w5, hr5, ho5, hb5⟩ := app_own (B := w.heap.size + 1) (HO.out.below HW4.out) ((ho.set (p := ⟨w1.heap.size, 0, none⟩) (by show gl ≠ w1.heap.size; omega) (.int .i64 0)).set (p := ⟨w1.heap.size, 1, none⟩) (by show gl ≠ w1.heap.size; omega) (.int .i64 0)) (by omega) (by omega) (by have := HB4.out.lt; omega)
                  rw [hml] at hr5 ho5
                  have HR5 := Lib.hid hr5
                  have HO5 := Lib.hid ho5
                  have HB5 := Lib.hid (HB4.out.on hb5)
                  have hlt5 := (HB4.out.on hb5).lt
                  obtain ⟨k0, k1, k3⟩ := (HB4.out.on hb5).cells
                  clear hb ho hg1 hg2 hr5 ho5 hb5
                  go_wp2_with (at_builtin; refine wpList_append_run (.tmp 71) (.tmp 72) 28 28 rfl rfl rfl rfl HR5.out ?_)
                  obtain ⟨m0, m1⟩ := res_set (.int .i64 3) (.int .i64 a) k0 k1
                  exact bodyPost_ret (v := .tuple #[.string ⟨#[]⟩, .int .i64 0, .agg #[.int .i64 3, .int .i64 a]]) (by simp [results, Tryz.results108, go_sem, m0, m1]) rfl ⟨by obtain ⟨rfl, rfl, rfl, rfl⟩ := HE.out; rfl, HB5.out.end_ _ _⟩
                · have HRN := Lib.hid ((rd_label (a := a) (part := g) (next := next) (n := n) hlt hz (by omega) hsh hlong).symm.trans HRR.out)
                  rw [hm] at HRN
                  obtain ⟨cc, hcc⟩ : ∃ cc, b[here].toNat = cc := ⟨_, rfl⟩
                  rw [hcc] at HLen t1 HBy hcb hml hz hlong hm HRN
                  obtain ⟨E, hE⟩ : ∃ E, here + (1 + cc) = E := ⟨_, rfl⟩
                  rw [hcc, hE] at hsh
                  rw [hE] at HBy HRN
                  push_cast at HBy
                  have hEh : here < E := by omega
                  have tz : ((cc : Int) == 0) = false := by simp; omega
                  have tl : decide ((255 : Int) ≤ n.length + (1 + cc)) = false := by simp; omega
                  clear stop HRR hmid HSr HS HR hcc hc hm hE
                  go_wp2_with fail
                  refine HLen.out.mono ?_; rintro e w1 ⟨rfl, hb⟩
                  have HB1 := Lib.hid ((HB.out.call hb).alloc (.cells #[.int .i64 0, .int .i64 0] 43))
                  have HW1 := Lib.hid (hb.alloc hb.size (.cells #[.int .i64 0, .int .i64 0] 43))
                  have hlt0 := (HB.out.call hb).lt
                  have hlt9 := hb.size
                  clear hb
                  go_wp2_with fail
                  refine (HBy.out _ HB1.out).mono ?_; rintro e w2 ⟨vl, gl, rfl, ho, hg1, hg2, hb⟩
                  obtain ⟨f0, f1, f3⟩ := res_cells (show Below (w1.heap.size + 1) _ w2 from by simpa using hb)
                  have hlt2 : w1.heap.size < w2.heap.size := below_lt hb
                  have hgl : w1.heap.size < gl := by simp at hg1; omega
                  have HB4 := Lib.hid (((HB1.out.call hb).set (p := ⟨w1.heap.size, 0, none⟩) hlt0 (.int .i64 0)).set (p := ⟨w1.heap.size, 1, none⟩) hlt0 (.int .i64 0))
                  have HW4 := Lib.hid (((bel_call HW1.out hb).setCell (p := ⟨w1.heap.size, 0, none⟩) hlt9 (.int .i64 0)).setCell (p := ⟨w1.heap.size, 1, none⟩) hlt9 (.int .i64 0))
                  obtain ⟨a5, c5, w5, hr5, ho5, hb5⟩ := app_own (B := w.heap.size + 1) (HO.out.below HW4.out) ((ho.set (p := ⟨w1.heap.size, 0, none⟩) (by show gl ≠ w1.heap.size; omega) (.int .i64 0)).set (p := ⟨w1.heap.size, 1, none⟩) (by show gl ≠ w1.heap.size; omega) (.int .i64 0)) (by omega) (by omega) (by have := HB4.out.lt; omega)
                  rw [hml] at hr5 ho5
                  have HR5 := Lib.hid hr5
                  have HO5 := Lib.hid ho5
                  have HB5 := Lib.hid (HB4.out.on hb5)
                  have hlt5 := (HB4.out.on hb5).lt
                  obtain ⟨k0, k1, k3⟩ := (HB4.out.on hb5).cells
                  clear hb ho hg1 hg2 hr5 ho5 hb5
                  go_wp2_with (at_builtin; refine wpList_append_run (.tmp 71) (.tmp 72) 28 28 rfl rfl rfl rfl HR5.out ?_)
                  go_roundg (b.length - E)
                  case measure => omega
                  case rel => exact ⟨E, n ++ m, rfl, rfl, rfl, by omega, by rw [List.length_append]; omega, HO5, HRN, HB5⟩
      · have he : here = b.length := by omega
        have HE := stop 4 b.length (rd_end (by omega))
        have hv : lenV b here = .tuple #[.int .i64 0, .agg #[.int .i64 4, .int .i64 b.length]] := by unfold lenV; rw [dif_neg hlt, he]
        rw [hv] at HLen
        clear hv stop HRR HSr HS HO HR he hlt
        go_wp2_with fail
        refine HLen.out.mono ?_; rintro e w1 ⟨rfl, hb⟩
        have HB1 := Lib.hid (HB.out.call hb)
        have hlt1 := HB1.out.lt
        obtain ⟨k0, k1, k3⟩ := HB1.out.cells
        clear hb
        go_wp2_with fail
        go_region
        go_wp2_with fail
        obtain ⟨m0, m1⟩ := res_set (.int .i64 4) (.int .i64 b.length) k0 k1
        exact bodyPost_ret (v := .tuple #[.string ⟨#[]⟩, .int .i64 0, .agg #[.int .i64 4, .int .i64 b.length]]) (by simp [results, Tryz.results108, go_sem, m0, m1, hlt1]) rfl ⟨by obtain ⟨rfl, rfl, rfl, rfl⟩ := HE.out; rfl, below_drewN (HB1.out.fin _ _ _) 1⟩
end Go.Proofs.YtdikgjbpjdnodaaGreat

/-
  Read, of any bytes, at any place.
-/
namespace Go.Proofs.YtdikgjbpjdnodaaGreat
open Go.RowKit Go.Shelf
set_option linter.unusedVariables false
set_option maxRecDepth 100000

set_option maxRecDepth 100000 in
set_option maxHeartbeats 1000000 in
theorem read_any {w : World} {lo hi : Nat} {v : Value} {b : List UInt8} (h : Sl w lo hi v (iz b)) (hhi : hi ≤ w.heap.size) (hl : b.length ≤ 1000000) (a : Int) :
    Calls Tryz.prog 108 #[v, .int .i64 a] w (Tells w (gotV (rda b a))) := by
  by_cases ha : a < 0 ∨ (b.length : Int) < a
  · have e : rda b a = ([], 0, 5, 0) := by unfold rda; rw [if_pos ha]
    rw [e]
    obtain ⟨ad, c, rfl, _⟩ := h
    rw [iz_len]
    go_enter Tryz.func108, Tryz.ntmps108
    go_wp2
    go_step3
    go_wp2
    all_goals
      simp [Exit.noGoto, bodyPost, results, Tryz.results108, go_sem]
      exact ⟨rfl, (Below.refl _ _).alloc (Nat.le_refl _) _⟩
  · obtain ⟨p, rfl⟩ : ∃ p : Nat, a = p := ⟨a.toNat, by omega⟩
    have e : rda b p = rd b p p p 0 [] := by unfold rda; rw [if_neg ha, Int.toNat_natCast]
    rw [e]
    exact read_core h hhi hl p (by omega) _ _ _ _ rfl
end Go.Proofs.YtdikgjbpjdnodaaGreat

/-
  SameBytes.
-/
namespace Go.Proofs.YtdikgjbpjdnodaaGreat
open Go.RowKit
set_option linter.unusedVariables false
set_option maxRecDepth 100000

/-- A slice of bytes as a string. -/
theorem conv_sl {w : World} {lo hi : Nat} {v : Value} {l : List Int} (h : Sl w lo hi v l) : (convert 28 9 v).run Tryz.prog w = .ok (.string (strOfNums l)) w := by
  obtain ⟨a, c, rfl, hc, hn, hp⟩ := h
  by_cases h0 : 0 < l.length
  · obtain ⟨b, off, rfl, _, _, hx⟩ := hp h0
    exact run_convert_bytes_arg w 28 5 Tryz.underlying28 Tryz.underlying5 b off l.length c l rfl hx 9 Tryz.underlying9
  · have hl : l = [] := List.eq_nil_of_length_eq_zero (by omega)
    subst hl
    rcases a with _ | ad
    · rw [run_convert_bytes_nil w 28 5 Tryz.underlying28 Tryz.underlying5 _ c 9 Tryz.underlying9]; rfl
    · rw [run_convert_bytes_string w 28 9 5 _ _ c Tryz.underlying28 Tryz.underlying5 Tryz.underlying9, run_bytesToString w ad _ c [] (by simpa using run_loadCells_list (P := Tryz.prog) w ad [] (by simp))]
      rfl

set_option maxHeartbeats 400000 in
theorem same_any {w : World} {lo hi lo' hi' : Nat} {v v' : Value} {l : List Int} (h : Sl w lo hi v l) (h' : Sl w lo' hi' v' l) :
    Calls Tryz.prog 15 #[v, v'] w fun e w' => e = .returned (.bool true) ∧ w = w' := by
  have c1 := conv_sl h
  have c2 := conv_sl h'
  clear h h'
  go_enter Tryz.func15, Tryz.ntmps15
  go_wp2
  go_ret
  exact ⟨rfl, rfl⟩
end Go.Proofs.YtdikgjbpjdnodaaGreat

/-
  The document's Read.
-/
namespace Go.Proofs.YtdikgjbpjdnodaaGreat
open Go.RowKit Go.Shelf
set_option linter.unusedVariables false
set_option maxRecDepth 100000

theorem lex_lt {L p i T : Nat} (hT : T < p) (hi : i ≤ L) : T * (L + 1) + (L - T) < p * (L + 1) + (L - i) := by
  have h := Nat.mul_le_mul_right (L + 1) (show T + 1 ≤ p from hT)
  rw [Nat.add_mul] at h
  generalize T * (L + 1) = x at *
  generalize p * (L + 1) = y at *
  omega

end Go.Proofs.YtdikgjbpjdnodaaGreat

/-
  LentBytes: a copy, with three marks behind it.
-/
namespace Go.Proofs.YtdikgjbpjdnodaaGreat
open Go.RowKit
set_option linter.unusedVariables false
set_option maxRecDepth 100000

/-- What LentBytes lends: the bytes, and three marks behind them. -/
def lentL (l : List Int) : List Int := l ++ [160 + (l.length : Int) % 90, 160 + ((l.length : Int) + 1) % 90, 160 + ((l.length : Int) + 2) % 90]

theorem lentL_len (l : List Int) : (lentL l).length = l.length + 3 := by simp [lentL]

/-- Block g is lent: the bytes l, and the marks. -/
def LentAt (w : World) (g : Nat) (l : List Int) : Prop := w.heap[g]? = some (.cells ((lentL l).map (Value.int .u8)).toArray 5 (0, 0))

theorem LentAt.sl {w : World} {g : Nat} {l : List Int} (h : LentAt w g l) : Sl w g (g + 1) (.slice (some ⟨g, 0, none⟩) (l.length + 3) (l.length + 3)) (lentL l) := by
  have := Own.sl (g := g) (l := lentL l) (w := w) (.inr ⟨rfl, h⟩)
  rw [lentL_len] at this
  exact this

theorem LentAt.at_ {w : World} {g g' : Nat} {l : List Int} (h : LentAt w g l) (e : g = g') : LentAt w g' l := e ▸ h

theorem LentAt.later {w w' : World} {g : Nat} {l : List Int} (h : LentAt w g l) (hb : Below w.heap.size w w') (hg : g < w.heap.size) : LentAt w' g l := (hb.block g hg).trans h

theorem LentAt.lt {w : World} {g : Nat} {l : List Int} (h : LentAt w g l) : g < w.heap.size := (Array.getElem?_eq_some_iff.mp h).1

theorem LentAt.only {w w' : World} {g k : Nat} {l : List Int} (h : LentAt w g l) (ho : Only k w w') (hg : g ≠ k) : LentAt w' g l := (ho.2.2.2.2 g hg).trans h

end Go.Proofs.YtdikgjbpjdnodaaGreat

/-
  What is read is a name, or there is a fault; plainly.
-/
namespace Go.Proofs.YtdikgjbpjdnodaaGreat
open Go.RowKit Go.Shelf
set_option linter.unusedVariables false
set_option maxRecDepth 100000

/-- Reading, way by way. -/
theorem rd_ind (b : List UInt8) (a : Nat) (M : Nat → Nat → Nat → List UInt8 → Got → Prop)
    (fault : ∀ part i next n (e : Int) k, e ≠ 0 → (k ≤ b.length ∨ k = a) → M part i next n ([], 0, e, k))
    (zero : ∀ part i next n (h : i < b.length), b[i].toNat = 0 → M part i next n (n ++ [0], if next = 0 then i + 1 else next, 0, 0))
    (label : ∀ part i next n R (h : i < b.length), b[i].toNat ≠ 0 → b[i].toNat < 64 → i + (1 + b[i].toNat) ≤ b.length → n.length + (1 + b[i].toNat) ≤ 254 →
      M part (i + (1 + b[i].toNat)) next (n ++ (b.drop i).take (1 + b[i].toNat)) R → M part i next n R)
    (lead : ∀ part i next n R (h : i + 1 < b.length), 192 ≤ (b[i]'(by omega)).toNat → ptr (b[i]'(by omega)) b[i + 1] < part →
      M (ptr (b[i]'(by omega)) b[i + 1]) (ptr (b[i]'(by omega)) b[i + 1]) (if next = 0 then i + 2 else next) n R → M part i next n R)
    (part i next : Nat) (n : List UInt8) : M part i next n (rd b a part i next n) := by
  obtain ⟨g, hg⟩ : ∃ g, part * (b.length + 1) + (b.length - i) = g := ⟨_, rfl⟩
  induction g using Nat.strongRecOn generalizing part i next n with
  | _ g ih =>
    by_cases h : i < b.length
    · by_cases h0 : b[i].toNat = 0
      · rw [rd_zero h h0]; exact zero _ _ _ _ h h0
      by_cases h1 : b[i].toNat < 64
      · by_cases h2 : b.length < i + (1 + b[i].toNat)
        · rw [rd_short h h0 h1 h2]; exact fault _ _ _ _ _ _ (by decide) (.inl (Nat.le_refl _))
        by_cases h3 : 254 < n.length + (1 + b[i].toNat)
        · rw [rd_long h h0 h1 h2 h3]; exact fault _ _ _ _ _ _ (by decide) (.inr rfl)
        rw [rd_label h h0 h1 h2 h3]
        exact label _ _ _ _ _ h h0 h1 (by omega) (by omega) (ih _ (by rw [← hg]; omega) _ _ _ _ rfl)
      by_cases h2 : b[i].toNat < 192
      · rw [rd_mid h (by omega) h2]; exact fault _ _ _ _ _ _ (by decide) (.inl (by omega))
      by_cases h3 : i + 1 < b.length
      · by_cases h4 : part ≤ ptr b[i] b[i + 1]
        · rw [rd_back h (by omega) h3 h4]; exact fault _ _ _ _ _ _ (by decide) (.inl (by omega))
        rw [rd_go h (by omega) h3 h4]
        exact lead _ _ _ _ _ h3 (by omega) (by omega) (ih _ (by rw [← hg]; exact lex_lt (by omega) (by omega)) _ _ _ _ rfl)
      · rw [rd_half h (by omega) (by omega)]; exact fault _ _ _ _ _ _ (by decide) (.inl (Nat.le_refl _))
    · rw [rd_end (by omega)]; exact fault _ _ _ _ _ _ (by decide) (.inl (Nat.le_refl _))

/-- A label and its length, cut out of bytes. -/
theorem cut_label {b : List UInt8} {i : Nat} (h : i < b.length) (h2 : i + (1 + b[i].toNat) ≤ b.length) :
    (b.drop i).take (1 + b[i].toNat) = wire [(b.drop (i + 1)).take b[i].toNat] ∧ ((b.drop (i + 1)).take b[i].toNat).length = b[i].toNat := by
  have hl : ((b.drop (i + 1)).take b[i].toNat).length = b[i].toNat := by rw [List.length_take, List.length_drop]; omega
  refine ⟨?_, hl⟩
  rw [List.drop_eq_getElem_cons h, Nat.add_comm 1, List.take_succ_cons, wire, wire, hl]
  simp

/-- What came of reading: a name that may be, its first labels those that were read; or a fault within the bytes. -/
def Fine (b : List UInt8) (ls : List (List UInt8)) (R : Got) : Prop :=
  (R.2.2.1 = 0 ∧ R.2.2.2 = 0 ∧ ∃ ls', R.1 = wire (ls ++ ls') ++ [0] ∧ Shorts (ls ++ ls')) ∨ (R.2.2.1 ≠ 0 ∧ R.1 = [] ∧ R.2.1 = 0 ∧ R.2.2.2 ≤ b.length)

theorem rd_fine (b : List UInt8) (a : Nat) (ha : a ≤ b.length) (part i next : Nat) (n : List UInt8) (ls : List (List UInt8)) (hn : n = wire ls) (hs : Shorts ls) : Fine b ls (rd b a part i next n) := by
  refine rd_ind b a (fun _ _ _ n R => ∀ ls, n = wire ls → Shorts ls → Fine b ls R) ?_ ?_ ?_ ?_ part i next n ls hn hs
  · intro part i next n e k he hk ls _ _
    exact .inr ⟨he, rfl, rfl, by show k ≤ b.length; omega⟩
  · intro part i next n h h0 ls hn hs
    exact .inl ⟨rfl, rfl, [], by rw [List.append_nil]; exact congrArg (· ++ [0]) hn, by rw [List.append_nil]; exact hs⟩
  · intro part i next n R h h0 h1 h2 h3 ih ls hn hs
    obtain ⟨e1, e2⟩ := cut_label h h2
    rcases ih (ls ++ [(b.drop (i + 1)).take b[i].toNat]) (by rw [wire_app, e1, hn]) ⟨fun x hx => by
        rcases List.mem_append.mp hx with hx | hx
        · exact hs.1 x hx
        · rw [List.mem_singleton.mp hx]; omega, by rw [wire_snoc, e2, ← hn]; omega⟩ with ⟨r1, r2, ls', r3, r4⟩ | r
    · exact .inl ⟨r1, r2, (b.drop (i + 1)).take b[i].toNat :: ls', by rw [r3]; simp, by simpa using r4⟩
    · exact .inr r
  · intro part i next n R h h0 h1 ih ls hn hs
    exact ih ls hn hs

theorem rd_kept (b : List UInt8) (a part i next : Nat) (n : List UInt8) (h0 : next ≠ 0) (he : (rd b a part i next n).2.2.1 = 0) : (rd b a part i next n).2.1 = next := by
  refine rd_ind b a (fun _ _ next _ R => next ≠ 0 → R.2.2.1 = 0 → R.2.1 = next) ?_ ?_ ?_ ?_ part i next n h0 he
  · intro part i next n e k he hk h0 h; exact absurd h he
  · intro part i next n h h0 hn _; show (if next = 0 then i + 1 else next) = next; rw [if_neg hn]
  · intro part i next n R h h0 h1 h2 h3 ih hn he; exact ih hn he
  · intro part i next n R h h0 h1 ih hn he
    have := ih (by rw [if_neg hn]; exact hn) he
    rw [if_neg hn] at this
    exact this

/-- Where a name ends whose first part is not left yet. -/
theorem rd_next (b : List UInt8) (a part i : Nat) (n : List UInt8) (hn : n.length ≤ 254) (he : (rd b a part i 0 n).2.2.1 = 0) :
    i < (rd b a part i 0 n).2.1 ∧ (rd b a part i 0 n).2.1 ≤ b.length ∧ (rd b a part i 0 n).2.1 + n.length ≤ i + 256 := by
  have := rd_ind b a (fun part i next n R => next = 0 → n.length ≤ 254 → R = rd b a part i next n → R.2.2.1 = 0 → i < R.2.1 ∧ R.2.1 ≤ b.length ∧ R.2.1 + n.length ≤ i + 256) ?_ ?_ ?_ ?_ part i 0 n rfl hn rfl he
  · exact this
  · intro part i next n e k he hk _ _ _ h; exact absurd h he
  · intro part i next n h h0 hn hl _ _
    subst hn
    show i < i + 1 ∧ i + 1 ≤ b.length ∧ i + 1 + n.length ≤ i + 256
    omega
  · intro part i next n R h h0 h1 h2 h3 ih hn hl hR he
    have hlen : ((b.drop i).take (1 + b[i].toNat)).length = 1 + b[i].toNat := by rw [List.length_take, List.length_drop]; omega
    have := ih hn (by rw [List.length_append, hlen]; omega) (by rw [hR, rd_label h h0 h1 (by omega) (by omega)]) he
    rw [List.length_append, hlen] at this
    omega
  · intro part i next n R h h0 h1 ih hn hl hR he
    subst hn
    rw [rd_go (by omega) h0 h (by omega), if_pos rfl] at hR
    have := rd_kept b a _ _ (i + 2) n (by omega) (by rw [← hR]; exact he)
    rw [← hR] at this
    omega

end Go.Proofs.YtdikgjbpjdnodaaGreat

/-
  octet.Put16, Put32.
-/
namespace Go.Proofs.YtdikgjbpjdnodaaGreat
open Go.RowKit
set_option linter.unusedVariables false
set_option maxRecDepth 100000

/-- The error that Put tells, and the bytes. -/
def putE (m n : Int) : Int := if 0 ≤ n ∧ n ≤ m then 0 else 5

def putL2 (n : Int) : List Int := if 0 ≤ n ∧ n ≤ 65535 then [n / 256, n % 256] else []

def putL4 (n : Int) : List Int := if 0 ≤ n ∧ n ≤ 4294967295 then [n / 256 / 256 / 256, n / 256 / 256 % 256, n / 256 % 256, n % 256] else []

def PutPost (w : World) (E : Int) (L : List Int) (e : Ending) (w' : World) : Prop :=
  ∃ v g, e = .returned (.tuple #[v, .int .i64 E]) ∧ Own w' g v L ∧ w.heap.size ≤ g ∧ g < w'.heap.size ∧ Below w.heap.size w w'

set_option maxHeartbeats 400000 in
theorem put2_any (n : Int) (w : World) : Calls Tryz.prog 63 #[.int .i64 n] w (PutPost w (putE 65535 n) (putL2 n)) := by
  have hm := make2
  by_cases h : 0 ≤ n ∧ n ≤ 65535
  · have e1 : putE 65535 n = 0 := by unfold putE; rw [if_pos h]
    have e2 : putL2 n = [n / 256, n % 256] := by unfold putL2; rw [if_pos h]
    rw [e1, e2]
    clear e1 e2
    obtain ⟨h0, h1⟩ := h
    go_enter Tryz.func63, Tryz.ntmps63
    go_wp2
    refine wp_loop_rounds 3 ?_
    iterate 3 (rw [rounds_succ]; go_wp2)
    go_ret2
    exact ⟨_, w.heap.size + 1, rfl, .inr ⟨rfl, two_alloc _ _ _⟩, by omega, by simp, ((Below.refl _ _).alloc (Nat.le_refl _) _).alloc (by simp) _⟩
  · have e1 : putE 65535 n = 5 := by unfold putE; rw [if_neg h]
    have e2 : putL2 n = [] := by unfold putL2; rw [if_neg h]
    rw [e1, e2]
    clear e1 e2
    have h : n < 0 ∨ 65535 < n := by omega
    go_enter Tryz.func63, Tryz.ntmps63
    go_wp2
    refine wp_loop_rounds 3 ?_
    iterate 3 (rw [rounds_succ]; go_wp2)
    go_ret2
    exact ⟨_, w.heap.size, rfl, .inl ⟨rfl, rfl⟩, by omega, by simp; omega, ((Below.refl _ _).alloc (Nat.le_refl _) _).alloc (by simp) _⟩

set_option maxHeartbeats 400000 in
theorem put4_any (n : Int) (w : World) : Calls Tryz.prog 147 #[.int .i64 n] w (PutPost w (putE 4294967295 n) (putL4 n)) := by
  have hm := make4
  by_cases h : 0 ≤ n ∧ n ≤ 4294967295
  · have e1 : putE 4294967295 n = 0 := by unfold putE; rw [if_pos h]
    have e2 : putL4 n = [n / 256 / 256 / 256, n / 256 / 256 % 256, n / 256 % 256, n % 256] := by unfold putL4; rw [if_pos h]
    rw [e1, e2]
    clear e1 e2
    obtain ⟨h0, h1⟩ := h
    go_enter Tryz.func147, Tryz.ntmps147
    go_wp2
    refine wp_loop_rounds 5 ?_
    iterate 5 (rw [rounds_succ]; go_wp2)
    go_ret2
    exact ⟨_, w.heap.size + 1, rfl, .inr ⟨rfl, two_alloc _ _ _⟩, by omega, by simp, ((Below.refl _ _).alloc (Nat.le_refl _) _).alloc (by simp) _⟩
  · have e1 : putE 4294967295 n = 5 := by unfold putE; rw [if_neg h]
    have e2 : putL4 n = [] := by unfold putL4; rw [if_neg h]
    rw [e1, e2]
    clear e1 e2
    have h : n < 0 ∨ 4294967295 < n := by omega
    go_enter Tryz.func147, Tryz.ntmps147
    go_wp2
    refine wp_loop_rounds 5 ?_
    iterate 5 (rw [rounds_succ]; go_wp2)
    go_ret2
    exact ⟨_, w.heap.size, rfl, .inl ⟨rfl, rfl⟩, by omega, by simp; omega, ((Below.refl _ _).alloc (Nat.le_refl _) _).alloc (by simp) _⟩

set_option maxHeartbeats 400000 in
theorem put16_any (n : Int) (w : World) : Calls Tryz.prog 54 #[.int .i64 n] w (PutPost w (putE 65535 n) (putL2 n)) := by
  go_enter Tryz.func54, Tryz.ntmps54
  go_wp2_with (go_at_call 63; refine (put2_any n _).mono ?_; rintro e w1 ⟨v, g, rfl, h1, h2, h3, h4⟩; have H1 := Lib.hid h1; have H2 := Lib.hid h2; have H3 := Lib.hid h3; have H4 := Lib.hid h4; clear h1 h2 h3 h4)
  go_ret2
  exact ⟨v, g, rfl, H1.out, H2.out, H3.out, H4.out⟩

set_option maxHeartbeats 400000 in
theorem put32_any (n : Int) (w : World) : Calls Tryz.prog 141 #[.int .i64 n] w (PutPost w (putE 4294967295 n) (putL4 n)) := by
  go_enter Tryz.func141, Tryz.ntmps141
  go_wp2_with (go_at_call 147; refine (put4_any n _).mono ?_; rintro e w1 ⟨v, g, rfl, h1, h2, h3, h4⟩; have H1 := Lib.hid h1; have H2 := Lib.hid h2; have H3 := Lib.hid h3; have H4 := Lib.hid h4; clear h1 h2 h3 h4)
  go_ret2
  exact ⟨v, g, rfl, H1.out, H2.out, H3.out, H4.out⟩

end Go.Proofs.YtdikgjbpjdnodaaGreat

/-
  OverBytes: that row alone turns.
-/
namespace Go.Proofs.YtdikgjbpjdnodaaGreat
open Go.RowKit
set_option linter.unusedVariables false
set_option maxRecDepth 100000

set_option maxHeartbeats 400000 in
theorem over_nil (w : World) : Calls Tryz.prog 16 #[.slice none 0 0] w fun e w' => e = .returned (.tuple #[]) ∧ w = w' := by
  go_enter Tryz.func16, Tryz.ntmps16
  go_wp2
  go_loop [3] (fun i => i = .int .i64 0) (fun _ => 0)
  case atStart => rfl
  case round =>
    subst hrel
    go_wp2
    go_end0
    exact ⟨rfl, rfl⟩

end Go.Proofs.YtdikgjbpjdnodaaGreat
