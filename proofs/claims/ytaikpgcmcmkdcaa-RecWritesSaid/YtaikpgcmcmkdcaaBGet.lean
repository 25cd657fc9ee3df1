/-
  octet.Get16, Get32: read, its deferred function, the panic of an index out of range.
-/
import Derived.Test.YtaikpgcmcmkdcaaBWords
import Derived.Test.YtaikpgcmcmkdcaaBIdx
import Derived.BigQuiet
import Derived.Deep.QuietTactic
import Derived.Deep.RegionHeld
import Derived.Defers
import Derived.Recover
namespace Go.Proofs.Ytaikpgcmcmkdcaa
open Go.RowKit
set_option linter.unusedVariables false
set_option maxRecDepth 100000

theorem ta_nil (w : World) : (Instr.typeAssert .nilIface 20 160 true).run Try.prog w = .ok (.tuple #[.nilIface, .bool false]) w := by kernel_rfl

theorem ta_bounds (x y : Int) (s : Bool) (c : Int) (w : World) : (Instr.typeAssert (.iface 8 (.agg #[.int .i64 x, .int .i64 y, .bool s, .int .u8 c])) 20 160 true).run Try.prog w = .ok (.tuple #[.iface 8 (.agg #[.int .i64 x, .int .i64 y, .bool s, .int .u8 c]), .bool true]) w := by kernel_rfl

theorem res_cells {w w1 : World} {x y : Value} (hb : Below (w.heap.size + 1) (w.alloc (.cells #[x, y] 54)) w1) :
    w1.cell? ⟨w.heap.size, 0, none⟩ = some x ∧ w1.cell? ⟨w.heap.size, 1, none⟩ = some y ∧ ∀ j, w1.frozen? ⟨w.heap.size, j, none⟩ = false := by
  refine ⟨(hb.cell (p := ⟨_, _, _⟩) (by simp)).trans ?_, (hb.cell (p := ⟨_, _, _⟩) (by simp)).trans ?_, fun j => (hb.frozen (p := ⟨_, _, _⟩) (by simp)).trans ?_⟩
  all_goals simp [go_sem]

/-- The number that two, that four bytes are. -/
def num2 (x y : Int) : Int := x * 256 + y

def num4 (x y z t : Int) : Int := ((x * 256 + y) * 256 + z) * 256 + t

set_option maxHeartbeats 1000000 in
theorem number2_ok (g off n : Nat) (p c : Nat) (x y : Int) (h : p + 2 ≤ n) (hn : n ≤ 1000000) (w : World)
    (cx : w.cell? ⟨g, off + p, none⟩ = some (.int .u8 x)) (x0 : 0 ≤ x) (x1 : x ≤ 255)
    (cy : w.cell? ⟨g, off + (p + 1), none⟩ = some (.int .u8 y)) (y0 : 0 ≤ y) (y1 : y ≤ 255)
    : Calls Try.prog 91 #[.slice (some ⟨g, off, none⟩) n c, .int .i64 p] w fun e w' => e = .returned (.tuple #[.int .i64 (num2 x y), .int .i64 (p + 2)]) ∧ Below w.heap.size w w' := by
  have hg : g < w.heap.size := World.block_lt_of_cell? w _ cx
  go_enter Try.func91, Try.ntmps91
  go_wp2
  refine wp_loop_rounds 3 ?_
  iterate 3 (rw [rounds_succ]; go_wp2)
  go_quiet (fail)
  go_wp2
  go_ret2
  refine ⟨?_, below_drewN ((Below.refl _ _).alloc (Nat.le_refl _) _) _⟩
  rw [or_none x x0 x1, or_wrap x y (by omega) (by omega) y0 y1]
  rfl

set_option maxHeartbeats 1000000 in
theorem number2_no0 (a : Option Addr) (p c : Nat) (hn : p ≤ 1000000) (ha : a = none → p = 0) (w : World) : Calls Try.prog 91 #[.slice a p c, .int .i64 p] w (NumBad w) := by
  obtain ⟨e1, e2, e3, e4, e5, hrun⟩ := idx_out a p c p ha (by omega) (w.alloc (.cells #[.int .u8 0, .int .u8 0] 124))
  go_enter Try.func91, Try.ntmps91
  go_wp2
  refine wp_loop_rounds 3 ?_
  iterate 1 (rw [rounds_succ]; go_wp2)
  exact ⟨rfl, e1, e2, e3, e5, rfl, below_drewN ((Below.refl _ _).alloc (Nat.le_refl _) _) _⟩

set_option maxHeartbeats 1000000 in
theorem number2_no1 (g off n : Nat) (p c : Nat) (x : Int) (h : p + 1 = n) (hn : n ≤ 1000000) (w : World)
    (cx : w.cell? ⟨g, off + p, none⟩ = some (.int .u8 x)) (x0 : 0 ≤ x) (x1 : x ≤ 255)
    : Calls Try.prog 91 #[.slice (some ⟨g, off, none⟩) n c, .int .i64 p] w (NumBad w) := by
  have hg : g < w.heap.size := World.block_lt_of_cell? w _ cx
  obtain ⟨e1, e2, e3, e4, e5, hrun⟩ := idx_out (some ⟨g, off, none⟩) n c (p + 1) (by simp) (by omega) (w.alloc (.cells #[.int .u8 0, .int .u8 0] 124))
  go_enter Try.func91, Try.ntmps91
  go_wp2
  refine wp_loop_rounds 3 ?_
  iterate 2 (rw [rounds_succ]; go_wp2)
  exact ⟨rfl, e1, e2, e3, e5, rfl, below_drewN ((Below.refl _ _).alloc (Nat.le_refl _) _) _⟩

set_option maxHeartbeats 1000000 in
theorem number4_ok (g off n : Nat) (p c : Nat) (x y z t : Int) (h : p + 4 ≤ n) (hn : n ≤ 1000000) (w : World)
    (cx : w.cell? ⟨g, off + p, none⟩ = some (.int .u8 x)) (x0 : 0 ≤ x) (x1 : x ≤ 255)
    (cy : w.cell? ⟨g, off + (p + 1), none⟩ = some (.int .u8 y)) (y0 : 0 ≤ y) (y1 : y ≤ 255)
    (cz : w.cell? ⟨g, off + (p + 2), none⟩ = some (.int .u8 z)) (z0 : 0 ≤ z) (z1 : z ≤ 255)
    (ct : w.cell? ⟨g, off + (p + 3), none⟩ = some (.int .u8 t)) (t0 : 0 ≤ t) (t1 : t ≤ 255)
    : Calls Try.prog 92 #[.slice (some ⟨g, off, none⟩) n c, .int .i64 p] w fun e w' => e = .returned (.tuple #[.int .i64 (num4 x y z t), .int .i64 (p + 4)]) ∧ Below w.heap.size w w' := by
  have hg : g < w.heap.size := World.block_lt_of_cell? w _ cx
  go_enter Try.func92, Try.ntmps92
  go_wp2
  refine wp_loop_rounds 5 ?_
  iterate 5 (rw [rounds_succ]; go_wp2)
  go_quiet (fail)
  go_wp2
  go_ret2
  refine ⟨?_, below_drewN ((Below.refl _ _).alloc (Nat.le_refl _) _) _⟩
  rw [or_none x x0 x1, or_wrap x y (by omega) (by omega) y0 y1, or_wrap (x * 256 + y) z (by omega) (by omega) z0 z1, or_wrap ((x * 256 + y) * 256 + z) t (by omega) (by omega) t0 t1]
  rfl

set_option maxHeartbeats 1000000 in
theorem number4_no0 (a : Option Addr) (p c : Nat) (hn : p ≤ 1000000) (ha : a = none → p = 0) (w : World) : Calls Try.prog 92 #[.slice a p c, .int .i64 p] w (NumBad w) := by
  obtain ⟨e1, e2, e3, e4, e5, hrun⟩ := idx_out a p c p ha (by omega) (w.alloc (.cells #[.int .u8 0, .int .u8 0, .int .u8 0, .int .u8 0] 125))
  go_enter Try.func92, Try.ntmps92
  go_wp2
  refine wp_loop_rounds 5 ?_
  iterate 1 (rw [rounds_succ]; go_wp2)
  exact ⟨rfl, e1, e2, e3, e5, rfl, below_drewN ((Below.refl _ _).alloc (Nat.le_refl _) _) _⟩

set_option maxHeartbeats 1000000 in
theorem number4_no1 (g off n : Nat) (p c : Nat) (x : Int) (h : p + 1 = n) (hn : n ≤ 1000000) (w : World)
    (cx : w.cell? ⟨g, off + p, none⟩ = some (.int .u8 x)) (x0 : 0 ≤ x) (x1 : x ≤ 255)
    : Calls Try.prog 92 #[.slice (some ⟨g, off, none⟩) n c, .int .i64 p] w (NumBad w) := by
  have hg : g < w.heap.size := World.block_lt_of_cell? w _ cx
  obtain ⟨e1, e2, e3, e4, e5, hrun⟩ := idx_out (some ⟨g, off, none⟩) n c (p + 1) (by simp) (by omega) (w.alloc (.cells #[.int .u8 0, .int .u8 0, .int .u8 0, .int .u8 0] 125))
  go_enter Try.func92, Try.ntmps92
  go_wp2
  refine wp_loop_rounds 5 ?_
  iterate 2 (rw [rounds_succ]; go_wp2)
  exact ⟨rfl, e1, e2, e3, e5, rfl, below_drewN ((Below.refl _ _).alloc (Nat.le_refl _) _) _⟩

set_option maxHeartbeats 1000000 in
theorem number4_no2 (g off n : Nat) (p c : Nat) (x y : Int) (h : p + 2 = n) (hn : n ≤ 1000000) (w : World)
    (cx : w.cell? ⟨g, off + p, none⟩ = some (.int .u8 x)) (x0 : 0 ≤ x) (x1 : x ≤ 255)
    (cy : w.cell? ⟨g, off + (p + 1), none⟩ = some (.int .u8 y)) (y0 : 0 ≤ y) (y1 : y ≤ 255)
    : Calls Try.prog 92 #[.slice (some ⟨g, off, none⟩) n c, .int .i64 p] w (NumBad w) := by
  have hg : g < w.heap.size := World.block_lt_of_cell? w _ cx
  obtain ⟨e1, e2, e3, e4, e5, hrun⟩ := idx_out (some ⟨g, off, none⟩) n c (p + 2) (by simp) (by omega) (w.alloc (.cells #[.int .u8 0, .int .u8 0, .int .u8 0, .int .u8 0] 125))
  go_enter Try.func92, Try.ntmps92
  go_wp2
  refine wp_loop_rounds 5 ?_
  iterate 3 (rw [rounds_succ]; go_wp2)
  exact ⟨rfl, e1, e2, e3, e5, rfl, below_drewN ((Below.refl _ _).alloc (Nat.le_refl _) _) _⟩

set_option maxHeartbeats 1000000 in
theorem number4_no3 (g off n : Nat) (p c : Nat) (x y z : Int) (h : p + 3 = n) (hn : n ≤ 1000000) (w : World)
    (cx : w.cell? ⟨g, off + p, none⟩ = some (.int .u8 x)) (x0 : 0 ≤ x) (x1 : x ≤ 255)
    (cy : w.cell? ⟨g, off + (p + 1), none⟩ = some (.int .u8 y)) (y0 : 0 ≤ y) (y1 : y ≤ 255)
    (cz : w.cell? ⟨g, off + (p + 2), none⟩ = some (.int .u8 z)) (z0 : 0 ≤ z) (z1 : z ≤ 255)
    : Calls Try.prog 92 #[.slice (some ⟨g, off, none⟩) n c, .int .i64 p] w (NumBad w) := by
  have hg : g < w.heap.size := World.block_lt_of_cell? w _ cx
  obtain ⟨e1, e2, e3, e4, e5, hrun⟩ := idx_out (some ⟨g, off, none⟩) n c (p + 3) (by simp) (by omega) (w.alloc (.cells #[.int .u8 0, .int .u8 0, .int .u8 0, .int .u8 0] 125))
  go_enter Try.func92, Try.ntmps92
  go_wp2
  refine wp_loop_rounds 5 ?_
  iterate 4 (rw [rounds_succ]; go_wp2)
  exact ⟨rfl, e1, e2, e3, e5, rfl, below_drewN ((Below.refl _ _).alloc (Nat.le_refl _) _) _⟩

theorem catch_idle (p q : Addr) (w : World) :
    CallsD Try.prog 104 #[.pointer (some p), .pointer (some q)] .returning w fun e u' w' => e = .returned (.tuple #[]) ∧ u' = .returning ∧ w = w' := by
  refine callsD_of_wpS Try.func104 rfl fun c₀ cs hu => ?_
  simp only [Try.ntmps104, List.size_toArray, List.length_cons, List.length_nil, Nat.reduceAdd, Nat.reduceSub, Array.replicate_succ, Array.replicate_zero, List.push_toArray, List.append_toArray, List.nil_append, List.cons_append]
  apply wpS_seq
  apply wpS_region
  simp [wpOpsS, go_sem, recoverD, hu, Exit.thenS, ta_nil]
  refine wpS_of_wp ?_
  go_wp2
  cases c₀
  simp_all [bodyPostS, results, Try.results104]

theorem catch_panicking (p : Addr) (g : Nat) (a : Option Addr) (n k : Nat) (x y : Int) (s : Bool) (c : Int) (w : World) (hp : w.cell? p = some (.slice a n k)) (h0 : w.cell? ⟨g, 0, none⟩ = some (.int .i64 0)) (h1 : w.cell? ⟨g, 1, none⟩ = some (.int .i64 0)) (hf : ∀ j, w.frozen? ⟨g, j, none⟩ = false) :
    CallsD Try.prog 104 #[.pointer (some p), .pointer (some ⟨g, 0, none⟩)] (.panicking [{ v := .iface 8 (.agg #[.int .i64 x, .int .i64 y, .bool s, .int .u8 c]), recovered := false }]) w fun e u' w' =>
      e = .returned (.tuple #[]) ∧ u' = .panicking [{ v := .iface 8 (.agg #[.int .i64 x, .int .i64 y, .bool s, .int .u8 c]), recovered := true }] ∧ w' = (w.setCell ⟨g, 0, none⟩ (.int .i64 4)).setCell ⟨g, 1, none⟩ (.int .i64 n) := by
  refine callsD_of_wpS Try.func104 rfl fun c₀ cs hu => ?_
  simp only [Try.ntmps104, List.size_toArray, List.length_cons, List.length_nil, Nat.reduceAdd, Nat.reduceSub, Array.replicate_succ, Array.replicate_zero, List.push_toArray, List.append_toArray, List.nil_append, List.cons_append]
  apply wpS_seq
  apply wpS_region
  simp [wpOpsS, go_sem, recoverD, hu, Exit.thenS, ta_bounds]
  refine wpS_of_wp ?_
  go_wp2
  cases c₀
  simp_all [bodyPostS, results, Try.results104]

def GetPost (w : World) (N E F A : Int) (e : Ending) (w' : World) : Prop :=
  e = .returned (.tuple #[.int .i64 N, .int .i64 E, .agg #[.int .i64 F, .int .i64 A]]) ∧ Below w.heap.size w w'

/-- What number tells: the number and where it ends. -/
def NumOk (w : World) (N E : Int) (e : Ending) (w' : World) : Prop := e = .returned (.tuple #[.int .i64 N, .int .i64 E]) ∧ Below w.heap.size w w'

def nAt2 (l : List Int) (p : Nat) : Int := num2 (l.getD p 0) (l.getD (p + 1) 0)

def nAt4 (l : List Int) (p : Nat) : Int := num4 (l.getD p 0) (l.getD (p + 1) 0) (l.getD (p + 2) 0) (l.getD (p + 3) 0)

theorem number2_fine {w : World} {lo hi p c : Nat} {a : Option Addr} {l : List Int} (h : Sl w lo hi (.slice a l.length c) l) (hb : ByteL l) (hl : l.length ≤ 1000000) (hp : p + 2 ≤ l.length) :
    Calls Try.prog 91 #[.slice a l.length c, .int .i64 p] w (NumOk w (nAt2 l p) (p + 2)) := by
  obtain ⟨a', c', he, hc, hn, hq⟩ := h
  injection he with e1 e2 e3
  subst e1; subst e3
  obtain ⟨b, off, rfl, _, _, hx⟩ := hq (by omega)
  have y0 := hb.at_ p (by omega)
  have y1 := hb.at_ (p + 1) (by omega)
  exact number2_ok b off l.length p c _ _ hp hl w (hx p (by omega)) y0.1 y0.2 (hx (p + 1) (by omega)) y1.1 y1.2

theorem number2_short {w : World} {lo hi p c : Nat} {a : Option Addr} {l : List Int} (h : Sl w lo hi (.slice a l.length c) l) (hb : ByteL l) (hl : l.length ≤ 1000000) (hp : p ≤ l.length) (hs : l.length < p + 2) :
    Calls Try.prog 91 #[.slice a l.length c, .int .i64 p] w (NumBad w) := by
  obtain ⟨a', c', he, hc, hn, hq⟩ := h
  injection he with e1 e2 e3
  subst e1; subst e3
  obtain h0 | h0 : l.length = p ∨ p + 1 = l.length := by omega
  · rw [h0] at hc ⊢
    exact number2_no0 a p c (by omega) (fun ha => by have := hn ha; omega) w
  · obtain ⟨b, off, rfl, _, _, hx⟩ := hq (by omega)
    have y0 := hb.at_ p (by omega)
    exact number2_no1 b off l.length p c _ h0 hl w (hx p (by omega)) y0.1 y0.2

theorem number4_fine {w : World} {lo hi p c : Nat} {a : Option Addr} {l : List Int} (h : Sl w lo hi (.slice a l.length c) l) (hb : ByteL l) (hl : l.length ≤ 1000000) (hp : p + 4 ≤ l.length) :
    Calls Try.prog 92 #[.slice a l.length c, .int .i64 p] w (NumOk w (nAt4 l p) (p + 4)) := by
  obtain ⟨a', c', he, hc, hn, hq⟩ := h
  injection he with e1 e2 e3
  subst e1; subst e3
  obtain ⟨b, off, rfl, _, _, hx⟩ := hq (by omega)
  have y0 := hb.at_ p (by omega)
  have y1 := hb.at_ (p + 1) (by omega)
  have y2 := hb.at_ (p + 2) (by omega)
  have y3 := hb.at_ (p + 3) (by omega)
  exact number4_ok b off l.length p c _ _ _ _ hp hl w (hx p (by omega)) y0.1 y0.2 (hx (p + 1) (by omega)) y1.1 y1.2 (hx (p + 2) (by omega)) y2.1 y2.2 (hx (p + 3) (by omega)) y3.1 y3.2

theorem number4_short {w : World} {lo hi p c : Nat} {a : Option Addr} {l : List Int} (h : Sl w lo hi (.slice a l.length c) l) (hb : ByteL l) (hl : l.length ≤ 1000000) (hp : p ≤ l.length) (hs : l.length < p + 4) :
    Calls Try.prog 92 #[.slice a l.length c, .int .i64 p] w (NumBad w) := by
  obtain ⟨a', c', he, hc, hn, hq⟩ := h
  injection he with e1 e2 e3
  subst e1; subst e3
  obtain h0 | h0 | h0 | h0 : l.length = p ∨ p + 1 = l.length ∨ p + 2 = l.length ∨ p + 3 = l.length := by omega
  · rw [h0] at hc ⊢
    exact number4_no0 a p c (by omega) (fun ha => by have := hn ha; omega) w
  · obtain ⟨b, off, rfl, _, _, hx⟩ := hq (by omega)
    have y0 := hb.at_ p (by omega)
    exact number4_no1 b off l.length p c _ h0 hl w (hx p (by omega)) y0.1 y0.2
  · obtain ⟨b, off, rfl, _, _, hx⟩ := hq (by omega)
    have y0 := hb.at_ p (by omega)
    have y1 := hb.at_ (p + 1) (by omega)
    exact number4_no2 b off l.length p c _ _ h0 hl w (hx p (by omega)) y0.1 y0.2 (hx (p + 1) (by omega)) y1.1 y1.2
  · obtain ⟨b, off, rfl, _, _, hx⟩ := hq (by omega)
    have y0 := hb.at_ p (by omega)
    have y1 := hb.at_ (p + 1) (by omega)
    have y2 := hb.at_ (p + 2) (by omega)
    exact number4_no3 b off l.length p c _ _ _ h0 hl w (hx p (by omega)) y0.1 y0.2 (hx (p + 1) (by omega)) y1.1 y1.2 (hx (p + 2) (by omega)) y2.1 y2.2

theorem read_cells {w w1 : World} {v : Value} (hb : Below (w.heap.size + 1 + 1) ((w.alloc (.cells #[v] 43)).alloc (.cells #[.int .i64 0, .int .i64 0] 54)) w1) :
    w1.cell? ⟨w.heap.size, 0, none⟩ = some v ∧ w1.cell? ⟨w.heap.size + 1, 0, none⟩ = some (.int .i64 0) ∧ w1.cell? ⟨w.heap.size + 1, 1, none⟩ = some (.int .i64 0) ∧ ∀ j, w1.frozen? ⟨w.heap.size + 1, j, none⟩ = false := by
  refine ⟨(hb.cell (p := ⟨_, _, _⟩) (by simp; omega)).trans ?_, (hb.cell (p := ⟨_, _, _⟩) (by simp)).trans ?_, (hb.cell (p := ⟨_, _, _⟩) (by simp)).trans ?_, fun j => (hb.frozen (p := ⟨_, _, _⟩) (by simp)).trans ?_⟩
  all_goals simp [go_sem]

set_option maxHeartbeats 400000 in
theorem read_out (a : Option Addr) (n c : Nat) (f : Value) (p : Int) (hp : p < 0 ∨ n < p) (w : World) : Calls Try.prog 90 #[.slice a n c, .int .i64 p, f] w (GetPost w 0 0 5 0) := by
  have hmf : ∀ (fn : Fn) (first cap : Array Value) (w : World), (Instr.makeFunc fn first cap).run Try.prog w = .ok (.func fn first cap) w := fun _ _ _ _ => rfl
  go_enter_defers Try.func90, Try.ntmps90
  go_wp2
  all_goals
    simp [Leaves, bodyPostD, results, Try.results90, go_sem]
    exact ⟨rfl, ((Below.refl _ _).alloc (Nat.le_refl _) _).alloc (by simp) _⟩

set_option maxHeartbeats 1000000 in
theorem read16_ok (a : Option Addr) (n c p : Nat) (N E : Int) (hp : p ≤ n) (w : World)
    (H : ∀ w0, Below w.heap.size w w0 → Calls Try.prog 91 #[.slice a n c, .int .i64 p] w0 (NumOk w0 N E)) :
    Calls Try.prog 90 #[.slice a n c, .int .i64 p, .func (.func 91) #[] #[]] w (GetPost w N E 0 0) := by
  have hmf : ∀ (fn : Fn) (first cap : Array Value) (w : World), (Instr.makeFunc fn first cap).run Try.prog w = .ok (.func fn first cap) w := fun _ _ _ _ => rfl
  have hb0 : Below w.heap.size w ((w.alloc (.cells #[.slice a n c] 43)).alloc (.cells #[.int .i64 0, .int .i64 0] 54)) := ((Below.refl _ _).alloc (Nat.le_refl _) _).alloc (by simp) _
  have HB0 := Lib.hid hb0
  have HH := Lib.hid (H _ hb0)
  clear hb0 H
  go_enter_defers Try.func90, Try.ntmps90
  go_wp2_with (go_at_call 91; refine HH.out.mono ?_; rintro e w1 ⟨rfl, hb⟩; simp only [World.size_alloc] at hb; have HB := Lib.hid hb; have hcell := read_cells hb; clear hb; obtain ⟨k0, k1, k2, k3⟩ := hcell)
  refine leaves_cons (f := 104) (args := #[.pointer (some ⟨w.heap.size, 0, none⟩), .pointer (some ⟨w.heap.size + 1, 0, none⟩)]) (by simp) (by simp [go_sem]) ?_
  refine (catch_idle ⟨w.heap.size, 0, none⟩ ⟨w.heap.size + 1, 0, none⟩ _).mono ?_
  rintro e u' w'' ⟨rfl, rfl, rfl⟩
  obtain ⟨m0, m1⟩ := res_set (.int .i64 0) (.int .i64 0) k1 k2
  simp [Leaves, settle, results, Try.results90, go_sem, m0, m1]
  exact ⟨rfl, ((HB0.out.trans (HB.out.mono (by omega))).setCell (by simp) _).setCell (by simp) _⟩

set_option maxHeartbeats 1000000 in
theorem read16_no (a : Option Addr) (n c p : Nat) (hp : p ≤ n) (w : World)
    (H : ∀ w0, Below w.heap.size w w0 → Calls Try.prog 91 #[.slice a n c, .int .i64 p] w0 (NumBad w0)) :
    Calls Try.prog 90 #[.slice a n c, .int .i64 p, .func (.func 91) #[] #[]] w (GetPost w 0 0 4 n) := by
  have hmf : ∀ (fn : Fn) (first cap : Array Value) (w : World), (Instr.makeFunc fn first cap).run Try.prog w = .ok (.func fn first cap) w := fun _ _ _ _ => rfl
  have hb0 : Below w.heap.size w ((w.alloc (.cells #[.slice a n c] 43)).alloc (.cells #[.int .i64 0, .int .i64 0] 54)) := ((Below.refl _ _).alloc (Nat.le_refl _) _).alloc (by simp) _
  have HB0 := Lib.hid hb0
  have HH := Lib.hid (H _ hb0)
  clear hb0 H
  go_enter_defers Try.func90, Try.ntmps90
  go_wp2_with (go_at_call 91; refine HH.out.mono ?_; rintro e w1 ⟨x, y, s, c1, rfl, hb⟩; simp only [World.size_alloc] at hb; have HB := Lib.hid hb; have hcell := read_cells hb; clear hb; obtain ⟨k0, k1, k2, k3⟩ := hcell)
  refine leaves_cons (f := 104) (args := #[.pointer (some ⟨w.heap.size, 0, none⟩), .pointer (some ⟨w.heap.size + 1, 0, none⟩)]) (by simp) (by simp [go_sem]) ?_
  refine (catch_panicking ⟨w.heap.size, 0, none⟩ (w.heap.size + 1) a n c x y s c1 _ k0 k1 k2 k3).mono ?_
  rintro e u' w'' ⟨rfl, rfl, rfl⟩
  obtain ⟨m0, m1⟩ := res_set (.int .i64 4) (.int .i64 n) k1 k2
  simp [Leaves, settle, results, Try.results90, go_sem, m0, m1]
  exact ⟨rfl, ((HB0.out.trans (HB.out.mono (by omega))).setCell (by simp) _).setCell (by simp) _⟩

set_option maxHeartbeats 1000000 in
theorem read32_ok (a : Option Addr) (n c p : Nat) (N E : Int) (hp : p ≤ n) (w : World)
    (H : ∀ w0, Below w.heap.size w w0 → Calls Try.prog 92 #[.slice a n c, .int .i64 p] w0 (NumOk w0 N E)) :
    Calls Try.prog 90 #[.slice a n c, .int .i64 p, .func (.func 92) #[] #[]] w (GetPost w N E 0 0) := by
  have hmf : ∀ (fn : Fn) (first cap : Array Value) (w : World), (Instr.makeFunc fn first cap).run Try.prog w = .ok (.func fn first cap) w := fun _ _ _ _ => rfl
  have hb0 : Below w.heap.size w ((w.alloc (.cells #[.slice a n c] 43)).alloc (.cells #[.int .i64 0, .int .i64 0] 54)) := ((Below.refl _ _).alloc (Nat.le_refl _) _).alloc (by simp) _
  have HB0 := Lib.hid hb0
  have HH := Lib.hid (H _ hb0)
  clear hb0 H
  go_enter_defers Try.func90, Try.ntmps90
  go_wp2_with (go_at_call 92; refine HH.out.mono ?_; rintro e w1 ⟨rfl, hb⟩; simp only [World.size_alloc] at hb; have HB := Lib.hid hb; have hcell := read_cells hb; clear hb; obtain ⟨k0, k1, k2, k3⟩ := hcell)
  refine leaves_cons (f := 104) (args := #[.pointer (some ⟨w.heap.size, 0, none⟩), .pointer (some ⟨w.heap.size + 1, 0, none⟩)]) (by simp) (by simp [go_sem]) ?_
  refine (catch_idle ⟨w.heap.size, 0, none⟩ ⟨w.heap.size + 1, 0, none⟩ _).mono ?_
  rintro e u' w'' ⟨rfl, rfl, rfl⟩
  obtain ⟨m0, m1⟩ := res_set (.int .i64 0) (.int .i64 0) k1 k2
  simp [Leaves, settle, results, Try.results90, go_sem, m0, m1]
  exact ⟨rfl, ((HB0.out.trans (HB.out.mono (by omega))).setCell (by simp) _).setCell (by simp) _⟩

set_option maxHeartbeats 1000000 in
theorem read32_no (a : Option Addr) (n c p : Nat) (hp : p ≤ n) (w : World)
    (H : ∀ w0, Below w.heap.size w w0 → Calls Try.prog 92 #[.slice a n c, .int .i64 p] w0 (NumBad w0)) :
    Calls Try.prog 90 #[.slice a n c, .int .i64 p, .func (.func 92) #[] #[]] w (GetPost w 0 0 4 n) := by
  have hmf : ∀ (fn : Fn) (first cap : Array Value) (w : World), (Instr.makeFunc fn first cap).run Try.prog w = .ok (.func fn first cap) w := fun _ _ _ _ => rfl
  have hb0 : Below w.heap.size w ((w.alloc (.cells #[.slice a n c] 43)).alloc (.cells #[.int .i64 0, .int .i64 0] 54)) := ((Below.refl _ _).alloc (Nat.le_refl _) _).alloc (by simp) _
  have HB0 := Lib.hid hb0
  have HH := Lib.hid (H _ hb0)
  clear hb0 H
  go_enter_defers Try.func90, Try.ntmps90
  go_wp2_with (go_at_call 92; refine HH.out.mono ?_; rintro e w1 ⟨x, y, s, c1, rfl, hb⟩; simp only [World.size_alloc] at hb; have HB := Lib.hid hb; have hcell := read_cells hb; clear hb; obtain ⟨k0, k1, k2, k3⟩ := hcell)
  refine leaves_cons (f := 104) (args := #[.pointer (some ⟨w.heap.size, 0, none⟩), .pointer (some ⟨w.heap.size + 1, 0, none⟩)]) (by simp) (by simp [go_sem]) ?_
  refine (catch_panicking ⟨w.heap.size, 0, none⟩ (w.heap.size + 1) a n c x y s c1 _ k0 k1 k2 k3).mono ?_
  rintro e u' w'' ⟨rfl, rfl, rfl⟩
  obtain ⟨m0, m1⟩ := res_set (.int .i64 4) (.int .i64 n) k1 k2
  simp [Leaves, settle, results, Try.results90, go_sem, m0, m1]
  exact ⟨rfl, ((HB0.out.trans (HB.out.mono (by omega))).setCell (by simp) _).setCell (by simp) _⟩

/-- The fault's number, where it is, and what is told where there is none. -/
def getE (sz len : Nat) (t : Int) : Int := if t < 0 ∨ (len : Int) < t then 5 else if (len : Int) < t + sz then 4 else 0

def getA (sz len : Nat) (t : Int) : Int := if 0 ≤ t ∧ t ≤ (len : Int) ∧ (len : Int) < t + sz then len else 0

def getF (sz len : Nat) (t v : Int) : Int := if 0 ≤ t ∧ t + sz ≤ (len : Int) then v else 0

theorem read16_any {w : World} {lo hi c : Nat} {a : Option Addr} {l : List Int} (h : Sl w lo hi (.slice a l.length c) l) (hb : ByteL l) (hl : l.length ≤ 1000000) (hhi : hi ≤ w.heap.size) (t : Int) :
    Calls Try.prog 90 #[.slice a l.length c, .int .i64 t, .func (.func 91) #[] #[]] w (GetPost w (getF 2 l.length t (nAt2 l t.toNat)) (getF 2 l.length t (t + 2)) (getE 2 l.length t) (getA 2 l.length t)) := by
  by_cases h0 : t < 0 ∨ (l.length : Int) < t
  · have e1 : ∀ v, getF 2 l.length t v = 0 := fun v => by unfold getF; rw [if_neg (by omega)]
    have e2 : getE 2 l.length t = 5 := by unfold getE; rw [if_pos h0]
    have e3 : getA 2 l.length t = 0 := by unfold getA; rw [if_neg (by omega)]
    rw [e1, e1, e2, e3]
    exact read_out a l.length c _ t h0 w
  · obtain ⟨p, rfl⟩ : ∃ p : Nat, t = p := ⟨t.toNat, by omega⟩
    by_cases h1 : p + 2 ≤ l.length
    · have e1 : ∀ v, getF 2 l.length p v = v := fun v => by unfold getF; rw [if_pos (by omega)]
      have e2 : getE 2 l.length p = 0 := by unfold getE; rw [if_neg h0, if_neg (by omega)]
      have e3 : getA 2 l.length p = 0 := by unfold getA; rw [if_neg (by omega)]
      rw [e1, e1, e2, e3, Int.toNat_natCast]
      exact read16_ok a l.length c p _ _ (by omega) w fun w0 hw => number2_fine (h.below hw hhi) hb hl h1
    · have e1 : ∀ v, getF 2 l.length p v = 0 := fun v => by unfold getF; rw [if_neg (by omega)]
      have e2 : getE 2 l.length p = 4 := by unfold getE; rw [if_neg h0, if_pos (by omega)]
      have e3 : getA 2 l.length p = l.length := by unfold getA; rw [if_pos (by omega)]
      rw [e1, e1, e2, e3]
      exact read16_no a l.length c p (by omega) w fun w0 hw => number2_short (h.below hw hhi) hb hl (by omega) (by omega)

set_option maxHeartbeats 400000 in
theorem get16_any {w : World} {lo hi : Nat} {v : Value} {l : List Int} (h : Sl w lo hi v l) (hb : ByteL l) (hl : l.length ≤ 1000000) (hhi : hi ≤ w.heap.size) (t : Int) :
    Calls Try.prog 72 #[v, .int .i64 t] w (GetPost w (getF 2 l.length t (nAt2 l t.toNat)) (getF 2 l.length t (t + 2)) (getE 2 l.length t) (getA 2 l.length t)) := by
  have hb0 : Below w.heap.size w (w.alloc (.cells #[.int .i64 0, .int .i64 0] 54)) := (Below.refl _ _).alloc (Nat.le_refl _) _
  have hs := h.below hb0 hhi
  obtain ⟨a, c, rfl, _⟩ := h
  have HH := Lib.hid (read16_any hs hb hl (by simp; omega) t)
  have HB0 := Lib.hid hb0
  clear hb0 hs hb
  generalize getF 2 l.length t (nAt2 l t.toNat) = N at *
  generalize getF 2 l.length t (t + 2) = E at *
  generalize getE 2 l.length t = F at *
  generalize getA 2 l.length t = A at *
  go_enter Try.func72, Try.ntmps72
  go_wp2_with (go_at_call 90; refine HH.out.mono ?_; rintro e w1 ⟨rfl, hb⟩; simp only [World.size_alloc] at hb; have HB := Lib.hid hb; have hcell := res_cells hb; clear hb; obtain ⟨k1, k2, k3⟩ := hcell)
  obtain ⟨m0, m1⟩ := res_set (.int .i64 F) (.int .i64 A) k1 k2
  refine bodyPost_ret (v := .tuple #[.int .i64 N, .int .i64 E, .agg #[.int .i64 F, .int .i64 A]]) (by simp [results, Try.results72, go_sem, m0, m1]) rfl ⟨rfl, ?_⟩
  exact ((HB0.out.trans (HB.out.mono (by omega))).setCell (by simp) _).setCell (by simp) _

theorem read32_any {w : World} {lo hi c : Nat} {a : Option Addr} {l : List Int} (h : Sl w lo hi (.slice a l.length c) l) (hb : ByteL l) (hl : l.length ≤ 1000000) (hhi : hi ≤ w.heap.size) (t : Int) :
    Calls Try.prog 90 #[.slice a l.length c, .int .i64 t, .func (.func 92) #[] #[]] w (GetPost w (getF 4 l.length t (nAt4 l t.toNat)) (getF 4 l.length t (t + 4)) (getE 4 l.length t) (getA 4 l.length t)) := by
  by_cases h0 : t < 0 ∨ (l.length : Int) < t
  · have e1 : ∀ v, getF 4 l.length t v = 0 := fun v => by unfold getF; rw [if_neg (by omega)]
    have e2 : getE 4 l.length t = 5 := by unfold getE; rw [if_pos h0]
    have e3 : getA 4 l.length t = 0 := by unfold getA; rw [if_neg (by omega)]
    rw [e1, e1, e2, e3]
    exact read_out a l.length c _ t h0 w
  · obtain ⟨p, rfl⟩ : ∃ p : Nat, t = p := ⟨t.toNat, by omega⟩
    by_cases h1 : p + 4 ≤ l.length
    · have e1 : ∀ v, getF 4 l.length p v = v := fun v => by unfold getF; rw [if_pos (by omega)]
      have e2 : getE 4 l.length p = 0 := by unfold getE; rw [if_neg h0, if_neg (by omega)]
      have e3 : getA 4 l.length p = 0 := by unfold getA; rw [if_neg (by omega)]
      rw [e1, e1, e2, e3, Int.toNat_natCast]
      exact read32_ok a l.length c p _ _ (by omega) w fun w0 hw => number4_fine (h.below hw hhi) hb hl h1
    · have e1 : ∀ v, getF 4 l.length p v = 0 := fun v => by unfold getF; rw [if_neg (by omega)]
      have e2 : getE 4 l.length p = 4 := by unfold getE; rw [if_neg h0, if_pos (by omega)]
      have e3 : getA 4 l.length p = l.length := by unfold getA; rw [if_pos (by omega)]
      rw [e1, e1, e2, e3]
      exact read32_no a l.length c p (by omega) w fun w0 hw => number4_short (h.below hw hhi) hb hl (by omega) (by omega)

set_option maxHeartbeats 400000 in
theorem get32_any {w : World} {lo hi : Nat} {v : Value} {l : List Int} (h : Sl w lo hi v l) (hb : ByteL l) (hl : l.length ≤ 1000000) (hhi : hi ≤ w.heap.size) (t : Int) :
    Calls Try.prog 73 #[v, .int .i64 t] w (GetPost w (getF 4 l.length t (nAt4 l t.toNat)) (getF 4 l.length t (t + 4)) (getE 4 l.length t) (getA 4 l.length t)) := by
  have hb0 : Below w.heap.size w (w.alloc (.cells #[.int .i64 0, .int .i64 0] 54)) := (Below.refl _ _).alloc (Nat.le_refl _) _
  have hs := h.below hb0 hhi
  obtain ⟨a, c, rfl, _⟩ := h
  have HH := Lib.hid (read32_any hs hb hl (by simp; omega) t)
  have HB0 := Lib.hid hb0
  clear hb0 hs hb
  generalize getF 4 l.length t (nAt4 l t.toNat) = N at *
  generalize getF 4 l.length t (t + 4) = E at *
  generalize getE 4 l.length t = F at *
  generalize getA 4 l.length t = A at *
  go_enter Try.func73, Try.ntmps73
  go_wp2_with (go_at_call 90; refine HH.out.mono ?_; rintro e w1 ⟨rfl, hb⟩; simp only [World.size_alloc] at hb; have HB := Lib.hid hb; have hcell := res_cells hb; clear hb; obtain ⟨k1, k2, k3⟩ := hcell)
  obtain ⟨m0, m1⟩ := res_set (.int .i64 F) (.int .i64 A) k1 k2
  refine bodyPost_ret (v := .tuple #[.int .i64 N, .int .i64 E, .agg #[.int .i64 F, .int .i64 A]]) (by simp [results, Try.results73, go_sem, m0, m1]) rfl ⟨rfl, ?_⟩
  exact ((HB0.out.trans (HB.out.mono (by omega))).setCell (by simp) _).setCell (by simp) _
end Go.Proofs.Ytaikpgcmcmkdcaa
