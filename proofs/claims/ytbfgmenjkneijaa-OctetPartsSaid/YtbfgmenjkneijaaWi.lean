/-
  read: what a place behind the end, bytes that lack, and bytes that are there lead to. Get16, Get32.
-/
import Derived.Test.YtbfgmenjkneijaaWh
namespace Go.Proofs.Ytbfgmenjkneijaa
open Go.RowKit
set_option linter.unusedVariables false

def ByteL (l : List Int) : Prop := ∀ n ∈ l, 0 ≤ n ∧ n ≤ 255
theorem ByteL.at_ {l : List Int} (h : ByteL l) (k : Nat) (hk : k < l.length) : 0 ≤ l.getD k 0 ∧ l.getD k 0 ≤ 255 := by
  rw [List.getD, List.getElem?_eq_getElem hk]
  exact h _ (List.getElem_mem hk)

def GetPost (w : World) (N E F A : Int) (e : Ending) (w' : World) : Prop :=
  e = .returned (.tuple #[.int .i64 N, .int .i64 E, .agg #[.int .i64 F, .int .i64 A]]) ∧ Below w.heap.size w w'

/-- What number tells: the number and where it ends. -/
def NumOk (w : World) (N E : Int) (e : Ending) (w' : World) : Prop := e = .returned (.tuple #[.int .i64 N, .int .i64 E]) ∧ Below w.heap.size w w'

def nAt2 (l : List Int) (p : Nat) : Int := num2 (l.getD p 0) (l.getD (p + 1) 0)
def nAt4 (l : List Int) (p : Nat) : Int := num4 (l.getD p 0) (l.getD (p + 1) 0) (l.getD (p + 2) 0) (l.getD (p + 3) 0)

theorem number2_fine {w : World} {lo hi p c : Nat} {a : Option Addr} {l : List Int} (h : Sl w lo hi (.slice a l.length c) l) (hb : ByteL l) (hl : l.length ≤ 1000000) (hp : p + 2 ≤ l.length) :
    Calls Try.prog 29 #[.slice a l.length c, .int .i64 p] w (NumOk w (nAt2 l p) (p + 2)) := by
  obtain ⟨a', c', he, hc, hn, hq⟩ := h
  injection he with e1 e2 e3
  subst e1; subst e3
  obtain ⟨b, off, rfl, _, _, hx⟩ := hq (by omega)
  have y0 := hb.at_ p (by omega)
  have y1 := hb.at_ (p + 1) (by omega)
  exact number2_ok b off l.length p c _ _ hp hl w (hx p (by omega)) y0.1 y0.2 (hx (p + 1) (by omega)) y1.1 y1.2
theorem number2_short {w : World} {lo hi p c : Nat} {a : Option Addr} {l : List Int} (h : Sl w lo hi (.slice a l.length c) l) (hb : ByteL l) (hl : l.length ≤ 1000000) (hp : p ≤ l.length) (hs : l.length < p + 2) :
    Calls Try.prog 29 #[.slice a l.length c, .int .i64 p] w (NumBad w) := by
  obtain ⟨a', c', he, hc, hn, hq⟩ := h
  injection he with e1 e2 e3
  subst e1; subst e3
  obtain h0 | h0 : l.length = p ∨ p + 1 = l.length := by omega
  · rw [h0] at hc ⊢
    exact number2_no0 a p c (by omega) (fun ha => by have := hn ha; omega) w
  · obtain ⟨b, off, rfl, _, _, hx⟩ := hq (by omega)
    have y0 := hb.at_ p (by omega)
    exact number2_no1 b off l.length p c _ h0 hl w (hx p (by omega)) y0.1 y0.2
theorem number4_fine {w : World} {lo hi p c : Nat} {a : Option Addr} {l : List Int} (h : Sl w lo hi (.slice a l.length c) l) (hb : ByteL l) (hl : l.length ≤ 1000000) (hp : p + 4 ≤ l.length) :
    Calls Try.prog 31 #[.slice a l.length c, .int .i64 p] w (NumOk w (nAt4 l p) (p + 4)) := by
  obtain ⟨a', c', he, hc, hn, hq⟩ := h
  injection he with e1 e2 e3
  subst e1; subst e3
  obtain ⟨b, off, rfl, _, _, hx⟩ := hq (by omega)
  have y0 := hb.at_ p (by omega)
  have y1 := hb.at_ (p + 1) (by omega)
  have y2 := hb.at_ (p + 2) (by omega)
  have y3 := hb.at_ (p + 3) (by omega)
  exact number4_ok b off l.length p c _ _ _ _ hp hl w (hx p (by omega)) y0.1 y0.2 (hx (p + 1) (by omega)) y1.1 y1.2 (hx (p + 2) (by omega)) y2.1 y2.2 (hx (p + 3) (by omega)) y3.1 y3.2
theorem number4_short {w : World} {lo hi p c : Nat} {a : Option Addr} {l : List Int} (h : Sl w lo hi (.slice a l.length c) l) (hb : ByteL l) (hl : l.length ≤ 1000000) (hp : p ≤ l.length) (hs : l.length < p + 4) :
    Calls Try.prog 31 #[.slice a l.length c, .int .i64 p] w (NumBad w) := by
  obtain ⟨a', c', he, hc, hn, hq⟩ := h
  injection he with e1 e2 e3
  subst e1; subst e3
  obtain h0 | h0 | h0 | h0 : l.length = p ∨ p + 1 = l.length ∨ p + 2 = l.length ∨ p + 3 = l.length := by omega
  · rw [h0] at hc ⊢
    exact number4_no0 a p c (by omega) (fun ha => by have := hn ha; omega) w
  · obtain ⟨b, off, rfl, _, _, hx⟩ := hq (by omega)
    have y0 := hb.at_ p (by omega)
    exact number4_no1 b off l.length p c _ h0 hl w (hx p (by omega)) y0.1 y0.2
  · obtain ⟨b, off, rfl, _, _, hx⟩ := hq (by omega)
    have y0 := hb.at_ p (by omega)
    have y1 := hb.at_ (p + 1) (by omega)
    exact number4_no2 b off l.length p c _ _ h0 hl w (hx p (by omega)) y0.1 y0.2 (hx (p + 1) (by omega)) y1.1 y1.2
  · obtain ⟨b, off, rfl, _, _, hx⟩ := hq (by omega)
    have y0 := hb.at_ p (by omega)
    have y1 := hb.at_ (p + 1) (by omega)
    have y2 := hb.at_ (p + 2) (by omega)
    exact number4_no3 b off l.length p c _ _ _ h0 hl w (hx p (by omega)) y0.1 y0.2 (hx (p + 1) (by omega)) y1.1 y1.2 (hx (p + 2) (by omega)) y2.1 y2.2

/-! ### read -/
theorem read_cells {w w1 : World} {v : Value} (hb : Below (w.heap.size + 1 + 1) ((w.alloc (.cells #[v] 22)).alloc (.cells #[.int .i64 0, .int .i64 0] 32)) w1) :
    w1.cell? ⟨w.heap.size, 0, none⟩ = some v ∧ w1.cell? ⟨w.heap.size + 1, 0, none⟩ = some (.int .i64 0) ∧ w1.cell? ⟨w.heap.size + 1, 1, none⟩ = some (.int .i64 0) ∧ ∀ j, w1.frozen? ⟨w.heap.size + 1, j, none⟩ = false := by
  refine ⟨(hb.cell (p := ⟨_, _, _⟩) (by simp; omega)).trans ?_, (hb.cell (p := ⟨_, _, _⟩) (by simp)).trans ?_, (hb.cell (p := ⟨_, _, _⟩) (by simp)).trans ?_, fun j => (hb.frozen (p := ⟨_, _, _⟩) (by simp)).trans ?_⟩
  all_goals simp [go_sem]

theorem res_set {w1 : World} {g : Nat} {x0 y0 : Value} (x y : Value) (k1 : w1.cell? ⟨g, 0, none⟩ = some x0) (k2 : w1.cell? ⟨g, 1, none⟩ = some y0) :
    (w1.setCell ⟨g, 0, none⟩ x).cell? ⟨g, 0, none⟩ = some x ∧ ((w1.setCell ⟨g, 0, none⟩ x).setCell ⟨g, 1, none⟩ y).cell? ⟨g, 1, none⟩ = some y := by
  have k3 : (w1.setCell ⟨g, 0, none⟩ x).cell? ⟨g, 1, none⟩ = some y0 := by
    rw [World.cell?_setCell_other _ _ _ _ (by simp)]
    exact k2
  exact ⟨World.cell?_setCell_same _ _ _ k1, World.cell?_setCell_same _ _ _ k3⟩

set_option maxHeartbeats 400000 in
theorem read_out (a : Option Addr) (n c : Nat) (f : Value) (p : Int) (hp : p < 0 ∨ n < p) (w : World) : Calls Try.prog 28 #[.slice a n c, .int .i64 p, f] w (GetPost w 0 0 5 0) := by
  have hmf : ∀ (fn : Fn) (first cap : Array Value) (w : World), (Instr.makeFunc fn first cap).run Try.prog w = .ok (.func fn first cap) w := fun _ _ _ _ => rfl
  go_enter_defers Try.func28, Try.ntmps28
  go_wp2
  all_goals
    simp [Leaves, bodyPostD, results, Try.results28, go_sem]
    exact ⟨rfl, ((Below.refl _ _).alloc (Nat.le_refl _) _).alloc (by simp) _⟩

set_option maxHeartbeats 1000000 in
theorem read16_ok (a : Option Addr) (n c p : Nat) (N E : Int) (hp : p ≤ n) (w : World)
    (H : ∀ w0, Below w.heap.size w w0 → Calls Try.prog 29 #[.slice a n c, .int .i64 p] w0 (NumOk w0 N E)) :
    Calls Try.prog 28 #[.slice a n c, .int .i64 p, .func (.func 29) #[] #[]] w (GetPost w N E 0 0) := by
  have hmf : ∀ (fn : Fn) (first cap : Array Value) (w : World), (Instr.makeFunc fn first cap).run Try.prog w = .ok (.func fn first cap) w := fun _ _ _ _ => rfl
  have hb0 : Below w.heap.size w ((w.alloc (.cells #[.slice a n c] 22)).alloc (.cells #[.int .i64 0, .int .i64 0] 32)) := ((Below.refl _ _).alloc (Nat.le_refl _) _).alloc (by simp) _
  have HB0 := Lib.hid hb0
  have HH := Lib.hid (H _ hb0)
  clear hb0 H
  go_enter_defers Try.func28, Try.ntmps28
  go_wp2_with (go_at_call 29; refine HH.out.mono ?_; rintro e w1 ⟨rfl, hb⟩; simp only [World.size_alloc] at hb; have HB := Lib.hid hb; have hcell := read_cells hb; clear hb; obtain ⟨k0, k1, k2, k3⟩ := hcell)
  refine leaves_cons (f := 35) (args := #[.pointer (some ⟨w.heap.size, 0, none⟩), .pointer (some ⟨w.heap.size + 1, 0, none⟩)]) (by simp) (by simp [go_sem]) ?_
  refine (catch_idle ⟨w.heap.size, 0, none⟩ ⟨w.heap.size + 1, 0, none⟩ _).mono ?_
  rintro e u' w'' ⟨rfl, rfl, rfl⟩
  obtain ⟨m0, m1⟩ := res_set (.int .i64 0) (.int .i64 0) k1 k2
  simp [Leaves, settle, results, Try.results28, go_sem, m0, m1]
  exact ⟨rfl, ((HB0.out.trans (HB.out.mono (by omega))).setCell (by simp) _).setCell (by simp) _⟩

set_option maxHeartbeats 1000000 in
theorem read16_no (a : Option Addr) (n c p : Nat) (hp : p ≤ n) (w : World)
    (H : ∀ w0, Below w.heap.size w w0 → Calls Try.prog 29 #[.slice a n c, .int .i64 p] w0 (NumBad w0)) :
    Calls Try.prog 28 #[.slice a n c, .int .i64 p, .func (.func 29) #[] #[]] w (GetPost w 0 0 4 n) := by
  have hmf : ∀ (fn : Fn) (first cap : Array Value) (w : World), (Instr.makeFunc fn first cap).run Try.prog w = .ok (.func fn first cap) w := fun _ _ _ _ => rfl
  have hb0 : Below w.heap.size w ((w.alloc (.cells #[.slice a n c] 22)).alloc (.cells #[.int .i64 0, .int .i64 0] 32)) := ((Below.refl _ _).alloc (Nat.le_refl _) _).alloc (by simp) _
  have HB0 := Lib.hid hb0
  have HH := Lib.hid (H _ hb0)
  clear hb0 H
  go_enter_defers Try.func28, Try.ntmps28
  go_wp2_with (go_at_call 29; refine HH.out.mono ?_; rintro e w1 ⟨x, y, s, c1, rfl, hb⟩; simp only [World.size_alloc] at hb; have HB := Lib.hid hb; have hcell := read_cells hb; clear hb; obtain ⟨k0, k1, k2, k3⟩ := hcell)
  refine leaves_cons (f := 35) (args := #[.pointer (some ⟨w.heap.size, 0, none⟩), .pointer (some ⟨w.heap.size + 1, 0, none⟩)]) (by simp) (by simp [go_sem]) ?_
  refine (catch_panicking ⟨w.heap.size, 0, none⟩ (w.heap.size + 1) a n c x y s c1 _ k0 k1 k2 k3).mono ?_
  rintro e u' w'' ⟨rfl, rfl, rfl⟩
  obtain ⟨m0, m1⟩ := res_set (.int .i64 4) (.int .i64 n) k1 k2
  simp [Leaves, settle, results, Try.results28, go_sem, m0, m1]
  exact ⟨rfl, ((HB0.out.trans (HB.out.mono (by omega))).setCell (by simp) _).setCell (by simp) _⟩

set_option maxHeartbeats 1000000 in
theorem read32_ok (a : Option Addr) (n c p : Nat) (N E : Int) (hp : p ≤ n) (w : World)
    (H : ∀ w0, Below w.heap.size w w0 → Calls Try.prog 31 #[.slice a n c, .int .i64 p] w0 (NumOk w0 N E)) :
    Calls Try.prog 28 #[.slice a n c, .int .i64 p, .func (.func 31) #[] #[]] w (GetPost w N E 0 0) := by
  have hmf : ∀ (fn : Fn) (first cap : Array Value) (w : World), (Instr.makeFunc fn first cap).run Try.prog w = .ok (.func fn first cap) w := fun _ _ _ _ => rfl
  have hb0 : Below w.heap.size w ((w.alloc (.cells #[.slice a n c] 22)).alloc (.cells #[.int .i64 0, .int .i64 0] 32)) := ((Below.refl _ _).alloc (Nat.le_refl _) _).alloc (by simp) _
  have HB0 := Lib.hid hb0
  have HH := Lib.hid (H _ hb0)
  clear hb0 H
  go_enter_defers Try.func28, Try.ntmps28
  go_wp2_with (go_at_call 31; refine HH.out.mono ?_; rintro e w1 ⟨rfl, hb⟩; simp only [World.size_alloc] at hb; have HB := Lib.hid hb; have hcell := read_cells hb; clear hb; obtain ⟨k0, k1, k2, k3⟩ := hcell)
  refine leaves_cons (f := 35) (args := #[.pointer (some ⟨w.heap.size, 0, none⟩), .pointer (some ⟨w.heap.size + 1, 0, none⟩)]) (by simp) (by simp [go_sem]) ?_
  refine (catch_idle ⟨w.heap.size, 0, none⟩ ⟨w.heap.size + 1, 0, none⟩ _).mono ?_
  rintro e u' w'' ⟨rfl, rfl, rfl⟩
  obtain ⟨m0, m1⟩ := res_set (.int .i64 0) (.int .i64 0) k1 k2
  simp [Leaves, settle, results, Try.results28, go_sem, m0, m1]
  exact ⟨rfl, ((HB0.out.trans (HB.out.mono (by omega))).setCell (by simp) _).setCell (by simp) _⟩

set_option maxHeartbeats 1000000 in
theorem read32_no (a : Option Addr) (n c p : Nat) (hp : p ≤ n) (w : World)
    (H : ∀ w0, Below w.heap.size w w0 → Calls Try.prog 31 #[.slice a n c, .int .i64 p] w0 (NumBad w0)) :
    Calls Try.prog 28 #[.slice a n c, .int .i64 p, .func (.func 31) #[] #[]] w (GetPost w 0 0 4 n) := by
  have hmf : ∀ (fn : Fn) (first cap : Array Value) (w : World), (Instr.makeFunc fn first cap).run Try.prog w = .ok (.func fn first cap) w := fun _ _ _ _ => rfl
  have hb0 : Below w.heap.size w ((w.alloc (.cells #[.slice a n c] 22)).alloc (.cells #[.int .i64 0, .int .i64 0] 32)) := ((Below.refl _ _).alloc (Nat.le_refl _) _).alloc (by simp) _
  have HB0 := Lib.hid hb0
  have HH := Lib.hid (H _ hb0)
  clear hb0 H
  go_enter_defers Try.func28, Try.ntmps28
  go_wp2_with (go_at_call 31; refine HH.out.mono ?_; rintro e w1 ⟨x, y, s, c1, rfl, hb⟩; simp only [World.size_alloc] at hb; have HB := Lib.hid hb; have hcell := read_cells hb; clear hb; obtain ⟨k0, k1, k2, k3⟩ := hcell)
  refine leaves_cons (f := 35) (args := #[.pointer (some ⟨w.heap.size, 0, none⟩), .pointer (some ⟨w.heap.size + 1, 0, none⟩)]) (by simp) (by simp [go_sem]) ?_
  refine (catch_panicking ⟨w.heap.size, 0, none⟩ (w.heap.size + 1) a n c x y s c1 _ k0 k1 k2 k3).mono ?_
  rintro e u' w'' ⟨rfl, rfl, rfl⟩
  obtain ⟨m0, m1⟩ := res_set (.int .i64 4) (.int .i64 n) k1 k2
  simp [Leaves, settle, results, Try.results28, go_sem, m0, m1]
  exact ⟨rfl, ((HB0.out.trans (HB.out.mono (by omega))).setCell (by simp) _).setCell (by simp) _⟩

/-- The fault's number, where it is, and what is told where there is none. -/
def getE (sz len : Nat) (t : Int) : Int := if t < 0 ∨ (len : Int) < t then 5 else if (len : Int) < t + sz then 4 else 0
def getA (sz len : Nat) (t : Int) : Int := if 0 ≤ t ∧ t ≤ (len : Int) ∧ (len : Int) < t + sz then len else 0
def getF (sz len : Nat) (t v : Int) : Int := if 0 ≤ t ∧ t + sz ≤ (len : Int) then v else 0

theorem res_cells {w w1 : World} {x y : Value} (hb : Below (w.heap.size + 1) (w.alloc (.cells #[x, y] 32)) w1) :
    w1.cell? ⟨w.heap.size, 0, none⟩ = some x ∧ w1.cell? ⟨w.heap.size, 1, none⟩ = some y ∧ ∀ j, w1.frozen? ⟨w.heap.size, j, none⟩ = false := by
  refine ⟨(hb.cell (p := ⟨_, _, _⟩) (by simp)).trans ?_, (hb.cell (p := ⟨_, _, _⟩) (by simp)).trans ?_, fun j => (hb.frozen (p := ⟨_, _, _⟩) (by simp)).trans ?_⟩
  all_goals simp [go_sem]

theorem read16_any {w : World} {lo hi c : Nat} {a : Option Addr} {l : List Int} (h : Sl w lo hi (.slice a l.length c) l) (hb : ByteL l) (hl : l.length ≤ 1000000) (hhi : hi ≤ w.heap.size) (t : Int) :
    Calls Try.prog 28 #[.slice a l.length c, .int .i64 t, .func (.func 29) #[] #[]] w (GetPost w (getF 2 l.length t (nAt2 l t.toNat)) (getF 2 l.length t (t + 2)) (getE 2 l.length t) (getA 2 l.length t)) := by
  by_cases h0 : t < 0 ∨ (l.length : Int) < t
  · have e1 : ∀ v, getF 2 l.length t v = 0 := fun v => by unfold getF; rw [if_neg (by omega)]
    have e2 : getE 2 l.length t = 5 := by unfold getE; rw [if_pos h0]
    have e3 : getA 2 l.length t = 0 := by unfold getA; rw [if_neg (by omega)]
    rw [e1, e1, e2, e3]
    exact read_out a l.length c _ t h0 w
  · obtain ⟨p, rfl⟩ : ∃ p : Nat, t = p := ⟨t.toNat, by omega⟩
    by_cases h1 : p + 2 ≤ l.length
    · have e1 : ∀ v, getF 2 l.length p v = v := fun v => by unfold getF; rw [if_pos (by omega)]
      have e2 : getE 2 l.length p = 0 := by unfold getE; rw [if_neg h0, if_neg (by omega)]
      have e3 : getA 2 l.length p = 0 := by unfold getA; rw [if_neg (by omega)]
      rw [e1, e1, e2, e3, Int.toNat_natCast]
      exact read16_ok a l.length c p _ _ (by omega) w fun w0 hw => number2_fine (h.below hw hhi) hb hl h1
    · have e1 : ∀ v, getF 2 l.length p v = 0 := fun v => by unfold getF; rw [if_neg (by omega)]
      have e2 : getE 2 l.length p = 4 := by unfold getE; rw [if_neg h0, if_pos (by omega)]
      have e3 : getA 2 l.length p = l.length := by unfold getA; rw [if_pos (by omega)]
      rw [e1, e1, e2, e3]
      exact read16_no a l.length c p (by omega) w fun w0 hw => number2_short (h.below hw hhi) hb hl (by omega) (by omega)

set_option maxHeartbeats 400000 in
theorem get16_any {w : World} {lo hi : Nat} {v : Value} {l : List Int} (h : Sl w lo hi v l) (hb : ByteL l) (hl : l.length ≤ 1000000) (hhi : hi ≤ w.heap.size) (t : Int) :
    Calls Try.prog 16 #[v, .int .i64 t] w (GetPost w (getF 2 l.length t (nAt2 l t.toNat)) (getF 2 l.length t (t + 2)) (getE 2 l.length t) (getA 2 l.length t)) := by
  have hb0 : Below w.heap.size w (w.alloc (.cells #[.int .i64 0, .int .i64 0] 32)) := (Below.refl _ _).alloc (Nat.le_refl _) _
  have hs := h.below hb0 hhi
  obtain ⟨a, c, rfl, _⟩ := h
  have HH := Lib.hid (read16_any hs hb hl (by simp; omega) t)
  have HB0 := Lib.hid hb0
  clear hb0 hs hb
  generalize getF 2 l.length t (nAt2 l t.toNat) = N at *
  generalize getF 2 l.length t (t + 2) = E at *
  generalize getE 2 l.length t = F at *
  generalize getA 2 l.length t = A at *
  go_enter Try.func16, Try.ntmps16
  go_wp2_with (go_at_call 28; refine HH.out.mono ?_; rintro e w1 ⟨rfl, hb⟩; simp only [World.size_alloc] at hb; have HB := Lib.hid hb; have hcell := res_cells hb; clear hb; obtain ⟨k1, k2, k3⟩ := hcell)
  obtain ⟨m0, m1⟩ := res_set (.int .i64 F) (.int .i64 A) k1 k2
  refine bodyPost_ret (v := .tuple #[.int .i64 N, .int .i64 E, .agg #[.int .i64 F, .int .i64 A]]) (by simp [results, Try.results16, go_sem, m0, m1]) rfl ⟨rfl, ?_⟩
  exact ((HB0.out.trans (HB.out.mono (by omega))).setCell (by simp) _).setCell (by simp) _

theorem read32_any {w : World} {lo hi c : Nat} {a : Option Addr} {l : List Int} (h : Sl w lo hi (.slice a l.length c) l) (hb : ByteL l) (hl : l.length ≤ 1000000) (hhi : hi ≤ w.heap.size) (t : Int) :
    Calls Try.prog 28 #[.slice a l.length c, .int .i64 t, .func (.func 31) #[] #[]] w (GetPost w (getF 4 l.length t (nAt4 l t.toNat)) (getF 4 l.length t (t + 4)) (getE 4 l.length t) (getA 4 l.length t)) := by
  by_cases h0 : t < 0 ∨ (l.length : Int) < t
  · have e1 : ∀ v, getF 4 l.length t v = 0 := fun v => by unfold getF; rw [if_neg (by omega)]
    have e2 : getE 4 l.length t = 5 := by unfold getE; rw [if_pos h0]
    have e3 : getA 4 l.length t = 0 := by unfold getA; rw [if_neg (by omega)]
    rw [e1, e1, e2, e3]
    exact read_out a l.length c _ t h0 w
  · obtain ⟨p, rfl⟩ : ∃ p : Nat, t = p := ⟨t.toNat, by omega⟩
    by_cases h1 : p + 4 ≤ l.length
    · have e1 : ∀ v, getF 4 l.length p v = v := fun v => by unfold getF; rw [if_pos (by omega)]
      have e2 : getE 4 l.length p = 0 := by unfold getE; rw [if_neg h0, if_neg (by omega)]
      have e3 : getA 4 l.length p = 0 := by unfold getA; rw [if_neg (by omega)]
      rw [e1, e1, e2, e3, Int.toNat_natCast]
      exact read32_ok a l.length c p _ _ (by omega) w fun w0 hw => number4_fine (h.below hw hhi) hb hl h1
    · have e1 : ∀ v, getF 4 l.length p v = 0 := fun v => by unfold getF; rw [if_neg (by omega)]
      have e2 : getE 4 l.length p = 4 := by unfold getE; rw [if_neg h0, if_pos (by omega)]
      have e3 : getA 4 l.length p = l.length := by unfold getA; rw [if_pos (by omega)]
      rw [e1, e1, e2, e3]
      exact read32_no a l.length c p (by omega) w fun w0 hw => number4_short (h.below hw hhi) hb hl (by omega) (by omega)

set_option maxHeartbeats 400000 in
theorem get32_any {w : World} {lo hi : Nat} {v : Value} {l : List Int} (h : Sl w lo hi v l) (hb : ByteL l) (hl : l.length ≤ 1000000) (hhi : hi ≤ w.heap.size) (t : Int) :
    Calls Try.prog 18 #[v, .int .i64 t] w (GetPost w (getF 4 l.length t (nAt4 l t.toNat)) (getF 4 l.length t (t + 4)) (getE 4 l.length t) (getA 4 l.length t)) := by
  have hb0 : Below w.heap.size w (w.alloc (.cells #[.int .i64 0, .int .i64 0] 32)) := (Below.refl _ _).alloc (Nat.le_refl _) _
  have hs := h.below hb0 hhi
  obtain ⟨a, c, rfl, _⟩ := h
  have HH := Lib.hid (read32_any hs hb hl (by simp; omega) t)
  have HB0 := Lib.hid hb0
  clear hb0 hs hb
  generalize getF 4 l.length t (nAt4 l t.toNat) = N at *
  generalize getF 4 l.length t (t + 4) = E at *
  generalize getE 4 l.length t = F at *
  generalize getA 4 l.length t = A at *
  go_enter Try.func18, Try.ntmps18
  go_wp2_with (go_at_call 28; refine HH.out.mono ?_; rintro e w1 ⟨rfl, hb⟩; simp only [World.size_alloc] at hb; have HB := Lib.hid hb; have hcell := res_cells hb; clear hb; obtain ⟨k1, k2, k3⟩ := hcell)
  obtain ⟨m0, m1⟩ := res_set (.int .i64 F) (.int .i64 A) k1 k2
  refine bodyPost_ret (v := .tuple #[.int .i64 N, .int .i64 E, .agg #[.int .i64 F, .int .i64 A]]) (by simp [results, Try.results18, go_sem, m0, m1]) rfl ⟨rfl, ?_⟩
  exact ((HB0.out.trans (HB.out.mono (by omega))).setCell (by simp) _).setCell (by simp) _

end Go.Proofs.Ytbfgmenjkneijaa
