/-
  The document's Get16, Get32: the same as the program's.
-/
import Derived.Test.YtbfgmenjkneijaaWl
namespace Go.Proofs.Ytbfgmenjkneijaa
open Go.RowKit
set_option linter.unusedVariables false

theorem byt_getE (sz len : Nat) (t : Int) : bytE len t sz = getE sz len t := by unfold bytE getE; rw [if_neg (by omega)]
theorem byt_getA (sz len : Nat) (t : Int) : bytA len t sz = getA sz len t := by
  unfold bytA getA
  by_cases h : 0 ≤ t ∧ t ≤ (len : Int) ∧ (len : Int) < t + sz
  · rw [if_pos h, if_pos ⟨by omega, h⟩]
  · rw [if_neg h, if_neg (fun g => h g.2)]
theorem byt_getF (sz len : Nat) (t : Int) : bytF len t sz = getF sz len t (t + sz) := by
  unfold bytF getF
  by_cases h : 0 ≤ t ∧ t + sz ≤ (len : Int)
  · rw [if_pos h, if_pos ⟨by omega, h⟩]
  · rw [if_neg h, if_neg (fun g => h g.2)]

theorem below_lt {B : Nat} {w w1 : World} {o : Obj} (hb : Below B (w.alloc o) w1) : w.heap.size < w1.heap.size := by
  have := hb.size
  simp only [World.size_alloc] at this
  omega

theorem OwnR.some_ {w : World} {B : Nat} {v : Value} {l : List Int} (h : OwnR w B v l) (h0 : 0 < l.length) :
    ∃ b cap, v = .slice (some ⟨b, 0, none⟩) l.length cap ∧ b < w.heap.size ∧ ∀ j, j < l.length → w.cell? ⟨b, j, none⟩ = some (.int .u8 (l.getD j 0)) := by
  rcases h.2 with ⟨_, h1⟩ | ⟨g, cap, cur, rfl, _, _, _⟩
  · omega
  · obtain ⟨a', c', he, _, _, hx⟩ := h.sl
    injection he with e1 e2 e3
    obtain ⟨b, off, e4, _, h2, h3⟩ := hx h0
    rw [← e1] at e4
    injection e4 with e4
    injection e4 with e5 e6 e7
    subst e5; subst e6
    exact ⟨g, cap, rfl, h2, fun j hj => by have := h3 j hj; rwa [Nat.zero_add] at this⟩
theorem OwnR.two {w : World} {B : Nat} {v : Value} {x y : Int} (h : OwnR w B v [x, y]) :
    ∃ b cap, v = .slice (some ⟨b, 0, none⟩) 2 cap ∧ b < w.heap.size ∧ w.cell? ⟨b, 0, none⟩ = some (.int .u8 x) ∧ w.cell? ⟨b, 1, none⟩ = some (.int .u8 y) := by
  obtain ⟨b, cap, rfl, hb, hx⟩ := h.some_ (by simp)
  exact ⟨b, cap, rfl, hb, hx 0 (by simp), hx 1 (by simp)⟩
theorem OwnR.four {w : World} {B : Nat} {v : Value} {x y z t : Int} (h : OwnR w B v [x, y, z, t]) :
    ∃ b cap, v = .slice (some ⟨b, 0, none⟩) 4 cap ∧ b < w.heap.size ∧ w.cell? ⟨b, 0, none⟩ = some (.int .u8 x) ∧ w.cell? ⟨b, 1, none⟩ = some (.int .u8 y) ∧ w.cell? ⟨b, 2, none⟩ = some (.int .u8 z) ∧ w.cell? ⟨b, 3, none⟩ = some (.int .u8 t) := by
  obtain ⟨b, cap, rfl, hb, hx⟩ := h.some_ (by simp)
  exact ⟨b, cap, rfl, hb, hx 0 (by simp), hx 1 (by simp), hx 2 (by simp), hx 3 (by simp)⟩

set_option maxHeartbeats 1000000 in
theorem rget_no {a : Option Addr} {n c : Nat} {t sz F A : Int} {w : World} (hF : ¬ F = 0)
    (H : ∀ w0, Below w.heap.size w w0 → Calls Try.prog 21 #[.slice a n c, .int .i64 t, .int .i64 sz] w0 (RBytesPost w0 [] 0 F A)) :
    Calls Try.prog 30 #[.slice a n c, .int .i64 t, .int .i64 sz] w (GetPost w 0 0 F A) := by
  have hb0 : Below w.heap.size w (w.alloc (.cells #[.int .i64 0, .int .i64 0] 32)) := (Below.refl _ _).alloc (by simp) _
  have HB0 := Lib.hid hb0
  have HH := Lib.hid (H _ hb0)
  have e1 : (F == 0) = false := by simpa using hF
  have e2 : (F != 0) = true := by simpa using hF
  clear hb0 H
  go_enter Try.func30, Try.ntmps30
  go_wp2_with (go_at_call 21; refine HH.out.mono ?_; rintro e w1 ⟨v, rfl, h1, hb⟩; simp only [World.size_alloc] at hb; have HB := Lib.hid hb; have hcell := res_cells hb; have hsz : w.heap.size < w1.heap.size := below_lt hb; clear hb h1; obtain ⟨k1, k2, k3⟩ := hcell)
  go_region
  go_wp2_with fail
  obtain ⟨m0, m1⟩ := res_set (.int .i64 F) (.int .i64 A) k1 k2
  refine bodyPost_ret (v := .tuple #[.int .i64 0, .int .i64 0, .agg #[.int .i64 F, .int .i64 A]]) (by simp [results, Try.results30, go_sem, m0, m1, hsz]) rfl ⟨rfl, ?_⟩
  exact (((((HB0.out.trans (HB.out.mono (by omega))).setCell (by simp) _).setCell (by simp) _).alloc (by simp [World.setCell]; omega) _)).drew

set_option maxHeartbeats 1000000 in
theorem rget2_ok {a : Option Addr} {n c : Nat} {t E x y : Int} {w : World} (x0 : 0 ≤ x) (x1 : x ≤ 255) (y0 : 0 ≤ y) (y1 : y ≤ 255)
    (H : ∀ w0, Below w.heap.size w w0 → Calls Try.prog 21 #[.slice a n c, .int .i64 t, .int .i64 2] w0 (RBytesPost w0 [x, y] E 0 0)) :
    Calls Try.prog 30 #[.slice a n c, .int .i64 t, .int .i64 2] w (GetPost w (num2 x y) E 0 0) := by
  have e : num2 x y = 256 * x + y := by unfold num2; omega
  rw [e]
  clear e
  have hb0 : Below w.heap.size w (w.alloc (.cells #[.int .i64 0, .int .i64 0] 32)) := (Below.refl _ _).alloc (by simp) _
  have HB0 := Lib.hid hb0
  have HH := Lib.hid (H _ hb0)
  clear hb0 H
  go_enter Try.func30, Try.ntmps30
  go_wp2_with (go_at_call 21; refine HH.out.mono ?_; rintro e w1 ⟨v, rfl, h1, hb⟩; simp only [World.size_alloc] at hb; have HB := Lib.hid hb; have hcell := res_cells hb; have hsz : w.heap.size < w1.heap.size := below_lt hb; obtain ⟨b, cap, rfl, q1, q2, q3⟩ := h1.two; clear hb h1; obtain ⟨k1, k2, k3⟩ := hcell)
  refine wp_loop_rounds 3 ?_
  iterate 3 (rw [rounds_succ]; go_wp2)
  go_region
  go_wp2_with fail
  obtain ⟨m0, m1⟩ := res_set (.int .i64 0) (.int .i64 0) k1 k2
  refine bodyPost_ret (v := .tuple #[.int .i64 (256 * x + y), .int .i64 E, .agg #[.int .i64 0, .int .i64 0]]) (by simp [results, Try.results30, go_sem, m0, m1, hsz]) rfl ⟨rfl, ?_⟩
  exact (((((HB0.out.trans (HB.out.mono (by omega))).setCell (by simp) _).setCell (by simp) _).alloc (by simp [World.setCell]; omega) _)).drew

set_option maxHeartbeats 1000000 in
theorem rget4_ok {a : Option Addr} {n c : Nat} {t E x y z u : Int} {w : World} (x0 : 0 ≤ x) (x1 : x ≤ 255) (y0 : 0 ≤ y) (y1 : y ≤ 255) (z0 : 0 ≤ z) (z1 : z ≤ 255) (u0 : 0 ≤ u) (u1 : u ≤ 255)
    (H : ∀ w0, Below w.heap.size w w0 → Calls Try.prog 21 #[.slice a n c, .int .i64 t, .int .i64 4] w0 (RBytesPost w0 [x, y, z, u] E 0 0)) :
    Calls Try.prog 30 #[.slice a n c, .int .i64 t, .int .i64 4] w (GetPost w (num4 x y z u) E 0 0) := by
  have e : num4 x y z u = 256 * (256 * (256 * x + y) + z) + u := by unfold num4; omega
  rw [e]
  clear e
  have hb0 : Below w.heap.size w (w.alloc (.cells #[.int .i64 0, .int .i64 0] 32)) := (Below.refl _ _).alloc (by simp) _
  have HB0 := Lib.hid hb0
  have HH := Lib.hid (H _ hb0)
  clear hb0 H
  go_enter Try.func30, Try.ntmps30
  go_wp2_with (go_at_call 21; refine HH.out.mono ?_; rintro e w1 ⟨v, rfl, h1, hb⟩; simp only [World.size_alloc] at hb; have HB := Lib.hid hb; have hcell := res_cells hb; have hsz : w.heap.size < w1.heap.size := below_lt hb; obtain ⟨b, cap, rfl, q1, q2, q3, q4, q5⟩ := h1.four; clear hb h1; obtain ⟨k1, k2, k3⟩ := hcell)
  refine wp_loop_rounds 5 ?_
  iterate 5 (rw [rounds_succ]; go_wp2)
  go_region
  go_wp2_with fail
  obtain ⟨m0, m1⟩ := res_set (.int .i64 0) (.int .i64 0) k1 k2
  refine bodyPost_ret (v := .tuple #[.int .i64 (256 * (256 * (256 * x + y) + z) + u), .int .i64 E, .agg #[.int .i64 0, .int .i64 0]]) (by simp [results, Try.results30, go_sem, m0, m1, hsz]) rfl ⟨rfl, ?_⟩
  exact (((((HB0.out.trans (HB.out.mono (by omega))).setCell (by simp) _).setCell (by simp) _).alloc (by simp [World.setCell]; omega) _)).drew

theorem cutL_get (l : List Int) (p m j : Nat) (hj : j < m) : (cutL l p m)[j]? = l[p + j]? := by
  unfold cutL
  rw [List.getElem?_take, if_pos hj, List.getElem?_drop]

theorem cut2 (l : List Int) (p : Nat) (h : p + 2 ≤ l.length) : cutL l p 2 = [l.getD p 0, l.getD (p + 1) 0] := by
  apply List.ext_getElem
  · rw [cutL_len l p 2 h]; rfl
  · intro j h1 h2
    have hj : j < 2 := by rw [cutL_len l p 2 h] at h1; exact h1
    have e : (cutL l p 2)[j] = l.getD (p + j) 0 := by
      have h3 := List.getElem?_eq_getElem h1
      rw [cutL_get l p 2 j hj] at h3
      rw [List.getD, h3]; rfl
    rw [e]
    obtain rfl | rfl : j = 0 ∨ j = 1 := by omega
    all_goals rfl

theorem rgetn2_any {w : World} {lo hi : Nat} {v : Value} {l : List Int} (h : Sl w lo hi v l) (hb : ByteL l) (hl : l.length ≤ 1000000) (hhi : hi ≤ w.heap.size) (t : Int) :
    Calls Try.prog 30 #[v, .int .i64 t, .int .i64 2] w (GetPost w (getF 2 l.length t (nAt2 l t.toNat)) (getF 2 l.length t (t + 2)) (getE 2 l.length t) (getA 2 l.length t)) := by
  have H : ∀ w0, Below w.heap.size w w0 → Calls Try.prog 21 #[v, .int .i64 t, .int .i64 2] w0 (RBytesPost w0 (bytL l t 2) (bytF l.length t 2) (bytE l.length t 2) (bytA l.length t 2)) :=
    fun w0 hw => rbytes_any (h.below hw hhi) hl (Nat.le_trans hhi hw.size) t 2
  have q1 := byt_getE 2 l.length t
  have q2 := byt_getA 2 l.length t
  have q3 := byt_getF 2 l.length t
  simp only [Int.cast_ofNat_Int] at q1 q2 q3
  rw [q1, q2, q3] at H
  obtain ⟨a, c, rfl, _⟩ := h
  by_cases h1 : 0 ≤ t ∧ t + 2 ≤ (l.length : Int)
  · obtain ⟨p, rfl⟩ : ∃ p : Nat, t = p := ⟨t.toNat, by omega⟩
    have e1 : ∀ v, getF 2 l.length p v = v := fun v => by unfold getF; rw [if_pos (by omega)]
    have e2 : getE 2 l.length p = 0 := by unfold getE; rw [if_neg (by omega), if_neg (by omega)]
    have e3 : getA 2 l.length p = 0 := by unfold getA; rw [if_neg (by omega)]
    have e4 : bytL l p 2 = [l.getD p 0, l.getD (p + 1) 0] := by
      unfold bytL
      rw [if_pos (by omega), Int.toNat_natCast]
      exact cut2 l p (by omega)
    rw [e1, e2, e3, e4] at H
    rw [e1, e1, e2, e3, Int.toNat_natCast]
    have y0 := hb.at_ p (by omega)
    have y1 := hb.at_ (p + 1) (by omega)
    exact rget2_ok y0.1 y0.2 y1.1 y1.2 H
  · have e1 : ∀ v, getF 2 l.length t v = 0 := fun v => by unfold getF; rw [if_neg (by omega)]
    have e4 : bytL l t 2 = [] := by unfold bytL; rw [if_neg (by omega)]
    have e2 : ¬ getE 2 l.length t = 0 := by
      unfold getE
      by_cases g1 : t < 0 ∨ (l.length : Int) < t
      · rw [if_pos g1]; omega
      · rw [if_neg g1, if_pos (by omega)]; omega
    rw [e1, e4] at H
    rw [e1, e1]
    exact rget_no e2 H

set_option maxHeartbeats 400000 in
theorem rget16_any {w : World} {lo hi : Nat} {v : Value} {l : List Int} (h : Sl w lo hi v l) (hb : ByteL l) (hl : l.length ≤ 1000000) (hhi : hi ≤ w.heap.size) (t : Int) :
    Calls Try.prog 17 #[v, .int .i64 t] w (GetPost w (getF 2 l.length t (nAt2 l t.toNat)) (getF 2 l.length t (t + 2)) (getE 2 l.length t) (getA 2 l.length t)) := by
  have hb0 : Below w.heap.size w (w.alloc (.cells #[.int .i64 0, .int .i64 0] 32)) := (Below.refl _ _).alloc (Nat.le_refl _) _
  have HH := Lib.hid (rgetn2_any (h.below hb0 hhi) hb hl (by simp; omega) t)
  have HB0 := Lib.hid hb0
  clear hb0 hb h
  generalize getF 2 l.length t (nAt2 l t.toNat) = N at *
  generalize getF 2 l.length t (t + 2) = E at *
  generalize getE 2 l.length t = F at *
  generalize getA 2 l.length t = A at *
  go_enter Try.func17, Try.ntmps17
  go_wp2_with (go_at_call 30; refine HH.out.mono ?_; rintro e w1 ⟨rfl, hb⟩; simp only [World.size_alloc] at hb; have HB := Lib.hid hb; have hcell := res_cells hb; clear hb; obtain ⟨k1, k2, k3⟩ := hcell)
  obtain ⟨m0, m1⟩ := res_set (.int .i64 F) (.int .i64 A) k1 k2
  refine bodyPost_ret (v := .tuple #[.int .i64 N, .int .i64 E, .agg #[.int .i64 F, .int .i64 A]]) (by simp [results, Try.results17, go_sem, m0, m1]) rfl ⟨rfl, ?_⟩
  exact ((HB0.out.trans (HB.out.mono (by omega))).setCell (by simp) _).setCell (by simp) _

theorem cut4 (l : List Int) (p : Nat) (h : p + 4 ≤ l.length) : cutL l p 4 = [l.getD p 0, l.getD (p + 1) 0, l.getD (p + 2) 0, l.getD (p + 3) 0] := by
  apply List.ext_getElem
  · rw [cutL_len l p 4 h]; rfl
  · intro j h1 h2
    have hj : j < 4 := by rw [cutL_len l p 4 h] at h1; exact h1
    have e : (cutL l p 4)[j] = l.getD (p + j) 0 := by
      have h3 := List.getElem?_eq_getElem h1
      rw [cutL_get l p 4 j hj] at h3
      rw [List.getD, h3]; rfl
    rw [e]
    obtain rfl | rfl | rfl | rfl : j = 0 ∨ j = 1 ∨ j = 2 ∨ j = 3 := by omega
    all_goals rfl

theorem rgetn4_any {w : World} {lo hi : Nat} {v : Value} {l : List Int} (h : Sl w lo hi v l) (hb : ByteL l) (hl : l.length ≤ 1000000) (hhi : hi ≤ w.heap.size) (t : Int) :
    Calls Try.prog 30 #[v, .int .i64 t, .int .i64 4] w (GetPost w (getF 4 l.length t (nAt4 l t.toNat)) (getF 4 l.length t (t + 4)) (getE 4 l.length t) (getA 4 l.length t)) := by
  have H : ∀ w0, Below w.heap.size w w0 → Calls Try.prog 21 #[v, .int .i64 t, .int .i64 4] w0 (RBytesPost w0 (bytL l t 4) (bytF l.length t 4) (bytE l.length t 4) (bytA l.length t 4)) :=
    fun w0 hw => rbytes_any (h.below hw hhi) hl (Nat.le_trans hhi hw.size) t 4
  have q1 := byt_getE 4 l.length t
  have q2 := byt_getA 4 l.length t
  have q3 := byt_getF 4 l.length t
  simp only [Int.cast_ofNat_Int] at q1 q2 q3
  rw [q1, q2, q3] at H
  obtain ⟨a, c, rfl, _⟩ := h
  by_cases h1 : 0 ≤ t ∧ t + 4 ≤ (l.length : Int)
  · obtain ⟨p, rfl⟩ : ∃ p : Nat, t = p := ⟨t.toNat, by omega⟩
    have e1 : ∀ v, getF 4 l.length p v = v := fun v => by unfold getF; rw [if_pos (by omega)]
    have e2 : getE 4 l.length p = 0 := by unfold getE; rw [if_neg (by omega), if_neg (by omega)]
    have e3 : getA 4 l.length p = 0 := by unfold getA; rw [if_neg (by omega)]
    have e4 : bytL l p 4 = [l.getD p 0, l.getD (p + 1) 0, l.getD (p + 2) 0, l.getD (p + 3) 0] := by
      unfold bytL
      rw [if_pos (by omega), Int.toNat_natCast]
      exact cut4 l p (by omega)
    rw [e1, e2, e3, e4] at H
    rw [e1, e1, e2, e3, Int.toNat_natCast]
    have y0 := hb.at_ p (by omega)
    have y1 := hb.at_ (p + 1) (by omega)
    have y2 := hb.at_ (p + 2) (by omega)
    have y3 := hb.at_ (p + 3) (by omega)
    exact rget4_ok y0.1 y0.2 y1.1 y1.2 y2.1 y2.2 y3.1 y3.2 H
  · have e1 : ∀ v, getF 4 l.length t v = 0 := fun v => by unfold getF; rw [if_neg (by omega)]
    have e4 : bytL l t 4 = [] := by unfold bytL; rw [if_neg (by omega)]
    have e2 : ¬ getE 4 l.length t = 0 := by
      unfold getE
      by_cases g1 : t < 0 ∨ (l.length : Int) < t
      · rw [if_pos g1]; omega
      · rw [if_neg g1, if_pos (by omega)]; omega
    rw [e1, e4] at H
    rw [e1, e1]
    exact rget_no e2 H

set_option maxHeartbeats 400000 in
theorem rget32_any {w : World} {lo hi : Nat} {v : Value} {l : List Int} (h : Sl w lo hi v l) (hb : ByteL l) (hl : l.length ≤ 1000000) (hhi : hi ≤ w.heap.size) (t : Int) :
    Calls Try.prog 19 #[v, .int .i64 t] w (GetPost w (getF 4 l.length t (nAt4 l t.toNat)) (getF 4 l.length t (t + 4)) (getE 4 l.length t) (getA 4 l.length t)) := by
  have hb0 : Below w.heap.size w (w.alloc (.cells #[.int .i64 0, .int .i64 0] 32)) := (Below.refl _ _).alloc (Nat.le_refl _) _
  have HH := Lib.hid (rgetn4_any (h.below hb0 hhi) hb hl (by simp; omega) t)
  have HB0 := Lib.hid hb0
  clear hb0 hb h
  generalize getF 4 l.length t (nAt4 l t.toNat) = N at *
  generalize getF 4 l.length t (t + 4) = E at *
  generalize getE 4 l.length t = F at *
  generalize getA 4 l.length t = A at *
  go_enter Try.func19, Try.ntmps19
  go_wp2_with (go_at_call 30; refine HH.out.mono ?_; rintro e w1 ⟨rfl, hb⟩; simp only [World.size_alloc] at hb; have HB := Lib.hid hb; have hcell := res_cells hb; clear hb; obtain ⟨k1, k2, k3⟩ := hcell)
  obtain ⟨m0, m1⟩ := res_set (.int .i64 F) (.int .i64 A) k1 k2
  refine bodyPost_ret (v := .tuple #[.int .i64 N, .int .i64 E, .agg #[.int .i64 F, .int .i64 A]]) (by simp [results, Try.results19, go_sem, m0, m1]) rfl ⟨rfl, ?_⟩
  exact ((HB0.out.trans (HB.out.mono (by omega))).setCell (by simp) _).setCell (by simp) _

end Go.Proofs.Ytbfgmenjkneijaa
