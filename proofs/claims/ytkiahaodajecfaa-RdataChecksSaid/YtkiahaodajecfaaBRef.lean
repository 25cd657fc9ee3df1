/-
  The document's Put16, Put32, Bytes, Get16, Get32.
-/
import Derived.Test.YtkiahaodajecfaaBWords
import Derived.Test.YtkiahaodajecfaaBPut
import Derived.Test.YtkiahaodajecfaaBGet
import Derived.Test.YtkiahaodajecfaaBCut
namespace Go.Proofs.Ytkiahaodajecfaa
open Go.RowKit
set_option linter.unusedVariables false
set_option maxRecDepth 100000

/-- Bytes that are told by the document. -/
def RBytesPost (w : World) (L : List Int) (E F A : Int) (e : Ending) (w' : World) : Prop :=
  ∃ v, e = .returned (.tuple #[v, .int .i64 E, .agg #[.int .i64 F, .int .i64 A]]) ∧ OwnR w' w.heap.size v L ∧ Below w.heap.size w w'

set_option maxHeartbeats 1000000 in
theorem rbytes_ok {w : World} {lo hi c p m : Nat} {a : Option Addr} {l : List Int} (h : Sl w lo hi (.slice a l.length c) l) (hl : l.length ≤ 1000000) (hhi : hi ≤ w.heap.size) (hp : p + m ≤ l.length) :
    Calls Try.prog 76 #[.slice a l.length c, .int .i64 p, .int .i64 m] w (RBytesPost w (cutL l p m) (p + m) 0 0) := by
  obtain ⟨sv, hrun, hsl⟩ := slice_cut h hp
  have hb0 : Below w.heap.size w ((w.alloc (.cells #[.int .i64 0, .int .i64 0] 51)).alloc (.cells #[] 5)) := ((Below.refl _ _).alloc (Nat.le_refl _) _).alloc (by simp) _
  have HB0 := Lib.hid hb0
  have HS := Lib.hid (hsl.below hb0 hhi)
  have HL := Lib.hid (cutL_len l p m hp)
  obtain ⟨len, hle⟩ : ∃ len, len = l.length := ⟨_, rfl⟩
  rw [← hle] at hp hl hrun ⊢
  clear h hsl hb0 hle
  obtain ⟨L, hL⟩ : ∃ L, L = cutL l p m := ⟨_, rfl⟩
  rw [← hL] at HS HL ⊢
  clear hL
  go_enter Try.func76, Try.ntmps76
  go_wp2_with (at_builtin; refine wpList_app rfl (.tmp 30) (.tmp 36) rfl (w.heap.size + 1) lo hi _ sv [] L rfl rfl ?c1 HS.out ?c2 ?c3 ?_)
  case c1 =>
    have := World.ownsRow_made (w.alloc (.cells #[.int .i64 0, .int .i64 0] 51)) (base := w.heap.size + 1) (e := 5) (size := 1) #[] 0 (by simp) (by decide) (by simp)
    simp only [World.size_alloc] at this
    exact this
  case c2 => rw [HL.out]; simp; omega
  case c3 => simp
  intro v' w1 HO HB1
  have hcell := res_cells (((Below.refl _ _).alloc (by simp) (.cells #[] 5)).trans HB1.out)
  obtain ⟨k1, k2, k3⟩ := hcell
  have HB := Lib.hid (HB0.out.trans (HB1.out.mono (by omega)))
  clear HB0 HB1 HS hrun
  go_wp2_with fail
  obtain ⟨m0, m1⟩ := res_set (.int .i64 0) (.int .i64 0) k1 k2
  refine bodyPost_ret (v := .tuple #[v', .int .i64 (p + m), .agg #[.int .i64 0, .int .i64 0]]) (by simp [results, Try.results76, go_sem, m0, m1]) rfl ⟨v', rfl, ?_, ?_⟩
  · have h1 : OwnR (w1.setCell ⟨w.heap.size, 0, none⟩ (.int .i64 0)) (w.heap.size + 1) v' L := ownsRow_setCell_below HO.out (by show w.heap.size < w.heap.size + 1; omega) _
    have h2 : OwnR ((w1.setCell ⟨w.heap.size, 0, none⟩ (.int .i64 0)).setCell ⟨w.heap.size, 1, none⟩ (.int .i64 0)) (w.heap.size + 1) v' L := ownsRow_setCell_below h1 (by show w.heap.size < w.heap.size + 1; omega) _
    exact h2.mono (by omega)
  · exact (HB.out.setCell (by simp) _).setCell (by simp) _

set_option maxHeartbeats 400000 in
theorem rbytes_no (a : Option Addr) (n c : Nat) (t m : Int) (F A : Int) (hn : n ≤ 1000000) (h : (m < 0 ∧ F = 2 ∧ A = 0) ∨ (0 ≤ m ∧ (t < 0 ∨ (n : Int) < t) ∧ F = 5 ∧ A = 0) ∨ (0 ≤ m ∧ 0 ≤ t ∧ t ≤ n ∧ (n : Int) < t + m ∧ F = 4 ∧ A = n)) (w : World) :
    Calls Try.prog 76 #[.slice a n c, .int .i64 t, .int .i64 m] w (RBytesPost w [] 0 F A) := by
  have hb : Below w.heap.size w (w.alloc (.cells #[.int .i64 F, .int .i64 A] 51)) := (Below.refl _ _).alloc (by simp) _
  rcases h with ⟨h1, rfl, rfl⟩ | ⟨h1, h2 | h2, rfl, rfl⟩ | ⟨h1, h2, h3, h4, rfl, rfl⟩
  all_goals
    go_enter Try.func76, Try.ntmps76
    go_wp2
    refine bodyPost_ret (v := .tuple #[.slice none 0 0, .int .i64 0, .agg #[.int .i64 _, .int .i64 _]]) (by simp [results, Try.results76, go_sem]) rfl ⟨_, rfl, World.ownsRow_nil _ _ _ _, hb⟩

theorem rbytes_any {w : World} {lo hi : Nat} {v : Value} {l : List Int} (h : Sl w lo hi v l) (hl : l.length ≤ 1000000) (hhi : hi ≤ w.heap.size) (t m : Int) :
    Calls Try.prog 76 #[v, .int .i64 t, .int .i64 m] w (RBytesPost w (bytL l t m) (bytF l.length t m) (bytE l.length t m) (bytA l.length t m)) := by
  have hs := h
  obtain ⟨a, c, rfl, _⟩ := h
  by_cases h3 : 0 ≤ m ∧ 0 ≤ t ∧ t + m ≤ (l.length : Int)
  · obtain ⟨p, rfl⟩ : ∃ p : Nat, t = p := ⟨t.toNat, by omega⟩
    obtain ⟨k, rfl⟩ : ∃ k : Nat, m = k := ⟨m.toNat, by omega⟩
    have e1 : bytL l p k = cutL l p k := by unfold bytL; rw [if_pos (by omega), Int.toNat_natCast, Int.toNat_natCast]
    have e2 : bytF l.length p k = p + k := by unfold bytF; rw [if_pos (by omega)]
    have e3 : bytE l.length p k = 0 := by unfold bytE; rw [if_neg (by omega), if_neg (by omega), if_neg (by omega)]
    have e4 : bytA l.length p k = 0 := by unfold bytA; rw [if_neg (by omega)]
    rw [e1, e2, e3, e4]
    exact rbytes_ok hs hl hhi (by omega)
  · have e1 : bytL l t m = [] := by unfold bytL; rw [if_neg h3]
    have e2 : bytF l.length t m = 0 := by unfold bytF; rw [if_neg h3]
    rw [e1, e2]
    refine rbytes_no a l.length c t m _ _ hl ?_ w
    unfold bytE bytA
    by_cases h1 : m < 0
    · exact .inl ⟨h1, by rw [if_pos h1], by rw [if_neg (by omega)]⟩
    · by_cases h2 : t < 0 ∨ (l.length : Int) < t
      · exact .inr (.inl ⟨by omega, h2, by rw [if_neg h1, if_pos h2], by rw [if_neg (by omega)]⟩)
      · exact .inr (.inr ⟨by omega, by omega, by omega, by omega, by rw [if_neg h1, if_neg h2, if_pos (by omega)], by rw [if_pos (by omega)]⟩)

theorem byt_getE (sz len : Nat) (t : Int) : bytE len t sz = getE sz len t := by unfold bytE getE; rw [if_neg (by omega)]

theorem byt_getA (sz len : Nat) (t : Int) : bytA len t sz = getA sz len t := by
  unfold bytA getA
  by_cases h : 0 ≤ t ∧ t ≤ (len : Int) ∧ (len : Int) < t + sz
  · rw [if_pos h, if_pos ⟨by omega, h⟩]
  · rw [if_neg h, if_neg (fun g => h g.2)]

theorem byt_getF (sz len : Nat) (t : Int) : bytF len t sz = getF sz len t (t + sz) := by
  unfold bytF getF
  by_cases h : 0 ≤ t ∧ t + sz ≤ (len : Int)
  · rw [if_pos h, if_pos ⟨by omega, h⟩]
  · rw [if_neg h, if_neg (fun g => h g.2)]

set_option maxHeartbeats 1000000 in
theorem rget_no {a : Option Addr} {n c : Nat} {t sz F A : Int} {w : World} (hF : ¬ F = 0)
    (H : ∀ w0, Below w.heap.size w w0 → Calls Try.prog 76 #[.slice a n c, .int .i64 t, .int .i64 sz] w0 (RBytesPost w0 [] 0 F A)) :
    Calls Try.prog 55 #[.slice a n c, .int .i64 t, .int .i64 sz] w (GetPost w 0 0 F A) := by
  have hb0 : Below w.heap.size w (w.alloc (.cells #[.int .i64 0, .int .i64 0] 51)) := (Below.refl _ _).alloc (by simp) _
  have HB0 := Lib.hid hb0
  have HH := Lib.hid (H _ hb0)
  have e1 : (F == 0) = false := by simpa using hF
  have e2 : (F != 0) = true := by simpa using hF
  clear hb0 H
  go_enter Try.func55, Try.ntmps55
  go_wp2_with (go_at_call 76; refine HH.out.mono ?_; rintro e w1 ⟨v, rfl, h1, hb⟩; simp only [World.size_alloc] at hb; have HB := Lib.hid hb; have hcell := res_cells hb; have hsz : w.heap.size < w1.heap.size := below_lt hb; clear hb h1; obtain ⟨k1, k2, k3⟩ := hcell)
  go_region
  go_wp2_with fail
  obtain ⟨m0, m1⟩ := res_set (.int .i64 F) (.int .i64 A) k1 k2
  refine bodyPost_ret (v := .tuple #[.int .i64 0, .int .i64 0, .agg #[.int .i64 F, .int .i64 A]]) (by simp [results, Try.results55, go_sem, m0, m1, hsz]) rfl ⟨rfl, ?_⟩
  exact (((((HB0.out.trans (HB.out.mono (by omega))).setCell (by simp) _).setCell (by simp) _).alloc (by simp [World.setCell]; omega) _)).drew

set_option maxHeartbeats 1000000 in
theorem rget4_ok {a : Option Addr} {n c : Nat} {t E x y z u : Int} {w : World} (x0 : 0 ≤ x) (x1 : x ≤ 255) (y0 : 0 ≤ y) (y1 : y ≤ 255) (z0 : 0 ≤ z) (z1 : z ≤ 255) (u0 : 0 ≤ u) (u1 : u ≤ 255)
    (H : ∀ w0, Below w.heap.size w w0 → Calls Try.prog 76 #[.slice a n c, .int .i64 t, .int .i64 4] w0 (RBytesPost w0 [x, y, z, u] E 0 0)) :
    Calls Try.prog 55 #[.slice a n c, .int .i64 t, .int .i64 4] w (GetPost w (num4 x y z u) E 0 0) := by
  have e : num4 x y z u = 256 * (256 * (256 * x + y) + z) + u := by unfold num4; omega
  rw [e]
  clear e
  have hb0 : Below w.heap.size w (w.alloc (.cells #[.int .i64 0, .int .i64 0] 51)) := (Below.refl _ _).alloc (by simp) _
  have HB0 := Lib.hid hb0
  have HH := Lib.hid (H _ hb0)
  clear hb0 H
  go_enter Try.func55, Try.ntmps55
  go_wp2_with (go_at_call 76; refine HH.out.mono ?_; rintro e w1 ⟨v, rfl, h1, hb⟩; simp only [World.size_alloc] at hb; have HB := Lib.hid hb; have hcell := res_cells hb; have hsz : w.heap.size < w1.heap.size := below_lt hb; obtain ⟨b, cap, rfl, q1, q2, q3, q4, q5⟩ := h1.four; clear hb h1; obtain ⟨k1, k2, k3⟩ := hcell)
  refine wp_loop_rounds 5 ?_
  iterate 5 (rw [rounds_succ]; go_wp2)
  go_region
  go_wp2_with fail
  obtain ⟨m0, m1⟩ := res_set (.int .i64 0) (.int .i64 0) k1 k2
  refine bodyPost_ret (v := .tuple #[.int .i64 (256 * (256 * (256 * x + y) + z) + u), .int .i64 E, .agg #[.int .i64 0, .int .i64 0]]) (by simp [results, Try.results55, go_sem, m0, m1, hsz]) rfl ⟨rfl, ?_⟩
  exact (((((HB0.out.trans (HB.out.mono (by omega))).setCell (by simp) _).setCell (by simp) _).alloc (by simp [World.setCell]; omega) _)).drew

theorem cut4 (l : List Int) (p : Nat) (h : p + 4 ≤ l.length) : cutL l p 4 = [l.getD p 0, l.getD (p + 1) 0, l.getD (p + 2) 0, l.getD (p + 3) 0] := by
  apply List.ext_getElem
  · rw [cutL_len l p 4 h]; rfl
  · intro j h1 h2
    have hj : j < 4 := by rw [cutL_len l p 4 h] at h1; exact h1
    have e : (cutL l p 4)[j] = l.getD (p + j) 0 := by
      have h3 := List.getElem?_eq_getElem h1
      rw [cutL_get l p 4 j hj] at h3
      rw [List.getD, h3]; rfl
    rw [e]
    obtain rfl | rfl | rfl | rfl : j = 0 ∨ j = 1 ∨ j = 2 ∨ j = 3 := by omega
    all_goals rfl

theorem rgetn4_any {w : World} {lo hi : Nat} {v : Value} {l : List Int} (h : Sl w lo hi v l) (hb : ByteL l) (hl : l.length ≤ 1000000) (hhi : hi ≤ w.heap.size) (t : Int) :
    Calls Try.prog 55 #[v, .int .i64 t, .int .i64 4] w (GetPost w (getF 4 l.length t (nAt4 l t.toNat)) (getF 4 l.length t (t + 4)) (getE 4 l.length t) (getA 4 l.length t)) := by
  have H : ∀ w0, Below w.heap.size w w0 → Calls Try.prog 76 #[v, .int .i64 t, .int .i64 4] w0 (RBytesPost w0 (bytL l t 4) (bytF l.length t 4) (bytE l.length t 4) (bytA l.length t 4)) :=
    fun w0 hw => rbytes_any (h.below hw hhi) hl (Nat.le_trans hhi hw.size) t 4
  have q1 := byt_getE 4 l.length t
  have q2 := byt_getA 4 l.length t
  have q3 := byt_getF 4 l.length t
  simp only [Int.cast_ofNat_Int] at q1 q2 q3
  rw [q1, q2, q3] at H
  obtain ⟨a, c, rfl, _⟩ := h
  by_cases h1 : 0 ≤ t ∧ t + 4 ≤ (l.length : Int)
  · obtain ⟨p, rfl⟩ : ∃ p : Nat, t = p := ⟨t.toNat, by omega⟩
    have e1 : ∀ v, getF 4 l.length p v = v := fun v => by unfold getF; rw [if_pos (by omega)]
    have e2 : getE 4 l.length p = 0 := by unfold getE; rw [if_neg (by omega), if_neg (by omega)]
    have e3 : getA 4 l.length p = 0 := by unfold getA; rw [if_neg (by omega)]
    have e4 : bytL l p 4 = [l.getD p 0, l.getD (p + 1) 0, l.getD (p + 2) 0, l.getD (p + 3) 0] := by
      unfold bytL
      rw [if_pos (by omega), Int.toNat_natCast]
      exact cut4 l p (by omega)
    rw [e1, e2, e3, e4] at H
    rw [e1, e1, e2, e3, Int.toNat_natCast]
    have y0 := hb.at_ p (by omega)
    have y1 := hb.at_ (p + 1) (by omega)
    have y2 := hb.at_ (p + 2) (by omega)
    have y3 := hb.at_ (p + 3) (by omega)
    exact rget4_ok y0.1 y0.2 y1.1 y1.2 y2.1 y2.2 y3.1 y3.2 H
  · have e1 : ∀ v, getF 4 l.length t v = 0 := fun v => by unfold getF; rw [if_neg (by omega)]
    have e4 : bytL l t 4 = [] := by unfold bytL; rw [if_neg (by omega)]
    have e2 : ¬ getE 4 l.length t = 0 := by
      unfold getE
      by_cases g1 : t < 0 ∨ (l.length : Int) < t
      · rw [if_pos g1]; omega
      · rw [if_neg g1, if_pos (by omega)]; omega
    rw [e1, e4] at H
    rw [e1, e1]
    exact rget_no e2 H

set_option maxHeartbeats 400000 in
theorem rget32_any {w : World} {lo hi : Nat} {v : Value} {l : List Int} (h : Sl w lo hi v l) (hb : ByteL l) (hl : l.length ≤ 1000000) (hhi : hi ≤ w.heap.size) (t : Int) :
    Calls Try.prog 35 #[v, .int .i64 t] w (GetPost w (getF 4 l.length t (nAt4 l t.toNat)) (getF 4 l.length t (t + 4)) (getE 4 l.length t) (getA 4 l.length t)) := by
  have hb0 : Below w.heap.size w (w.alloc (.cells #[.int .i64 0, .int .i64 0] 51)) := (Below.refl _ _).alloc (Nat.le_refl _) _
  have HH := Lib.hid (rgetn4_any (h.below hb0 hhi) hb hl (by simp; omega) t)
  have HB0 := Lib.hid hb0
  clear hb0 hb h
  generalize getF 4 l.length t (nAt4 l t.toNat) = N at *
  generalize getF 4 l.length t (t + 4) = E at *
  generalize getE 4 l.length t = F at *
  generalize getA 4 l.length t = A at *
  go_enter Try.func35, Try.ntmps35
  go_wp2_with (go_at_call 55; refine HH.out.mono ?_; rintro e w1 ⟨rfl, hb⟩; simp only [World.size_alloc] at hb; have HB := Lib.hid hb; have hcell := res_cells hb; clear hb; obtain ⟨k1, k2, k3⟩ := hcell)
  obtain ⟨m0, m1⟩ := res_set (.int .i64 F) (.int .i64 A) k1 k2
  refine bodyPost_ret (v := .tuple #[.int .i64 N, .int .i64 E, .agg #[.int .i64 F, .int .i64 A]]) (by simp [results, Try.results35, go_sem, m0, m1]) rfl ⟨rfl, ?_⟩
  exact ((HB0.out.trans (HB.out.mono (by omega))).setCell (by simp) _).setCell (by simp) _
end Go.Proofs.Ytkiahaodajecfaa
