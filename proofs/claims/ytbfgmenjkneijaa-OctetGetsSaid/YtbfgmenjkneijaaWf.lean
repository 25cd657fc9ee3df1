/-
  Put16, Put32 of the program and of the document: the same error, the same bytes, in new memory.
-/
import Derived.Test.YtbfgmenjkneijaaWe
namespace Go.Proofs.Ytbfgmenjkneijaa
open Go.RowKit
set_option linter.unusedVariables false

/-- The error that Put tells, and the bytes. -/
def putE (m n : Int) : Int := if 0 ≤ n ∧ n ≤ m then 0 else 5
def putL2 (n : Int) : List Int := if 0 ≤ n ∧ n ≤ 65535 then [n / 256, n % 256] else []
def putL4 (n : Int) : List Int := if 0 ≤ n ∧ n ≤ 4294967295 then [n / 256 / 256 / 256, n / 256 / 256 % 256, n / 256 % 256, n % 256] else []

theorem two_alloc (w : World) (o o' : Obj) : ((w.alloc o).alloc o').heap[w.heap.size + 1]? = some o' := by
  have := heap_alloc_new (w.alloc o) o'
  simpa using this

def PutPost (w : World) (E : Int) (L : List Int) (e : Ending) (w' : World) : Prop :=
  ∃ v g, e = .returned (.tuple #[v, .int .i64 E]) ∧ Own w' g v L ∧ w.heap.size ≤ g ∧ g < w'.heap.size ∧ Below w.heap.size w w'

set_option maxHeartbeats 400000 in
theorem put2_any (n : Int) (w : World) : Calls Try.prog 25 #[.int .i64 n] w (PutPost w (putE 65535 n) (putL2 n)) := by
  have hm := make2
  by_cases h : 0 ≤ n ∧ n ≤ 65535
  · have e1 : putE 65535 n = 0 := by unfold putE; rw [if_pos h]
    have e2 : putL2 n = [n / 256, n % 256] := by unfold putL2; rw [if_pos h]
    rw [e1, e2]
    clear e1 e2
    obtain ⟨h0, h1⟩ := h
    go_enter Try.func25, Try.ntmps25
    go_wp2
    refine wp_loop_rounds 3 ?_
    iterate 3 (rw [rounds_succ]; go_wp2)
    go_ret2
    exact ⟨_, w.heap.size + 1, rfl, .inr ⟨rfl, two_alloc _ _ _⟩, by omega, by simp, ((Below.refl _ _).alloc (Nat.le_refl _) _).alloc (by simp) _⟩
  · have e1 : putE 65535 n = 5 := by unfold putE; rw [if_neg h]
    have e2 : putL2 n = [] := by unfold putL2; rw [if_neg h]
    rw [e1, e2]
    clear e1 e2
    have h : n < 0 ∨ 65535 < n := by omega
    go_enter Try.func25, Try.ntmps25
    go_wp2
    refine wp_loop_rounds 3 ?_
    iterate 3 (rw [rounds_succ]; go_wp2)
    go_ret2
    exact ⟨_, w.heap.size, rfl, .inl ⟨rfl, rfl⟩, by omega, by simp; omega, ((Below.refl _ _).alloc (Nat.le_refl _) _).alloc (by simp) _⟩

set_option maxHeartbeats 400000 in
theorem put4_any (n : Int) (w : World) : Calls Try.prog 27 #[.int .i64 n] w (PutPost w (putE 4294967295 n) (putL4 n)) := by
  have hm := make4
  by_cases h : 0 ≤ n ∧ n ≤ 4294967295
  · have e1 : putE 4294967295 n = 0 := by unfold putE; rw [if_pos h]
    have e2 : putL4 n = [n / 256 / 256 / 256, n / 256 / 256 % 256, n / 256 % 256, n % 256] := by unfold putL4; rw [if_pos h]
    rw [e1, e2]
    clear e1 e2
    obtain ⟨h0, h1⟩ := h
    go_enter Try.func27, Try.ntmps27
    go_wp2
    refine wp_loop_rounds 5 ?_
    iterate 5 (rw [rounds_succ]; go_wp2)
    go_ret2
    exact ⟨_, w.heap.size + 1, rfl, .inr ⟨rfl, two_alloc _ _ _⟩, by omega, by simp, ((Below.refl _ _).alloc (Nat.le_refl _) _).alloc (by simp) _⟩
  · have e1 : putE 4294967295 n = 5 := by unfold putE; rw [if_neg h]
    have e2 : putL4 n = [] := by unfold putL4; rw [if_neg h]
    rw [e1, e2]
    clear e1 e2
    have h : n < 0 ∨ 4294967295 < n := by omega
    go_enter Try.func27, Try.ntmps27
    go_wp2
    refine wp_loop_rounds 5 ?_
    iterate 5 (rw [rounds_succ]; go_wp2)
    go_ret2
    exact ⟨_, w.heap.size, rfl, .inl ⟨rfl, rfl⟩, by omega, by simp; omega, ((Below.refl _ _).alloc (Nat.le_refl _) _).alloc (by simp) _⟩

set_option maxHeartbeats 400000 in
theorem put16_any (n : Int) (w : World) : Calls Try.prog 8 #[.int .i64 n] w (PutPost w (putE 65535 n) (putL2 n)) := by
  go_enter Try.func8, Try.ntmps8
  go_wp2_with (go_at_call 25; refine (put2_any n _).mono ?_; rintro e w1 ⟨v, g, rfl, h1, h2, h3, h4⟩; have H1 := Lib.hid h1; have H2 := Lib.hid h2; have H3 := Lib.hid h3; have H4 := Lib.hid h4; clear h1 h2 h3 h4)
  go_ret2
  exact ⟨v, g, rfl, H1.out, H2.out, H3.out, H4.out⟩
set_option maxHeartbeats 400000 in
theorem put32_any (n : Int) (w : World) : Calls Try.prog 10 #[.int .i64 n] w (PutPost w (putE 4294967295 n) (putL4 n)) := by
  go_enter Try.func10, Try.ntmps10
  go_wp2_with (go_at_call 27; refine (put4_any n _).mono ?_; rintro e w1 ⟨v, g, rfl, h1, h2, h3, h4⟩; have H1 := Lib.hid h1; have H2 := Lib.hid h2; have H3 := Lib.hid h3; have H4 := Lib.hid h4; clear h1 h2 h3 h4)
  go_ret2
  exact ⟨v, g, rfl, H1.out, H2.out, H3.out, H4.out⟩

/-! ### The document's put -/
def RPost (w : World) (E : Int) (L : List Int) (e : Ending) (w' : World) : Prop :=
  ∃ v, e = .returned (.tuple #[v, .int .i64 E]) ∧ OwnR w' w.heap.size v L ∧ Below w.heap.size w w'

theorem sl_one (w : World) (x : Int) : Sl (w.alloc (.cells #[.int .u8 x] 5)) w.heap.size (w.heap.size + 1) (.slice (some ⟨w.heap.size, 0, none⟩) 1 1) [x] := by
  refine ⟨_, 1, rfl, by simp, fun h => by simp at h, fun _ => ⟨_, _, rfl, Nat.le_refl _, by omega, fun j hj => ?_⟩⟩
  obtain rfl : j = 0 := by simpa using hj
  simp [go_sem]

set_option maxHeartbeats 1000000 in
theorem rput2_ok (n : Int) (w : World) (h0 : 0 ≤ n) (h1 : n ≤ 65535) : Calls Try.prog 26 #[.int .i64 n, .int .i64 2] w (RPost w 0 [n / 256, n % 256]) := by
  have hz : n / 65536 = 0 := by omega
  have HB0 := Lib.hid (Below.refl w.heap.size w)
  go_enter Try.func26, Try.ntmps26
  go_wp2
  refine wp_loop_rounds 3 ?_
  rw [rounds_succ]
  go_wp2_with (at_builtin; refine wpList_app rfl (.tmp 23) (.tmp 29) rfl w.heap.size ?l1 ?h1 _ _ [] ?x1 rfl rfl ?a1 ?b1 ?c1 ?d1 ?_)
  case b1 => exact sl_one _ _
  case a1 => exact World.ownsRow_nil _ _ _ _
  case c1 => simp
  case d1 => simp
  intro v1 w1 HO1 hb
  have HB1 := Lib.hid ((HB0.out.alloc HB0.out.size _).trans hb.out)
  clear hb HB0
  go_wp2_with fail
  rw [rounds_succ]
  go_wp2_with (at_builtin; refine wpList_app rfl (.tmp 23) (.tmp 29) rfl w.heap.size ?l2 ?h2 _ _ ?y2 ?x2 rfl rfl ?a2 ?b2 ?c2 ?d2 ?_)
  case b2 => exact sl_one _ _
  case a2 => exact World.ownsRow.alloc HO1.out _
  case c2 => simp
  case d2 => have := HB1.out.size; simp; omega
  intro v2 w2 HO2 hb
  have HB2 := Lib.hid ((HB1.out.alloc HB1.out.size _).trans hb.out)
  clear hb HB1
  clear HO1
  go_wp2_with fail
  rw [rounds_succ]
  go_wp2_with fail
  go_ret2
  refine ⟨v2, rfl, ?_, HB2.out⟩
  have e := HO2.out
  exact e

set_option maxHeartbeats 400000 in
theorem rput2_no (n : Int) (w : World) (h : n < 0 ∨ 65535 < n) : Calls Try.prog 26 #[.int .i64 n, .int .i64 2] w (RPost w 5 []) := by
  by_cases hn : n < 0
  · go_enter Try.func26, Try.ntmps26
    go_wp2
    go_ret2
    exact ⟨_, rfl, World.ownsRow_nil _ _ _ _, Below.refl _ _⟩
  · have hz : ¬ n / 65536 = 0 := by omega
    go_enter Try.func26, Try.ntmps26
    go_wp2
    go_ret2
    exact ⟨_, rfl, World.ownsRow_nil _ _ _ _, Below.refl _ _⟩
theorem rput2_any (n : Int) (w : World) : Calls Try.prog 26 #[.int .i64 n, .int .i64 2] w (RPost w (putE 65535 n) (putL2 n)) := by
  unfold putE putL2
  by_cases h : 0 ≤ n ∧ n ≤ 65535
  · rw [if_pos h, if_pos h]; exact rput2_ok n w h.1 h.2
  · rw [if_neg h, if_neg h]; exact rput2_no n w (by omega)
set_option maxHeartbeats 400000 in
theorem rput16_any (n : Int) (w : World) : Calls Try.prog 9 #[.int .i64 n] w (RPost w (putE 65535 n) (putL2 n)) := by
  go_enter Try.func9, Try.ntmps9
  go_wp2_with (go_at_call 26; refine (rput2_any n _).mono ?_; rintro e w1 ⟨v, rfl, h1, h2⟩; have H1 := Lib.hid h1; have H2 := Lib.hid h2; clear h1 h2)
  go_ret2
  exact ⟨v, rfl, H1.out, H2.out⟩

set_option maxHeartbeats 1000000 in
theorem rput4_ok (n : Int) (w : World) (h0 : 0 ≤ n) (h1 : n ≤ 4294967295) : Calls Try.prog 26 #[.int .i64 n, .int .i64 4] w (RPost w 0 [n / 256 / 256 / 256, n / 256 / 256 % 256, n / 256 % 256, n % 256]) := by
  have hz : n / 4294967296 = 0 := by omega
  have HB0 := Lib.hid (Below.refl w.heap.size w)
  go_enter Try.func26, Try.ntmps26
  go_wp2
  refine wp_loop_rounds 5 ?_
  rw [rounds_succ]
  go_wp2_with (at_builtin; refine wpList_app rfl (.tmp 23) (.tmp 29) rfl w.heap.size ?l1 ?h1 _ _ [] ?x1 rfl rfl ?a1 ?b1 ?c1 ?d1 ?_)
  case b1 => exact sl_one _ _
  case a1 => exact World.ownsRow_nil _ _ _ _
  case c1 => simp
  case d1 => simp
  intro v1 w1 HO1 hb
  have HB1 := Lib.hid ((HB0.out.alloc HB0.out.size _).trans hb.out)
  clear hb HB0
  go_wp2_with fail
  rw [rounds_succ]
  go_wp2_with (at_builtin; refine wpList_app rfl (.tmp 23) (.tmp 29) rfl w.heap.size ?l2 ?h2 _ _ ?y2 ?x2 rfl rfl ?a2 ?b2 ?c2 ?d2 ?_)
  case b2 => exact sl_one _ _
  case a2 => exact World.ownsRow.alloc HO1.out _
  case c2 => simp
  case d2 => have := HB1.out.size; simp; omega
  intro v2 w2 HO2 hb
  have HB2 := Lib.hid ((HB1.out.alloc HB1.out.size _).trans hb.out)
  clear hb HB1
  clear HO1
  go_wp2_with fail
  rw [rounds_succ]
  go_wp2_with (at_builtin; refine wpList_app rfl (.tmp 23) (.tmp 29) rfl w.heap.size ?l3 ?h3 _ _ ?y3 ?x3 rfl rfl ?a3 ?b3 ?c3 ?d3 ?_)
  case b3 => exact sl_one _ _
  case a3 => exact World.ownsRow.alloc HO2.out _
  case c3 => simp
  case d3 => have := HB2.out.size; simp; omega
  intro v3 w3 HO3 hb
  have HB3 := Lib.hid ((HB2.out.alloc HB2.out.size _).trans hb.out)
  clear hb HB2
  clear HO2
  go_wp2_with fail
  rw [rounds_succ]
  go_wp2_with (at_builtin; refine wpList_app rfl (.tmp 23) (.tmp 29) rfl w.heap.size ?l4 ?h4 _ _ ?y4 ?x4 rfl rfl ?a4 ?b4 ?c4 ?d4 ?_)
  case b4 => exact sl_one _ _
  case a4 => exact World.ownsRow.alloc HO3.out _
  case c4 => simp
  case d4 => have := HB3.out.size; simp; omega
  intro v4 w4 HO4 hb
  have HB4 := Lib.hid ((HB3.out.alloc HB3.out.size _).trans hb.out)
  clear hb HB3
  clear HO3
  go_wp2_with fail
  rw [rounds_succ]
  go_wp2_with fail
  go_ret2
  refine ⟨v4, rfl, ?_, HB4.out⟩
  have e := HO4.out
  have e1 : n / 256 / 256 / 256 = n / 16777216 := by omega
  have e2 : n / 256 / 256 % 256 = n / 65536 % 256 := by omega
  rw [e1, e2]
  exact e

set_option maxHeartbeats 400000 in
theorem rput4_no (n : Int) (w : World) (h : n < 0 ∨ 4294967295 < n) : Calls Try.prog 26 #[.int .i64 n, .int .i64 4] w (RPost w 5 []) := by
  by_cases hn : n < 0
  · go_enter Try.func26, Try.ntmps26
    go_wp2
    go_ret2
    exact ⟨_, rfl, World.ownsRow_nil _ _ _ _, Below.refl _ _⟩
  · have hz : ¬ n / 4294967296 = 0 := by omega
    go_enter Try.func26, Try.ntmps26
    go_wp2
    go_ret2
    exact ⟨_, rfl, World.ownsRow_nil _ _ _ _, Below.refl _ _⟩
theorem rput4_any (n : Int) (w : World) : Calls Try.prog 26 #[.int .i64 n, .int .i64 4] w (RPost w (putE 4294967295 n) (putL4 n)) := by
  unfold putE putL4
  by_cases h : 0 ≤ n ∧ n ≤ 4294967295
  · rw [if_pos h, if_pos h]; exact rput4_ok n w h.1 h.2
  · rw [if_neg h, if_neg h]; exact rput4_no n w (by omega)
set_option maxHeartbeats 400000 in
theorem rput32_any (n : Int) (w : World) : Calls Try.prog 11 #[.int .i64 n] w (RPost w (putE 4294967295 n) (putL4 n)) := by
  go_enter Try.func11, Try.ntmps11
  go_wp2_with (go_at_call 26; refine (rput4_any n _).mono ?_; rintro e w1 ⟨v, rfl, h1, h2⟩; have H1 := Lib.hid h1; have H2 := Lib.hid h2; clear h1 h2)
  go_ret2
  exact ⟨v, rfl, H1.out, H2.out⟩

end Go.Proofs.Ytbfgmenjkneijaa
