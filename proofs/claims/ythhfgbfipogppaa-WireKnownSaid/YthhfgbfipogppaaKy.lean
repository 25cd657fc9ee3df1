/-
  The chapter's examples.
-/
import Derived.Test.YthhfgbfipogppaaKp
import Derived.Outline
import Derived.Lib.SlBytesConst
namespace Go.Proofs.Ythhfgbfipogppaa
open Go.RowKit Go.Shelf
set_option linter.unusedVariables false
set_option linter.unusedSimpArgs false

theorem rdk_1 : rda [192, 0] 0 = ([], 0, 150, 0) := by simp [rda, rd, ptr]
theorem rdk_2 : rda [1, 97, 192, 0] 0 = ([], 0, 150, 2) := by simp [rda, rd, ptr]
theorem rdk_3 : rda [64] 0 = ([], 0, 4, 0) := by simp [rda, rd, ptr]
theorem rdk_4 : rda [2, 97] 0 = ([], 0, 4, 2) := by simp [rda, rd, ptr]
theorem rdk_5 : rda [] 1 = ([], 0, 5, 0) := by simp [rda, rd, ptr]

theorem tk_1 (w : World) (g : Nat) (hg : g = w.heap.size) : Calls Try.prog 11 #[.slice (some ⟨g, 0, none⟩) 2 2, .int .i64 0] (w.alloc (.cells #[.int .u8 192, .int .u8 0] 5)) (Tells (w.alloc (.cells #[.int .u8 192, .int .u8 0] 5)) (.tuple #[.string (bs []), .int .i64 0, .agg #[.int .i64 150, .int .i64 0]])) := by
  subst hg
  have := read_any (sl_lit_u w [192, 0]) (by simp) (by simp) 0
  rw [rdk_1] at this
  exact this
theorem tk_2 (w : World) (g : Nat) (hg : g = w.heap.size) : Calls Try.prog 11 #[.slice (some ⟨g, 0, none⟩) 4 4, .int .i64 0] (w.alloc (.cells #[.int .u8 1, .int .u8 97, .int .u8 192, .int .u8 0] 5)) (Tells (w.alloc (.cells #[.int .u8 1, .int .u8 97, .int .u8 192, .int .u8 0] 5)) (.tuple #[.string (bs []), .int .i64 0, .agg #[.int .i64 150, .int .i64 2]])) := by
  subst hg
  have := read_any (sl_lit_u w [1, 97, 192, 0]) (by simp) (by simp) 0
  rw [rdk_2] at this
  exact this
theorem tk_3 (w : World) (g : Nat) (hg : g = w.heap.size) : Calls Try.prog 11 #[.slice (some ⟨g, 0, none⟩) 1 1, .int .i64 0] (w.alloc (.cells #[.int .u8 64] 5)) (Tells (w.alloc (.cells #[.int .u8 64] 5)) (.tuple #[.string (bs []), .int .i64 0, .agg #[.int .i64 4, .int .i64 0]])) := by
  subst hg
  have := read_any (sl_lit_u w [64]) (by simp) (by simp) 0
  rw [rdk_3] at this
  exact this
theorem tk_4 (w : World) (g : Nat) (hg : g = w.heap.size) : Calls Try.prog 11 #[.slice (some ⟨g, 0, none⟩) 2 2, .int .i64 0] (w.alloc (.cells #[.int .u8 2, .int .u8 97] 5)) (Tells (w.alloc (.cells #[.int .u8 2, .int .u8 97] 5)) (.tuple #[.string (bs []), .int .i64 0, .agg #[.int .i64 4, .int .i64 2]])) := by
  subst hg
  have := read_any (sl_lit_u w [2, 97]) (by simp) (by simp) 0
  rw [rdk_4] at this
  exact this
theorem tk_5 (w : World) : Calls Try.prog 11 #[.slice none 0 0, .int .i64 1] w (Tells w (.tuple #[.string (bs []), .int .i64 0, .agg #[.int .i64 5, .int .i64 0]])) := by
  have := read_any (b := []) (show Sl w 0 0 (.slice none 0 0) (iz []) from ⟨none, 0, rfl, by simp [iz], fun _ => rfl, fun h => by simp [iz] at h⟩) (Nat.zero_le _) (by simp) 1
  rw [rdk_5] at this
  exact this

/-- What Name leaves when it tells l. -/
def NP (w : World) (p bm : Nat) (l : List UInt8) (K : List (List UInt8 × Nat)) (e : Nat) (x : Ending) (w' : World) : Prop := ∃ v, x = .returned (.tuple #[v, .int .i64 0]) ∧ OwnB w' w.heap.size v l ∧ Pk w' p bm K e ∧ Aside (fun b => b = p ∨ b = bm) w w'

abbrev K1 : List (List UInt8 × Nat) := [([1, 97, 1, 98, 0], 12), ([1, 98, 0], 14)]
abbrev K2 : List (List UInt8 × Nat) := K1 ++ [([1, 99, 1, 98, 0], 17)]
abbrev K3 : List (List UInt8 × Nat) := K2 ++ [([1, 65, 1, 98, 0], 21)]
theorem k1_fr : [] ++ fr 12 [[97], [98]] (hdn [] [[97], [98]]) = K1 := by decide
theorem k2_fr : K1 ++ fr 17 [[99], [98]] (hdn K1 [[99], [98]]) = K2 := by decide
theorem k3_fr : K2 ++ fr 21 [[65], [98]] (hdn K2 [[65], [98]]) = K3 := by decide
theorem k4_fr : K3 ++ fr 25 [[98]] (hdn K3 [[98]]) = K3 := by decide
theorem good_1 : GoodK K1 := by
  have := good_fr good_nil (ls := [[97], [98]]) (by decide) 12 (k := 2) (by decide)
  exact (show [] ++ fr 12 [[97], [98]] 2 = K1 by decide) ▸ this
theorem good_2 : GoodK K2 := by
  have := good_fr good_1 (ls := [[99], [98]]) (by decide) 17 (k := 1) (by decide)
  exact (show K1 ++ fr 17 [[99], [98]] 1 = K2 by decide) ▸ this
theorem good_3 : GoodK K3 := by
  have := good_fr good_2 (ls := [[65], [98]]) (by decide) 21 (k := 1) (by decide)
  exact (show K2 ++ fr 21 [[65], [98]] 1 = K3 by decide) ▸ this
theorem nk_1 {w : World} {p bm : Nat} (h : Pk w p bm [] 0) : Calls Try.prog 18 #[.pointer (some ⟨p, 0, none⟩), .int .i64 12, .string (bs [1, 97, 1, 98, 0])] w (NP w p bm [1, 97, 1, 98, 0] K1 17) := by
  have := name_told h good_nil (by simp) (ls := [[97], [98]]) (by decide) 12 (by decide) (by decide)
  rw [k1_fr, show told [] [[97], [98]] = [1, 97, 1, 98, 0] by decide] at this
  exact this
theorem nk_2 {w : World} {p bm : Nat} (h : Pk w p bm K1 17) : Calls Try.prog 18 #[.pointer (some ⟨p, 0, none⟩), .int .i64 17, .string (bs [1, 99, 1, 98, 0])] w (NP w p bm [1, 99, 192, 14] K2 21) := by
  have := name_told h good_1 (by simp) (ls := [[99], [98]]) (by decide) 17 (by decide) (by decide)
  rw [k2_fr, show told K1 [[99], [98]] = [1, 99, 192, 14] by decide] at this
  exact this
theorem nk_3 {w : World} {p bm : Nat} (h : Pk w p bm K2 21) : Calls Try.prog 18 #[.pointer (some ⟨p, 0, none⟩), .int .i64 21, .string (bs [1, 65, 1, 98, 0])] w (NP w p bm [1, 65, 192, 14] K3 25) := by
  have := name_told h good_2 (by simp) (ls := [[65], [98]]) (by decide) 21 (by decide) (by decide)
  rw [k3_fr, show told K2 [[65], [98]] = [1, 65, 192, 14] by decide] at this
  exact this
theorem nk_4 {w : World} {p bm : Nat} (h : Pk w p bm K3 25) : Calls Try.prog 18 #[.pointer (some ⟨p, 0, none⟩), .int .i64 25, .string (bs [1, 98, 0])] w (NP w p bm [192, 14] K3 27) := by
  have := name_told h good_3 (by simp) (ls := [[98]]) (by decide) 25 (by decide) (by decide)
  rw [k4_fr, show told K3 [[98]] = [192, 14] by decide] at this
  exact this
theorem nk_no {w : World} {p bm : Nat} (h : Pk w p bm K3 27) (q : Int) (h0 : 0 ≤ q) (hq : q < 27) : Calls Try.prog 18 #[.pointer (some ⟨p, 0, none⟩), .int .i64 q, .string (bs [0])] w fun x w' => ∃ v, x = .returned (.tuple #[v, .int .i64 9]) ∧ OwnB w' w.heap.size v [] ∧ Pk w' p bm K3 27 ∧ Aside (fun b => b = p ∨ b = bm) w w' := by
  have hE : pkE 27 q [0] = 9 := by unfold pkE; rw [show chk [0] = 0 from shorts_chk (l := []) (by decide), if_neg (by decide), if_neg (by omega), if_pos (by omega)]
  refine (name_any h good_3 (by simp) (by decide) q [0] (by simp)).mono ?_
  rintro x w' ⟨v, rfl, g1, g2, g3⟩
  have h9 : ¬ (9 : Int) = 0 := by decide
  unfold nameB at g1
  unfold nameK nameE at g2
  rw [hE, if_neg h9] at g1
  rw [hE, if_neg h9, if_neg h9] at g2
  rw [hE]
  exact ⟨v, rfl, g1, g2, g3⟩

theorem sl_mark (w : World) (l : List UInt8) (fz : Nat × Nat) : Sl (w.alloc (.cells ((iz l).map (Value.int .u8)).toArray 5 fz)) w.heap.size (w.heap.size + 1) (.slice (some ⟨w.heap.size, 0, none⟩) l.length l.length) (iz l) := by
  refine ⟨some ⟨w.heap.size, 0, none⟩, l.length, by rw [iz_len], by rw [iz_len]; exact Nat.le_refl _, fun h => by simp at h, fun _ => ⟨w.heap.size, 0, rfl, Nat.le_refl _, Nat.lt_succ_self _, fun j hj => ?_⟩⟩
  rw [World.cell?_alloc_mark]
  simp [List.getElem?_eq_getElem hj]

theorem ar {w w1 w2 : World} (ha : Below w.heap.size w w1) (hb : Below w1.heap.size w1 w2) : Below w.heap.size w w2 := bel_call ha hb

set_option maxRecDepth 100000 in
set_option maxHeartbeats 4000000 in
theorem wknown_any (w : World) : Calls Try.prog 8 #[] w (Tells w (.bool true)) := by
  have HAW := Lib.hid awake_any
  have HN := Lib.hid new_any
  have HB0 := Lib.hid (Below.refl w.heap.size w)
  go_enter Try.func8, Try.ntmps8
  go_wp2_with fail
  refine (tk_1 _ _ (by simp)).mono ?_; rintro e w1 ⟨rfl, hb⟩
  have HB1 := Lib.hid (bel_call (bel_alloc HB0.out _) hb)
  clear hb
  go_wp2_with fail
  refine (tk_2 _ _ (by simp)).mono ?_; rintro e w2 ⟨rfl, hb⟩
  have HB2 := Lib.hid (bel_call (bel_alloc (bel_alloc HB1.out _) _) hb)
  have C1 := Lib.hid (show Cl w2 w1.heap.size (.int .i64 150) (.int .i64 0) from ⟨(hb.cell (p := ⟨_, _, _⟩) (by simp <;> omega)).trans (by simp [go_sem]), (hb.cell (p := ⟨_, _, _⟩) (by simp <;> omega)).trans (by simp [go_sem])⟩)
  clear hb
  go_wp2_with fail
  refine (tk_3 _ _ (by simp)).mono ?_; rintro e w3 ⟨rfl, hb⟩
  have HB3 := Lib.hid (bel_call (bel_alloc (bel_alloc HB2.out _) _) hb)
  have C2 := Lib.hid (show Cl w3 w2.heap.size (.int .i64 150) (.int .i64 2) from ⟨(hb.cell (p := ⟨_, _, _⟩) (by simp <;> omega)).trans (by simp [go_sem]), (hb.cell (p := ⟨_, _, _⟩) (by simp <;> omega)).trans (by simp [go_sem])⟩)
  replace C1 := Lib.hid (C1.out.later (bel_call (bel_alloc (bel_alloc (Below.refl _ _) _) _) hb))
  clear hb
  go_wp2_with fail
  refine (tk_4 _ _ (by simp)).mono ?_; rintro e w4 ⟨rfl, hb⟩
  have HB4 := Lib.hid (bel_call (bel_alloc (bel_alloc HB3.out _) _) hb)
  have C3 := Lib.hid (show Cl w4 w3.heap.size (.int .i64 4) (.int .i64 0) from ⟨(hb.cell (p := ⟨_, _, _⟩) (by simp <;> omega)).trans (by simp [go_sem]), (hb.cell (p := ⟨_, _, _⟩) (by simp <;> omega)).trans (by simp [go_sem])⟩)
  replace C1 := Lib.hid (C1.out.later (bel_call (bel_alloc (bel_alloc (Below.refl _ _) _) _) hb))
  replace C2 := Lib.hid (C2.out.later (bel_call (bel_alloc (bel_alloc (Below.refl _ _) _) _) hb))
  clear hb
  go_wp2_with fail
  refine (tk_5 _).mono ?_; rintro e w5 ⟨rfl, hb⟩
  have HB5 := Lib.hid (bel_call (bel_alloc HB4.out _) hb)
  have C4 := Lib.hid (show Cl w5 w4.heap.size (.int .i64 4) (.int .i64 2) from ⟨(hb.cell (p := ⟨_, _, _⟩) (by simp <;> omega)).trans (by simp [go_sem]), (hb.cell (p := ⟨_, _, _⟩) (by simp <;> omega)).trans (by simp [go_sem])⟩)
  replace C1 := Lib.hid (C1.out.later (bel_call (bel_alloc (Below.refl _ _) _) hb))
  replace C2 := Lib.hid (C2.out.later (bel_call (bel_alloc (Below.refl _ _) _) hb))
  replace C3 := Lib.hid (C3.out.later (bel_call (bel_alloc (Below.refl _ _) _) hb))
  clear hb
  have l1 := C1.out.lt
  have l2 := C2.out.lt
  have l3 := C3.out.lt
  have l4 := C4.out.lt
  obtain ⟨a1, b1⟩ := C1.out
  obtain ⟨a2, b2⟩ := C2.out
  obtain ⟨a3, b3⟩ := C3.out
  obtain ⟨a4, b4⟩ := C4.out
  go_wp2_with fail
  clear a1 b1 a2 b2 a3 b3 a4 b4 l1 l2 l3 l4 C1 C2 C3 C4 HB0 HB1 HB2 HB3 HB4
  refine (HN.out _).mono ?_; rintro e w6 ⟨p, bm, rfl, hp1, hb1, hpk, hb⟩
  have HP6 := Lib.hid hpk
  have HB6 := Lib.hid (bel_call (bel_alloc HB5.out _) hb)
  have hpb := Lib.hid (show w.heap.size ≤ p ∧ w.heap.size ≤ bm from ⟨Nat.le_trans (bel_alloc HB5.out _).size hp1, Nat.le_trans (bel_alloc HB5.out _).size hb1⟩)
  clear hb hp1 hb1 hpk HB5
  go_wp2_with fail
  have hlt := Lib.hid (show p < w6.heap.size ∧ bm < w6.heap.size from ⟨HP6.out.lt, HP6.out.map.lt⟩)
  refine (nk_1 HP6.out).mono ?_; rintro e w7 ⟨va, rfl, ho, hpk, has⟩
  have HB7 := Lib.hid (below_aside HB6.out has fun b hb => ⟨Nat.lt_of_lt_of_le hb HB6.out.size, by have := hpb.out; omega⟩)
  have HP7 := Lib.hid hpk
  have HA7 := Lib.hid ho
  obtain ⟨ga, ca, rfl, _⟩ := ho.some_ (by simp)
  have hs7 := Lib.hid has.size
  clear ho hpk has HB6 HP6
  go_wp2_with fail
  refine (nk_2 HP7.out).mono ?_; rintro e w8 ⟨vb, rfl, ho, hpk, has⟩
  have HB8 := Lib.hid (below_aside HB7.out has fun b hb => ⟨Nat.lt_of_lt_of_le hb HB7.out.size, by have := hpb.out; omega⟩)
  have HP8 := Lib.hid hpk
  have HA8 := Lib.hid (HA7.out.aside has fun b hv e => by have := (HA7.out.lt b hv).1; have := hlt.out; omega)
  have HO8 := Lib.hid ho
  obtain ⟨gb, cb, rfl, _⟩ := ho.some_ (by simp)
  have hs8 := Lib.hid (Nat.le_trans hs7.out has.size)
  clear ho hpk has HB7 HP7 HA7
  go_wp2_with fail
  refine (nk_3 HP8.out).mono ?_; rintro e w9 ⟨vc, rfl, ho, hpk, has⟩
  have HB9 := Lib.hid (below_aside HB8.out has fun b hb => ⟨Nat.lt_of_lt_of_le hb HB8.out.size, by have := hpb.out; omega⟩)
  have HP9 := Lib.hid hpk
  have HA9 := Lib.hid (HA8.out.aside has fun b hv e => by have := (HA8.out.lt b hv).1; have := hlt.out; omega)
  have HO9 := Lib.hid (HO8.out.aside has fun b hv e => by have := (HO8.out.lt b hv).1; have := hlt.out; have := hs7.out; omega)
  have HQ9 := Lib.hid ho
  obtain ⟨gc, cc, rfl, _⟩ := ho.some_ (by simp)
  clear ho hpk has HB8 HP8 HA8 HO8
  have hcv := fun (w : World) (C : Array Value) (n c : Nat) => Lib.run_convert_bytes_const (P := Try.prog) w 22 5 C n c Try.underlying22 Try.underlying5
  go_wp2_with fail
  have hal := bel_alloc (Below.refl w9.heap.size w9) (.cells #[.int .u8 1, .int .u8 97, .int .u8 1, .int .u8 98, .int .u8 0] 5 (5, 6))
  refine (same_any (HA9.out.below hal).sl (sl_mark w9 [1, 97, 1, 98, 0] (5, 6))).mono ?_; rintro e w10 ⟨rfl, rfl⟩
  replace HP9 := Lib.hid (HP9.out.later hal)
  replace HO9 := Lib.hid (HO9.out.below hal)
  replace HQ9 := Lib.hid (HQ9.out.below hal)
  replace HB9 := Lib.hid (bel_call HB9.out hal)
  obtain ⟨W, hW⟩ : ∃ W, w9.alloc (.cells #[.int .u8 1, .int .u8 97, .int .u8 1, .int .u8 98, .int .u8 0] 5 (5, 6)) = W := ⟨_, rfl⟩
  rw [hW] at HP9 HO9 HQ9 HB9 ⊢
  clear hW hal HA9 hcv
  go_wp2_with fail
  have hal := bel_alloc (Below.refl W.heap.size W) (.cells #[.int .u8 1, .int .u8 99, .int .u8 192, .int .u8 14] 5)
  refine (same_any (HO9.out.below hal).sl (sl_lit_u W [1, 99, 192, 14])).mono ?_; rintro e w11 ⟨rfl, rfl⟩
  replace HP9 := Lib.hid (HP9.out.later hal)
  replace HQ9 := Lib.hid (HQ9.out.below hal)
  replace HB9 := Lib.hid (bel_call HB9.out hal)
  obtain ⟨V, hV⟩ : ∃ V, W.alloc (.cells #[.int .u8 1, .int .u8 99, .int .u8 192, .int .u8 14] 5) = V := ⟨_, rfl⟩
  rw [hV] at HP9 HQ9 HB9 ⊢
  clear hV hal HO9
  go_wp2_with fail
  have hal := bel_alloc (Below.refl V.heap.size V) (.cells #[.int .u8 1, .int .u8 65, .int .u8 192, .int .u8 14] 5)
  refine (same_any (HQ9.out.below hal).sl (sl_lit_u V [1, 65, 192, 14])).mono ?_; rintro e w11 ⟨rfl, rfl⟩
  replace HP9 := Lib.hid (HP9.out.later hal)
  replace HB9 := Lib.hid (bel_call HB9.out hal)
  obtain ⟨U, hU⟩ : ∃ U, V.alloc (.cells #[.int .u8 1, .int .u8 65, .int .u8 192, .int .u8 14] 5) = U := ⟨_, rfl⟩
  rw [hU] at HP9 HB9 ⊢
  clear hU hal HQ9
  go_wp2_with fail
  refine (known_any HP9.out).mono ?_; rintro e w12 ⟨rfl, rfl⟩
  go_wp2_with fail
  have hltU := Lib.hid (show p < U.heap.size ∧ bm < U.heap.size from ⟨HP9.out.lt, HP9.out.map.lt⟩)
  refine (nk_4 HP9.out).mono ?_; rintro e w13 ⟨vd, rfl, ho, hpk, has⟩
  have HB13 := Lib.hid (below_aside HB9.out has fun b hb => ⟨Nat.lt_of_lt_of_le hb HB9.out.size, by have := hpb.out; omega⟩)
  have HP13 := Lib.hid hpk
  have HD13 := Lib.hid ho
  obtain ⟨gd, cd, rfl, _⟩ := ho.some_ (by simp)
  clear ho hpk has HB9 HP9
  go_wp2_with fail
  refine (nk_no HP13.out 26 (by decide) (by decide)).mono ?_; rintro e w14 ⟨vk, rfl, ho, hpk, has⟩
  have HB14 := Lib.hid (below_aside HB13.out has fun b hb => ⟨Nat.lt_of_lt_of_le hb HB13.out.size, by have := hpb.out; omega⟩)
  have HP14 := Lib.hid hpk
  have HD14 := Lib.hid (HD13.out.aside has fun b hv e => by have := (HD13.out.lt b hv).1; have := hltU.out; omega)
  obtain ⟨gk, ck, rfl⟩ := ho.shape
  clear ho hpk has HB13 HP13 HD13
  go_wp2_with fail
  refine (nk_no HP14.out 20 (by decide) (by decide)).mono ?_; rintro e w15 ⟨vl, rfl, ho, hpk, has⟩
  have HB15 := Lib.hid (below_aside HB14.out has fun b hb => ⟨Nat.lt_of_lt_of_le hb HB14.out.size, by have := hpb.out; omega⟩)
  have HD15 := Lib.hid (HD14.out.aside has fun b hv e => by have := (HD14.out.lt b hv).1; have := hltU.out; omega)
  obtain ⟨gl, cl, rfl⟩ := ho.shape
  clear ho hpk has HB14 HP14 HD14
  go_wp2_with fail
  refine (HAW.out _).mono ?_; rintro e w16 ⟨rfl, hb⟩
  replace HB15 := Lib.hid (bel_call HB15.out hb)
  replace HD15 := Lib.hid (HD15.out.below hb)
  clear hb
  go_wp2_with fail
  have hal := bel_alloc (Below.refl w16.heap.size w16) (.cells #[.int .u8 192, .int .u8 14] 5)
  refine (same_any (HD15.out.below hal).sl (sl_lit_u w16 [192, 14])).mono ?_; rintro e w17 ⟨rfl, rfl⟩
  replace HB15 := Lib.hid (bel_call HB15.out hal)
  go_wp2_with fail
  go_ret
  exact ⟨rfl, HB15.out⟩
end Go.Proofs.Ythhfgbfipogppaa
