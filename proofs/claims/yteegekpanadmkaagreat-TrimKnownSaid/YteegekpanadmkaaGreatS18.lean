/-
  The chapter's message made; what is asked of it.
-/
import Derived.Test.YteegekpanadmkaaGreatS17
import Derived.Lib.AppendZeros
import Derived.Test.YteegekpanadmkaaGreatS09
import Derived.Test.YteegekpanadmkaaGreatS13
namespace Go.Proofs.YteegekpanadmkaaGreat
open Go.RowKit Go.Shelf
set_option linter.unusedVariables false
set_option linter.unusedSimpArgs false
set_option maxRecDepth 100000

set_option maxHeartbeats 4000000 in
theorem sample_any (w : World) : Calls Tryz.prog 26 #[] w fun e w' => ∃ v, e = .returned v ∧ Mg w' w'.heap.size v samM ∧ Below w.heap.size w w' := by
  obtain ⟨N, hN⟩ : ∃ N, w.heap.size = N := ⟨_, rfl⟩
  have HN := Lib.hid hN
  go_enter Tryz.func26, Tryz.ntmps26
  go_wp2
  obtain ⟨W1, hW1⟩ : ∃ X, w.alloc (.cells #[.int .i64 7, .int .i64 32768, .slice (some ⟨N + 1 + 1, 0, none⟩) 1 1, .slice (some ⟨N + 1 + 1 + 1 + 1, 0, none⟩) 1 1, .slice none 0 0, .slice (some ⟨N + 1 + 1 + 1 + 1 + 1, 0, none⟩) 1 1] 25) = X := ⟨_, rfl⟩
  obtain ⟨W2, hW2⟩ : ∃ X, W1.alloc (.cells #[.string ⟨#[1, 97, 0]⟩, .int .i64 1, .int .i64 1] 56) = X := ⟨_, rfl⟩
  obtain ⟨W3, hW3⟩ : ∃ X, W2.alloc (.cells #[.string ⟨#[1, 97, 0]⟩, .int .i64 1, .int .i64 1] 56) = X := ⟨_, rfl⟩
  obtain ⟨W4, hW4⟩ : ∃ X, W3.alloc (.cells #[.int .i64 7, .int .i64 32768, .slice (some ⟨N + 1 + 1, 0, none⟩) 1 1, .slice (some ⟨N + 1 + 1 + 1 + 1, 0, none⟩) 1 1, .slice none 0 0, .slice (some ⟨N + 1 + 1 + 1 + 1 + 1, 0, none⟩) 1 1] 25) = X := ⟨_, rfl⟩
  obtain ⟨W5, hW5⟩ : ∃ X, W4.alloc (.cells #[.string ⟨#[1, 97, 0]⟩, .int .i64 1, .int .i64 1, .int .i64 5, .string ⟨#[49, 50, 51, 52]⟩] 52) = X := ⟨_, rfl⟩
  obtain ⟨W6, hW6⟩ : ∃ X, W5.alloc (.cells #[.string ⟨#[0]⟩, .int .i64 41, .int .i64 1232, .int .i64 0, .string ⟨#[]⟩] 52) = X := ⟨_, rfl⟩
  rw [hW1, hW2, hW3, hW4, hW5, hW6]
  have l1 : W1.heap.size = N + 1 := by rw [← hW1, World.size_alloc, hN]
  have l2 : W2.heap.size = N + 1 + 1 := by rw [← hW2, World.size_alloc, l1]
  have l3 : W3.heap.size = N + 1 + 1 + 1 := by rw [← hW3, World.size_alloc, l2]
  have l4 : W4.heap.size = N + 1 + 1 + 1 + 1 := by rw [← hW4, World.size_alloc, l3]
  have l5 : W5.heap.size = N + 1 + 1 + 1 + 1 + 1 := by rw [← hW5, World.size_alloc, l4]
  have b6 : Below W5.heap.size W5 W6 := by rw [← hW6]; exact (Below.refl _ _).alloc (Nat.le_refl _) _
  have b5 : Below W4.heap.size W4 W6 := by refine Below.trans ?_ (b6.mono (by omega)); rw [← hW5]; exact (Below.refl _ _).alloc (Nat.le_refl _) _
  have b4 : Below W3.heap.size W3 W6 := by refine Below.trans ?_ (b5.mono (by omega)); rw [← hW4]; exact (Below.refl _ _).alloc (Nat.le_refl _) _
  have b3 : Below W2.heap.size W2 W6 := by refine Below.trans ?_ (b4.mono (by omega)); rw [← hW3]; exact (Below.refl _ _).alloc (Nat.le_refl _) _
  have b2 : Below W1.heap.size W1 W6 := by refine Below.trans ?_ (b3.mono (by omega)); rw [← hW2]; exact (Below.refl _ _).alloc (Nat.le_refl _) _
  have b1 : Below w.heap.size w W6 := by refine Below.trans ?_ (b2.mono (by omega)); rw [← hW1]; exact (Below.refl _ _).alloc (Nat.le_refl _) _
  have hc : Cel W6 N [.int .i64 7, .int .i64 32768, .slice (some ⟨N + 1 + 1, 0, none⟩) 1 1, .slice (some ⟨N + 1 + 1 + 1 + 1, 0, none⟩) 1 1, .slice none 0 0, .slice (some ⟨N + 1 + 1 + 1 + 1 + 1, 0, none⟩) 1 1] := by
    have := cel_new6 w (.int .i64 7) (.int .i64 32768) (.slice (some ⟨N + 1 + 1, 0, none⟩) 1 1) (.slice (some ⟨N + 1 + 1 + 1 + 1, 0, none⟩) 1 1) (.slice none 0 0) (.slice (some ⟨N + 1 + 1 + 1 + 1 + 1, 0, none⟩) 1 1) 25
    rw [hW1, hN] at this
    exact this.below (by simp) b2
  have hq := sq_one W2 samQ
  have hr := sr_one W4 samR
  have ho := sr_one W5 samO
  unfold samQ at hq
  unfold samR at hr
  unfold samO at ho
  rw [show bs [1, 97, 0] = ⟨#[1, 97, 0]⟩ from rfl] at hq hr
  rw [show bs [49, 50, 51, 52] = ⟨#[49, 50, 51, 52]⟩ from rfl] at hr
  rw [show bs [0] = ⟨#[0]⟩ from rfl, show bs [] = ⟨#[]⟩ from rfl] at ho
  rw [l2] at hq
  rw [l4] at hr
  rw [l5] at ho
  rw [hW3] at hq
  rw [hW5] at hr
  rw [hW6] at ho
  have s6 : W6.heap.size = N + 1 + 1 + 1 + 1 + 1 + 1 := by rw [← hW6, World.size_alloc, l5]
  obtain ⟨m0, m1, m2, m3, m4, m5⟩ := hc.six
  refine bodyPost_ret (v := .agg #[.int .i64 7, .int .i64 32768, .slice (some ⟨N + 1 + 1, 0, none⟩) 1 1, .slice (some ⟨N + 1 + 1 + 1 + 1, 0, none⟩) 1 1, .slice none 0 0, .slice (some ⟨N + 1 + 1 + 1 + 1 + 1, 0, none⟩) 1 1]) (by simp [results, Tryz.results26, go_sem, m0, m1, m2, m3, m4, m5]) rfl ⟨_, rfl, ⟨_, _, _, _, rfl, ?_, ?_, Lst.nil _ _, ?_⟩, b1⟩
  · exact Lst.wide (Lst.below hq (b4.mono (Nat.le_of_eq l3.symm)) (Nat.le_refl _)) (by omega)
  · exact Lst.wide (Lst.below hr (b6.mono (Nat.le_of_eq l5.symm)) (Nat.le_refl _)) (by omega)
  · exact Lst.wide ho (by omega)
theorem samFine : samM.Fine := ⟨by decide, by decide, by decide, by decide⟩

set_option maxHeartbeats 4000000 in
theorem fits_any (w : World) (size : Int) {z : List UInt8} {n : Nat} (h : fitA samM size = (some z, n, 0)) : Calls Tryz.prog 27 #[.int .i64 size, .int .i64 z.length, .int .i64 n] w (Tells w (.bool true)) := by
  have HS := Lib.hid (sample_any w)
  have HF := Lib.hid (fun (wx : World) (v : Value) (hm : Mg wx wx.heap.size v samM) => fit_any hm (Nat.le_refl _) samFine (by decide) size)
  rw [h] at HF
  go_enter Tryz.func27, Tryz.ntmps27
  go_wp2_with fail
  refine HS.out.mono ?_; rintro e w1 ⟨v, rfl, hm, hb⟩
  have HFF := Lib.hid (HF.out w1 v hm)
  have HB := Lib.hid hb
  clear hm hb HF
  go_wp2_with fail
  refine HFF.out.mono ?_; rintro e w2 ⟨v2, rfl, ho, hb2⟩
  obtain ⟨a, c, rfl⟩ := OwnB.shape ho
  have HB2 := Lib.hid (HB.out.trans (hb2.mono HB.out.size))
  simp only [Option.getD_some]
  obtain ⟨L, hL⟩ : ∃ L, z.length = L := ⟨_, rfl⟩
  rw [hL]
  clear ho hb2 h HS HFF hL
  go_wp2_with fail
  go_ret
  exact ⟨rfl, HB2.out⟩
theorem fA46 : fitA samM 46 = (some samB, 0, 0) := by kernel_rfl
def samB1 : List UInt8 := [0, 7, 130, 0, 0, 1, 0, 0, 0, 0, 0, 1, 1, 97, 0, 0, 1, 0, 1, 0, 0, 41, 4, 208, 0, 0, 0, 0, 0, 0]
theorem fA45 : fitA samM 45 = (some samB1, 1, 0) := by kernel_rfl

set_option maxHeartbeats 1000000 in
theorem awake10_any (w : World) : Calls Tryz.prog 17 #[] w (Tells w (.bool true)) := by
  have H1 := Lib.hid (fun wx => fits_any wx 46 fA46)
  have H2 := Lib.hid (fun wx => fits_any wx 45 fA45)
  go_enter Tryz.func17, Tryz.ntmps17
  go_wp2_with fail
  refine (H1.out w).mono ?_; rintro e w1 ⟨rfl, hb⟩
  have HB := Lib.hid hb
  clear hb
  go_wp2_with fail
  refine (H2.out w1).mono ?_; rintro e w2 ⟨rfl, hb⟩
  have HB2 := Lib.hid (bel_call HB.out hb)
  clear hb
  go_wp2_with fail
  go_ret
  exact ⟨rfl, HB2.out⟩
end Go.Proofs.YteegekpanadmkaaGreat

/-
  slices.Concat of rows of records; the least of them.
-/
namespace Go.Proofs.YteegekpanadmkaaGreat
open Go.RowKit Go.Shelf
set_option linter.unusedVariables false
set_option linter.unusedSimpArgs false
set_option maxRecDepth 100000

/-- Grow of nothing: a row of the call's own, empty. -/
theorem growR_any (w : World) (n : Nat) (hn : n ≤ 1000000) :
    Calls Tryz.prog 70 #[.slice none 0 0, .int .i64 n] w fun e w' => ∃ a c, e = .returned (.slice a 0 c) ∧ OwnRc w' w.heap.size (.slice a 0 c) [] ∧ Below w.heap.size w w' := by
  by_cases h0 : n = 0
  · subst h0
    go_enter Tryz.func70, Tryz.ntmps70
    go_wp2_with fail
    go_ret
    exact ⟨none, 0, rfl, ⟨rfl, .inl ⟨rfl, rfl⟩⟩, Below.refl _ _⟩
  · have t1 : ¬ ((n : Int) < 0) := by omega
    have t2 : (0 : Int) < n := by omega
    have e1 : wrap64 ((n : Int) - 0) = n := by rw [IntWalk.wrap64_in _ ⟨by omega, by omega⟩]; omega
    obtain ⟨i, hi, hz0, hz1, hz2⟩ := info_parts info_rc
    have hr := Lib.run_append_nil_zeros (P := Tryz.prog) w 23 3 23 52 i _ .i64 .i64 Tryz.underlying23 Tryz.underlying3 hi hz0 n (by omega) (by omega) (by omega) (by rw [hz2]; omega)
    have hge := grownCap_ge w n 0 52
    obtain ⟨cap, hcap⟩ : ∃ cap, grownCap w n 0 52 = cap := ⟨_, rfl⟩
    have hml := grownCap_le_maxLen w n 0 52 (by unfold maxLen; omega)
    rw [hcap] at hr hge hml
    obtain ⟨Z, hZ⟩ : ∃ Z, (Builtin.zeroCells (Value.agg #[.string ⟨#[]⟩, .int .i64 0, .int .i64 0, .int .i64 0, .string ⟨#[]⟩]).cells n ++ Builtin.zeroCells (Value.agg #[.string ⟨#[]⟩, .int .i64 0, .int .i64 0, .int .i64 0, .string ⟨#[]⟩]).cells (cap - n)) = Z := ⟨_, rfl⟩
    have hZs : Z.size = cap * 5 := by
      rw [← hZ, Array.size_append, size_zeroCells, size_zeroCells, ← Nat.add_mul, show n + (cap - n) = cap by omega]
      rfl
    rw [hZ] at hr
    have HR := Lib.hid hr
    have HO : Hid (OwnRc (w.drew.alloc (.cells Z 52)) w.heap.size (.slice (some ⟨w.heap.size, 0, none⟩) 0 cap) []) :=
      ⟨rfl, .inr ⟨w.heap.size, cap, Z, rfl, Nat.le_refl _, heap_alloc_new w.drew _, Nat.zero_le _, hml, hZs, rfl⟩⟩
    clear hr hcap hi hz0 hz1 hz2 hZ hZs
    go_enter Tryz.func70, Tryz.ntmps70
    go_wp2_with (at_builtin; refine wpList_append_run (.tmp 20) (.tmp 21) 23 3 rfl rfl rfl rfl HR.out ?_)
    go_ret
    exact ⟨_, _, rfl, HO.out, (Below.refl _ w).drew.alloc (Nat.le_refl _) _⟩

theorem flatR_take {ls : List (List Rc)} {k : Nat} (h : k < ls.length) : (ls.take (k + 1)).flatten = (ls.take k).flatten ++ ls[k] := by
  rw [List.take_succ_eq_append_getElem h, List.flatten_append]
  simp
theorem flatR_le (ls : List (List Rc)) (k : Nat) : (ls.take k).flatten.length ≤ ls.flatten.length := by
  conv => rhs; rw [← List.take_append_drop k ls, List.flatten_append, List.length_append]
  omega

set_option maxHeartbeats 4000000 in
/-- Concat: the rows' records, one behind the other, in a row of the call's own. -/
theorem concatR_any {w : World} {g hi n c0 : Nat} {ls : List (List Rc)} (hn : ls.length = n) (hn6 : n ≤ 1000) (hg : g < w.heap.size) (hhi : hi ≤ w.heap.size) (hb : ls.flatten.length ≤ 900000)
    (hc : ∀ j (h : j < ls.length), ∃ a c, w.cell? ⟨g, j, none⟩ = some (.slice a ls[j].length c) ∧ SR w hi (.slice a ls[j].length c) ls[j]) :
    Calls Tryz.prog 39 #[.slice (some ⟨g, 0, none⟩) n c0] w fun e w' => ∃ v, e = .returned v ∧ OwnRc w' w.heap.size v ls.flatten ∧ Below w.heap.size w w' := by
  have HC := Lib.hid hc
  have HN := Lib.hid hn
  obtain ⟨N, hN⟩ : ∃ N, ls.flatten.length = N := ⟨_, rfl⟩
  have HNN := Lib.hid hN
  rw [hN] at hb
  have HG := Lib.hid (fun wx => growR_any wx N (by omega))
  clear hc hN hn
  go_enter Tryz.func39, Tryz.ntmps39
  go_wp2_with fail
  go_loopg [3, 11] n (fun k v3 v11 wr => ∃ j z : Nat, j + k = n ∧ v11 = .int .i64 j ∧ v3 = .int .i64 z ∧ z ≤ N ∧ Hid ((ls.take j).flatten.length = z) ∧ w = wr)
  case atStart => exact ⟨0, 0, by omega, rfl, rfl, by omega, rfl, rfl⟩
  case round =>
    obtain ⟨j, z, hj, rfl, rfl, hz, HZ, rfl⟩ := hrel
    by_cases hlt : j < n
    · have hlt2 : j < ls.length := by have := HN.out; omega
      obtain ⟨a, c, c1, _⟩ := HC.out j hlt2
      have HZ2 := Lib.hid (show (ls.take (j + 1)).flatten.length = z + ls[j].length by rw [flatR_take hlt2, List.length_append, HZ.out])
      have hle : z + ls[j].length ≤ N := by rw [← HZ2.out, ← HNN.out]; exact flatR_le ls (j + 1)
      obtain ⟨m, hm⟩ : ∃ m, ls[j].length = m := ⟨_, rfl⟩
      rw [hm] at c1 hle HZ2
      clear hm
      go_wp2_with fail
      go_roundg (n - (j + 1))
      case measure => omega
      case rel => exact ⟨j + 1, z + m, by omega, by go_num, by go_num, hle, HZ2, rfl⟩
    · have hje : j = n := by omega
      subst hje
      have hzN : z = N := by rw [← HZ.out, ← HNN.out, List.take_of_length_le (by have := HN.out; omega)]
      subst hzN
      clear HZ
      go_wp2_with fail
      refine (HG.out _).mono ?_; rintro e w1 ⟨a6, c6, rfl, ho, hb1⟩
      have HO := Lib.hid ho
      have HB := Lib.hid hb1
      clear ho hb1
      go_wp2_with fail
      go_loopg [6, 27] j (fun k v6 v27 wr => ∃ (i : Nat) (acc : List Rc) (a : Option Addr) (c : Nat), i + k = j ∧ v27 = .int .i64 i ∧ v6 = .slice a acc.length c ∧ Hid ((ls.take i).flatten = acc) ∧ Hid (OwnRc wr w.heap.size (.slice a acc.length c) acc) ∧ Hid (Below w.heap.size w wr))
      case atStart => exact ⟨0, [], a6, c6, by omega, rfl, rfl, rfl, HO, HB⟩
      case round =>
        clear HO HB
        obtain ⟨i, acc, a, c, hi2, rfl, rfl, HA, HO, HB⟩ := hrel
        by_cases hlt : i < j
        · have hlt2 : i < ls.length := by have := HN.out; omega
          obtain ⟨ax, cx, c1, hs⟩ := HC.out i hlt2
          have hs2 := Lst.below hs HB.out hhi
          have c2 := HB.out.cell (p := ⟨g, i, none⟩) hg
          rw [c1] at c2
          have HA2 := Lib.hid (show (ls.take (i + 1)).flatten = acc ++ ls[i] by rw [flatR_take hlt2, HA.out])
          have hle : acc.length + ls[i].length ≤ 900000 := by
            have h1 := flatR_le ls (i + 1)
            rw [HA2.out, List.length_append, HNN.out] at h1
            omega
          obtain ⟨a', c', w', hr, ho, ha, _⟩ := run_appRc HO.out hs2 (by omega) HB.out.size
          have hlt3 := World.ownsRow.lt HO.out
          have HB2 := Lib.hid (below_aside HB.out ha fun b hb => ⟨Nat.lt_of_lt_of_le hb HB.out.size, fun hg2 => by have := (hlt3 b hg2).1; omega⟩)
          have hL : (acc ++ ls[i]).length = acc.length + ls[i].length := List.length_append
          obtain ⟨x, hx⟩ : ∃ x, ls[i] = x := ⟨_, rfl⟩
          rw [hx] at hr ho c2 hs2 HA2 hL
          obtain ⟨m, hm⟩ : ∃ m, x.length = m := ⟨_, rfl⟩
          obtain ⟨y, hy⟩ : ∃ y, acc.length = y := ⟨_, rfl⟩
          rw [hm] at c2
          rw [hm, hy] at hr ho
          have HLN := Lib.hid hL
          have HR := Lib.hid hr
          have HOn := Lib.hid ho
          have HM := Lib.hid hm
          have HY := Lib.hid hy
          rw [hy]
          clear hr ho ha hs hs2 hx hL hm hy hle c1
          go_wp2_with (at_builtin; refine wpList_append_run (.tmp 31) (.tmp 32) 23 23 rfl rfl rfl rfl HR.out ?_)
          go_roundg (j - (i + 1))
          case measure => omega
          case rel => exact ⟨i + 1, acc ++ x, a', c', by omega, by go_num, by rw [HLN.out, HM.out, HY.out], HA2, by rw [HLN.out, HM.out, HY.out]; exact HOn, HB2⟩
        · have hie : i = j := by omega
          subst hie
          have hE : acc = ls.flatten := by rw [← HA.out, List.take_of_length_le (by have := HN.out; omega)]
          have HE := Lib.hid hE
          clear hE
          go_wp2_with fail
          go_ret
          exact ⟨_, rfl, HE.out ▸ HO.out, HB.out⟩
end Go.Proofs.YteegekpanadmkaaGreat

/-
  The least of records; trim.Least.
-/
namespace Go.Proofs.YteegekpanadmkaaGreat
open Go.RowKit Go.Shelf
set_option linter.unusedVariables false
set_option linter.unusedSimpArgs false
set_option maxRecDepth 100000

set_option maxHeartbeats 400000 in
theorem lessL_any (w : World) (x y : Rc) : Calls Tryz.prog 41 #[.agg #[.string (bs x.n), .int .i64 x.t, .int .i64 x.c, .int .i64 x.l, .string (bs x.d)], .agg #[.string (bs y.n), .int .i64 y.t, .int .i64 y.c, .int .i64 y.l, .string (bs y.d)]] w
    fun e w' => e = .returned (.int .i64 (cmpV x.l y.l)) ∧ Below w.heap.size w w' := by
  have hc := fun wx => cmp_any wx x.l y.l
  obtain ⟨r, hr⟩ : ∃ r, cmpV x.l y.l = r := ⟨_, rfl⟩
  rw [hr] at hc ⊢
  clear hr
  go_enter Tryz.func41, Tryz.ntmps41
  go_wp2_with (go_at_call 42; refine (hc _).mono ?_; rintro e w1 ⟨rfl, rfl⟩)
  go_ret
  exact ⟨rfl, ((Below.refl _ _).alloc (Nat.le_refl _) _).alloc (by simp) _⟩

/-- The record of the least TTL, the first of them. -/
def minR (x : Rc) (l : List Rc) : Rc := l.foldl (fun y z => if z.l < y.l then z else y) x
theorem minR_take {x : Rc} {l : List Rc} {k : Nat} (h : k < l.length) : minR x (l.take (k + 1)) = if l[k].l < (minR x (l.take k)).l then l[k] else minR x (l.take k) := by
  unfold minR
  rw [List.take_succ_eq_append_getElem h, List.foldl_append]
  rfl
def lessL : Value := .func (.func 41) #[] #[]

/-- The least so far in its box, and the answer's box. -/
structure Mq (w wr : World) (N : Nat) (y : Rc) : Prop where
  bel : Below N w wr
  z : Cel wr N [.string ⟨#[]⟩, .int .i64 0, .int .i64 0, .int .i64 0, .string ⟨#[]⟩]
  x : Cel wr (N + 1) [.string (bs y.n), .int .i64 y.t, .int .i64 y.c, .int .i64 y.l, .string (bs y.d)]
  size : N + 2 ≤ wr.heap.size
section
variable {w wr w' : World} {N : Nat} {y : Rc}
theorem Mq.later (h : Mq w wr N y) (hb : Below wr.heap.size wr w') : Mq w w' N y :=
  ⟨h.bel.trans (hb.mono (by have := h.size; omega)), h.z.below (by simp) hb, h.x.below (by simp) hb, Nat.le_trans h.size hb.size⟩
theorem Mq.put (h : Mq w wr N y) (z : Rc) : Mq w (put5 wr (N + 1) (.string (bs z.n)) (.int .i64 z.t) (.int .i64 z.c) (.int .i64 z.l) (.string (bs z.d))) N z :=
  ⟨below_aside h.bel (aside_put5 wr (N + 1) _ _ _ _ _) (fun k hk => ⟨by have := h.size; omega, by omega⟩), h.z.aside (by simp) (aside_put5 wr (N + 1) _ _ _ _ _) (by omega), cel_put5 h.x _ _ _ _ _, Nat.le_trans h.size (aside_put5 wr (N + 1) _ _ _ _ _).size⟩
end

set_option maxHeartbeats 4000000 in
theorem minF_any {w : World} {hi : Nat} {a : Option Addr} {c : Nat} {l : List Rc} {x : Rc} (h : SR w hi (.slice a l.length c) l) (h1 : hi ≤ w.heap.size) (hx : l[0]? = some x) (hl : l.length ≤ 900000) :
    Calls Tryz.prog 40 #[.slice a l.length c, lessL] w (fun e w' => e = .returned (.agg #[.string (bs (minR x l).n), .int .i64 (minR x l).t, .int .i64 (minR x l).c, .int .i64 (minR x l).l, .string (bs (minR x l).d)]) ∧ Below w.heap.size w w') := by
  obtain ⟨h0, hx⟩ := List.getElem?_eq_some_iff.mp hx
  obtain ⟨N, hN⟩ : ∃ N, w.heap.size = N := ⟨_, rfl⟩
  have HX := Lib.hid h
  have HHI := Lib.hid (show hi ≤ N by omega)
  obtain ⟨b, off, c2, he, hb, hc⟩ := h.at_ 0 h0
  injection he with he hn3 hc3
  clear hn3 hc3
  subst he
  rw [hx] at hc
  obtain ⟨c0, c1, c3, c4, c5⟩ := hc
  have hbN : b < N := by omega
  have t1 : ¬ ((l.length : Int) < 1) := by omega
  have t2 : (0 : Int) < l.length := by omega
  simp only [Nat.zero_mul, Nat.add_zero] at c0 c1 c3 c4 c5
  have HC := Lib.hid (fun wx y z => lessL_any wx y z)
  clear h h1
  unfold lessL
  go_enter Tryz.func40, Tryz.ntmps40
  go_wp2_with fail
  clear c0 c1 c3 c4 c5
  obtain ⟨W2, hW2⟩ : ∃ X, (w.alloc (.cells #[.string ⟨#[]⟩, .int .i64 0, .int .i64 0, .int .i64 0, .string ⟨#[]⟩] 52)).alloc (.cells #[.string (bs x.n), .int .i64 x.t, .int .i64 x.c, .int .i64 x.l, .string (bs x.d)] 52) = X := ⟨_, rfl⟩
  have hMq : Mq w W2 N x := by
    obtain ⟨Wa, hWa⟩ : ∃ X, w.alloc (.cells #[.string ⟨#[]⟩, .int .i64 0, .int .i64 0, .int .i64 0, .string ⟨#[]⟩] 52) = X := ⟨_, rfl⟩
    rw [hWa] at hW2
    have hsa : Wa.heap.size = N + 1 := by rw [← hWa, World.size_alloc, hN]
    have b1 : Below w.heap.size w Wa := by rw [← hWa]; exact (Below.refl _ _).alloc (Nat.le_refl _) _
    have b2 : Below Wa.heap.size Wa W2 := by rw [← hW2]; exact (Below.refl _ _).alloc (Nat.le_refl _) _
    have z1 : Cel Wa N [.string ⟨#[]⟩, .int .i64 0, .int .i64 0, .int .i64 0, .string ⟨#[]⟩] := by
      have := cel_new w (.string ⟨#[]⟩) (.int .i64 0) (.int .i64 0) (.int .i64 0) (.string ⟨#[]⟩) 52
      rwa [hN, hWa] at this
    have x1 : Cel W2 (N + 1) [.string (bs x.n), .int .i64 x.t, .int .i64 x.c, .int .i64 x.l, .string (bs x.d)] := by
      have := cel_new Wa (.string (bs x.n)) (.int .i64 x.t) (.int .i64 x.c) (.int .i64 x.l) (.string (bs x.d)) 52
      rwa [hsa, hW2] at this
    exact ⟨by rw [← hN]; exact b1.trans (b2.mono (by omega)), z1.below (by simp) b2, x1, by rw [← hW2, World.size_alloc, hsa]; omega⟩
  rw [hW2]
  have HQ := Lib.hid hMq
  have HT1 := Lib.hid (show minR x (l.take 1) = x by rw [minR_take h0, hx]; unfold minR; simp)
  obtain ⟨n, hn⟩ : ∃ n, l.length = n := ⟨_, rfl⟩
  have HNN := Lib.hid hn
  have HLX := Lib.hid (And.intro hbN hl)
  have HNW := Lib.hid hN
  rw [hn] at h0 hl t1 t2 ⊢
  clear hMq hW2 hN hn hx hbN hb t1 t2
  go_loopg [6] (n - 1) (fun g v6 wr => ∃ (k : Nat) (y : Rc), k + g = n ∧ 1 ≤ k ∧ v6 = .int .i64 k ∧ Hid (minR x (l.take k) = y) ∧ Hid (Mq w wr N y))
  case atStart => exact ⟨1, x, by omega, Nat.le_refl _, rfl, HT1, HQ⟩
  case round =>
    clear HT1 HQ
    obtain ⟨k, y, hg, hk1, rfl, HY, HQ⟩ := hrel
    by_cases hlt : k < n
    · have hlt2 : k < l.length := by rw [HNN.out]; exact hlt
      obtain ⟨b', off', c', he, hb', hc⟩ := HX.out.at_ k hlt2
      rw [HNN.out] at he
      injection he with he hn3 hc3
      injection he with he
      injection he with he1 he2
      subst he1 he2
      clear hn3 hc3
      have HMT := Lib.hid (minR_take (x := x) hlt2)
      obtain ⟨z, hz⟩ : ∃ z, l[k] = z := ⟨_, rfl⟩
      rw [hz, HY.out] at HMT
      rw [hz] at hc
      have HCW := Lib.hid (fun (wx : World) (hb : Below N w wx) => hc.keep fun o => hb.cell (p := ⟨b, o, none⟩) HLX.out.1)
      have HSS := Lib.hid (fun (wx : World) (hb : Below wr.heap.size wr wx) => (show (wx.cell? ⟨b, off + k * 5, none⟩ = some (.string (bs z.n)) ∧ wx.cell? ⟨b, off + k * 5 + 1, none⟩ = some (.int .i64 z.t) ∧ wx.cell? ⟨b, off + k * 5 + 2, none⟩ = some (.int .i64 z.c) ∧ wx.cell? ⟨b, off + k * 5 + 3, none⟩ = some (.int .i64 z.l) ∧ wx.cell? ⟨b, off + k * 5 + 4, none⟩ = some (.string (bs z.d))) ∧ (wx.cell? ⟨N + 1, 0, none⟩ = some (.string (bs y.n)) ∧ wx.cell? ⟨N + 1, 1, none⟩ = some (.int .i64 y.t) ∧ wx.cell? ⟨N + 1, 2, none⟩ = some (.int .i64 y.c) ∧ wx.cell? ⟨N + 1, 3, none⟩ = some (.int .i64 y.l) ∧ wx.cell? ⟨N + 1, 4, none⟩ = some (.string (bs y.d))) from ⟨HCW.out wx (HQ.out.bel.trans (hb.mono (by have := HQ.out.size; omega))), (HQ.out.x.below (by simp) hb).five⟩))
      have hkl : (k : Int) < (n : Int) := by omega
      obtain ⟨r, hr⟩ : ∃ r, cmpV z.l y.l = r := ⟨_, rfl⟩
      have hrn := cmpV_neg z.l y.l
      rw [hr] at hrn
      clear hc hb' hz
      go_wp2_with fail
      refine wp_region_held_drew (S := (fun wx => (wx.cell? ⟨b, off + k * 5, none⟩ = some (.string (bs z.n)) ∧ wx.cell? ⟨b, off + k * 5 + 1, none⟩ = some (.int .i64 z.t) ∧ wx.cell? ⟨b, off + k * 5 + 2, none⟩ = some (.int .i64 z.c) ∧ wx.cell? ⟨b, off + k * 5 + 3, none⟩ = some (.int .i64 z.l) ∧ wx.cell? ⟨b, off + k * 5 + 4, none⟩ = some (.string (bs z.d))) ∧ (wx.cell? ⟨N + 1, 0, none⟩ = some (.string (bs y.n)) ∧ wx.cell? ⟨N + 1, 1, none⟩ = some (.int .i64 y.t) ∧ wx.cell? ⟨N + 1, 2, none⟩ = some (.int .i64 y.c) ∧ wx.cell? ⟨N + 1, 3, none⟩ = some (.int .i64 y.l) ∧ wx.cell? ⟨N + 1, 4, none⟩ = some (.string (bs y.d))))) (by kernel_rfl) (HSS.out _ (Below.refl _ _).drew) (fun hHeld => ?_)
      refine wpAnyH_take (i := 0) (oi := { dst := some 20, op := Op.move (Operand.tmp 1), type := 74, pos := "sort.go:85", after := #[], guard := none }) (v := ?_) rfl (by kernel_rfl) (by kernel_rfl) (by kernel_rfl) (fun _ _ _ h => h) (Or.inl ⟨by rfl, ?_⟩) (by assumption) ?_
      rotate_left 1
      · intro w hSw; clear hSw; go_simp; try (with_reducible rfl)
      try simp only [Act.put, List.setIfInBounds_toArray, List.set_cons_zero, List.set_cons_succ]
      refine wpAnyH_take (i := 1) (oi := { dst := some 21, op := Op.move (Operand.tmp 0), type := 23, pos := "sort.go:85", after := #[], guard := none }) (v := ?_) rfl (by kernel_rfl) (by kernel_rfl) (by kernel_rfl) (fun _ _ _ h => h) (Or.inl ⟨by rfl, ?_⟩) (by assumption) ?_
      rotate_left 1
      · intro w hSw; clear hSw; go_simp; try (with_reducible rfl)
      try simp only [Act.put, List.setIfInBounds_toArray, List.set_cons_zero, List.set_cons_succ]
      refine wpAnyH_take (i := 2) (oi := { dst := some 22, op := Op.move (Operand.tmp 6), type := 3, pos := "sort.go:85", after := #[], guard := none }) (v := ?_) rfl (by kernel_rfl) (by kernel_rfl) (by kernel_rfl) (fun _ _ _ h => h) (Or.inl ⟨by rfl, ?_⟩) (by assumption) ?_
      rotate_left 1
      · intro w hSw; clear hSw; go_simp; try (with_reducible rfl)
      try simp only [Act.put, List.setIfInBounds_toArray, List.set_cons_zero, List.set_cons_succ]
      refine wpAnyH_take (i := 3) (oi := { dst := some 23, op := Op.indexAddr 23 (Operand.tmp 21) (Operand.tmp 22), type := 0, pos := "sort.go:85", after := #[{ on := 1, ground := Ground.data }, { on := 2, ground := Ground.data }], guard := none }) (v := ?_) rfl (by kernel_rfl) (by kernel_rfl) (by kernel_rfl) (fun _ _ _ h => h) (Or.inl ⟨by rfl, ?_⟩) (by assumption) ?_
      rotate_left 1
      · intro w hSw; clear hSw; go_simp; try (with_reducible rfl)
      try simp only [Act.put, List.setIfInBounds_toArray, List.set_cons_zero, List.set_cons_succ]
      refine wpAnyH_take (i := 4) (oi := { dst := some 24, op := Op.load 52 (Operand.tmp 23), type := 52, pos := "sort.go:85", after := #[{ on := 3, ground := Ground.data }], guard := none }) (v := ?_) rfl (by kernel_rfl) (by kernel_rfl) (by kernel_rfl) (fun _ _ _ h => h) (Or.inl ⟨by rfl, ?_⟩) (by assumption) ?_
      rotate_left 1
      · intro w hSw; have hSw1 := hSw.1; clear hSw; have hSw := hSw1; clear hSw1; (try dsimp only at hSw); go_simp; try (with_reducible rfl)
      try simp only [Act.put, List.setIfInBounds_toArray, List.set_cons_zero, List.set_cons_succ]
      refine wpAnyH_take (i := 5) (oi := { dst := some 25, op := Op.load 52 (Operand.tmp 5), type := 52, pos := "sort.go:85", after := #[], guard := none }) (v := ?_) rfl (by kernel_rfl) (by kernel_rfl) (by kernel_rfl) (fun _ _ _ h => h) (Or.inl ⟨by rfl, ?_⟩) (by assumption) ?_
      rotate_left 1
      · intro w hSw; have hSw1 := hSw.2; clear hSw; have hSw := hSw1; clear hSw1; (try dsimp only at hSw); go_simp; try (with_reducible rfl)
      try simp only [Act.put, List.setIfInBounds_toArray, List.set_cons_zero, List.set_cons_succ]
      refine wpAnyH_ready (rs := [6]) (by kernel_rfl) (by simp) ?_
      refine AllReadyH.cons (o := { dst := some 26, op := Op.call { callee := Callee.value (Operand.tmp 20), args := #[Operand.tmp 24, Operand.tmp 25], argTypes := #[52, 52] }, type := 3, pos := "sort.go:85", after := #[{ on := 0, ground := Ground.data }, { on := 4, ground := Ground.data }, { on := 5, ground := Ground.data }], guard := none }) rfl (fun K hK => ?_) (AllReadyH.nil)
      go_simp
      refine (HC.out _ z y).mono ?_; rintro e0 w2 ⟨rfl, hb⟩
      rw [hr]
      have HB2 := Lib.hid ((show Below wr.heap.size wr wr.drew from (Below.refl _ _).drew).trans hb)
      clear hb
      refine hK.out _ _ (HSS.out _ HB2.out) (fun hHeld => ?_)
      clear hK K
      try simp only [Act.put, List.setIfInBounds_toArray, List.set_cons_zero, List.set_cons_succ]
      refine wpAnyH_take (i := 7) (oi := { dst := some 27, op := Op.binOp BinOp.lss 3 (Operand.tmp 26) (Operand.const (Value.int IntKind.i64 0)) 3, type := 4, pos := "sort.go:85", after := #[{ on := 6, ground := Ground.data }], guard := none }) (v := ?_) rfl (by kernel_rfl) (by kernel_rfl) (by kernel_rfl) (fun _ _ _ h => h) (Or.inl ⟨by rfl, ?_⟩) (by assumption) ?_
      rotate_left 1
      · intro w hSw; clear hSw; go_simp; try (with_reducible rfl)
      try simp only [Act.put, List.setIfInBounds_toArray, List.set_cons_zero, List.set_cons_succ]
      refine wpAnyH_done (by kernel_rfl) ?_ _
      clear hHeld
      have HQ2 := Lib.hid (HQ.out.later HB2.out)
      obtain ⟨c0, c1, c3, c4, c5⟩ := (HSS.out _ HB2.out).1
      have hfz := HQ2.out.x.fz
      obtain ⟨y0, y1, y2, y3, y4⟩ := HQ2.out.x.five
      have HS2 := Lib.hid HQ2.out.size
      by_cases hlz : z.l < y.l
      · have tr : decide (r < 0) = true := by simpa using hrn.mpr hlz
        have HPN := Lib.hid (HQ2.out.put z)
        have HYN := Lib.hid (show minR x (l.take (k + 1)) = z by rw [HMT.out, if_pos hlz])
        unfold put5 at HPN
        clear HQ HQ2 HSS HCW HMT HB2 hrn hr
        go_wp2_with fail
        go_roundg (n - (k + 1))
        case measure => omega
        case rel => exact ⟨k + 1, z, by omega, by omega, by go_num, HYN, HPN⟩
      · have tr : decide (r < 0) = false := by simp; have := mt hrn.mp hlz; omega
        have HYN := Lib.hid (show minR x (l.take (k + 1)) = y by rw [HMT.out, if_neg hlz])
        clear HQ HSS HCW HMT HB2 hrn hr y0 y1 y2 y3 y4 hfz
        go_wp2_with fail
        go_roundg (n - (k + 1))
        case measure => omega
        case rel => exact ⟨k + 1, y, by omega, by omega, by go_num, HYN, HQ2⟩
    · have hke : k = n := by omega
      subst hke
      have hY : minR x l = y := by rw [← HY.out, List.take_of_length_le (Nat.le_of_eq HNN.out)]
      have HYE := Lib.hid hY
      have t1 : ¬ ((k : Int) < (k : Int)) := by omega
      obtain ⟨y0, y1, y2, y3, y4⟩ := HQ.out.x.five
      obtain ⟨z0, z1, z2, z3, z4⟩ := HQ.out.z.five
      have hfz := HQ.out.z.fz
      have hfin := cel_put5 HQ.out.z (.string (bs y.n)) (.int .i64 y.t) (.int .i64 y.c) (.int .i64 y.l) (.string (bs y.d))
      have hst := aside_put5 wr N (.string (bs y.n)) (.int .i64 y.t) (.int .i64 y.c) (.int .i64 y.l) (.string (bs y.d))
      have HBE := Lib.hid (below_aside HQ.out.bel hst (fun k hk => ⟨by have := HQ.out.size; omega, by omega⟩))
      have HFE := Lib.hid hfin.five
      clear hY hfin hst
      go_wp2_with fail
      obtain ⟨m0, m1, m2, m3, m4⟩ := HFE.out
      have hbF := HBE.out
      unfold put5 at hbF m0 m1 m2 m3 m4
      refine bodyPost_ret (v := .agg #[.string (bs y.n), .int .i64 y.t, .int .i64 y.c, .int .i64 y.l, .string (bs y.d)]) (by simp [results, Tryz.results40, go_sem, m0, m1, m2, m3, m4]) rfl ⟨by rw [HYE.out], ?_⟩
      rw [HNW.out]; exact hbF

/-- The least TTL of a message's records, if it has one. -/
def leastA (m : Ms) : Int × Bool := match noL m.an ++ noL m.ns ++ noL m.ar with
  | [] => (0, false)
  | x :: t => ((minR x (x :: t)).l, true)

set_option maxHeartbeats 4000000 in
theorem leastT_any {w : World} {hi : Nat} {u : Value} {m : Ms} (h : Mg w hi u m) (h1 : hi ≤ w.heap.size) (hm : Mild m) :
    Calls Tryz.prog 12 #[u] w (fun e w' => e = .returned (.tuple #[.int .i64 (leastA m).1, .bool (leastA m).2]) ∧ Below w.heap.size w w') := by
  have HST := Lib.hid (fun (wx : World) (hb : Below w.heap.size w wx) => strip_any (h.below hb h1) (Nat.le_trans h1 hb.size) hm)
  obtain ⟨q, a, n, r, rfl, hq, ha, hn, hr⟩ := h
  obtain ⟨qa, qc, rfl⟩ := Lst.shape hq
  obtain ⟨aa, ac, rfl⟩ := Lst.shape ha
  obtain ⟨na, nc, rfl⟩ := Lst.shape hn
  obtain ⟨ra, rc, rfl⟩ := Lst.shape hr
  obtain ⟨N, hN⟩ : ∃ N, w.heap.size = N := ⟨_, rfl⟩
  obtain ⟨W1, hW1⟩ : ∃ X, w.alloc (.cells #[.int .i64 m.id, .int .i64 m.fl, .slice qa m.q.length qc, .slice aa m.an.length ac, .slice na m.ns.length nc, .slice ra m.ar.length rc] 25) = X := ⟨_, rfl⟩
  have hb1 : Below w.heap.size w W1 := by rw [← hW1]; exact (Below.refl _ _).alloc (Nat.le_refl _) _
  have hs1 : W1.heap.size = N + 1 := by rw [← hW1, World.size_alloc, hN]
  have hx : Cel W1 N [.int .i64 m.id, .int .i64 m.fl, .slice qa m.q.length qc, .slice aa m.an.length ac, .slice na m.ns.length nc, .slice ra m.ar.length rc] := by
    have := cel_new6 w (.int .i64 m.id) (.int .i64 m.fl) (.slice qa m.q.length qc) (.slice aa m.an.length ac) (.slice na m.ns.length nc) (.slice ra m.ar.length rc) 25
    rwa [hN, hW1] at this
  obtain ⟨x0, x1, x2, x3, x4, x5⟩ := hx.six
  have HS1 := Lib.hid (HST.out _ hb1)
  have HX1 := Lib.hid (And.intro hx (And.intro hb1 (And.intro hs1 hN)))
  have HMM := Lib.hid (show ((noL m.an) ++ (noL m.ns) ++ (noL m.ar)).length ≤ 900000 by
    have h1 := noL_len m.an
    have h2 := noL_len m.ns
    have h3 := noL_len m.ar
    have := hm.1
    simp only [List.length_append]
    omega)
  clear hq ha hn hr hb1 HST hs1 hx hm h1
  go_enter Tryz.func12, Tryz.ntmps12
  go_wp2_with fail
  clear hW1 hN
  refine HS1.out.mono ?_; rintro e w2 ⟨v, rfl, ho, hb⟩
  obtain ⟨o1, o2, o3, o4, hve, j1, j2, j3, j4⟩ := ho
  obtain ⟨b1, e1, rfl⟩ := row_shape j1
  obtain ⟨b2, e2, rfl⟩ := row_shape j2
  obtain ⟨b3, e3, rfl⟩ := row_shape j3
  obtain ⟨b4, e4, rfl⟩ := row_shape j4
  subst hve
  have hx2 := HX1.out.1.below (by simp) hb
  obtain ⟨LA, hLA⟩ : ∃ l, noL m.an = l := ⟨_, rfl⟩
  obtain ⟨LN, hLN⟩ : ∃ l, noL m.ns = l := ⟨_, rfl⟩
  obtain ⟨LR, hLR⟩ : ∃ l, noL m.ar = l := ⟨_, rfl⟩
  have k2 : OwnRc w2 W1.heap.size (.slice b2 LA.length e2) LA := by rw [← hLA]; exact j2
  have k3 : OwnRc w2 W1.heap.size (.slice b3 LN.length e3) LN := by rw [← hLN]; exact j3
  have k4 : OwnRc w2 W1.heap.size (.slice b4 LR.length e4) LR := by rw [← hLR]; exact j4
  rw [hLA, hLN, hLR] at HMM
  have HLE := Lib.hid (show leastA m = (match LA ++ LN ++ LR with | [] => (0, false) | x :: t => ((minR x (x :: t)).l, true)) by unfold leastA; rw [hLA, hLN, hLR])
  rw [show (stM m).id = m.id from rfl, show (stM m).fl = m.fl from rfl, show (stM m).an = noL m.an from rfl, show (stM m).ns = noL m.ns from rfl, show (stM m).ar = noL m.ar from rfl, hLA, hLN, hLR]
  obtain ⟨lb, hlb⟩ : ∃ l, (stM m).q.length = l := ⟨_, rfl⟩
  rw [hlb]
  obtain ⟨la, hla⟩ : ∃ l, LA.length = l := ⟨_, rfl⟩
  obtain ⟨ln, hln⟩ : ∃ l, LN.length = l := ⟨_, rfl⟩
  obtain ⟨lr, hlr⟩ : ∃ l, LR.length = l := ⟨_, rfl⟩
  rw [hla] at k2 ⊢
  rw [hln] at k3 ⊢
  rw [hlr] at k4 ⊢
  have hst := aside_put6 w2 N (.int .i64 m.id) (.int .i64 m.fl) (.slice b1 lb e1) (.slice b2 la e2) (.slice b3 ln e3) (.slice b4 lr e4)
  have hk6 := cel_put6 hx2 (.int .i64 m.id) (.int .i64 m.fl) (.slice b1 lb e1) (.slice b2 la e2) (.slice b3 ln e3) (.slice b4 lr e4)
  have hNB : ∀ k, (W1.heap.size ≤ k ∧ k < w2.heap.size) → k ≠ N := fun k hk => by have := HX1.out.2.2.1; omega
  have k2 := row_aside k2 hst (fun k hk => hNB k (World.ownsRow.lt k2 k hk))
  have k3 := row_aside k3 hst (fun k hk => hNB k (World.ownsRow.lt k3 k hk))
  have k4 := row_aside k4 hst (fun k hk => hNB k (World.ownsRow.lt k4 k hk))
  have hb3 : Below N w (put6 w2 N (.int .i64 m.id) (.int .i64 m.fl) (.slice b1 lb e1) (.slice b2 la e2) (.slice b3 ln e3) (.slice b4 lr e4)) := by
    have h2 := HX1.out.2.1.trans (hb.mono HX1.out.2.1.size)
    rw [HX1.out.2.2.2] at h2
    exact below_aside h2 hst (fun k hk => ⟨by have := h2.size; have := HX1.out.2.2.2; omega, by omega⟩)
  obtain ⟨W3, hW3⟩ : ∃ X, put6 w2 N (.int .i64 m.id) (.int .i64 m.fl) (.slice b1 lb e1) (.slice b2 la e2) (.slice b3 ln e3) (.slice b4 lr e4) = X := ⟨_, rfl⟩
  rw [hW3] at k2 k3 k4 hb3 hk6
  obtain ⟨W4, hW4⟩ : ∃ X, W3.alloc (.cells #[.slice b2 la e2, .slice b3 ln e3, .slice b4 lr e4] 23) = X := ⟨_, rfl⟩
  have hb4 : Below W3.heap.size W3 W4 := by rw [← hW4]; exact (Below.refl _ _).alloc (Nat.le_refl _) _
  have hs4 : W4.heap.size = W3.heap.size + 1 := by rw [← hW4, World.size_alloc]
  have c3 : Cel W4 W3.heap.size [.slice b2 la e2, .slice b3 ln e3, .slice b4 lr e4] := by rw [← hW4]; exact cel_new3 W3 _ _ _ _
  obtain ⟨G, hG⟩ : ∃ G, W3.heap.size = G := ⟨_, rfl⟩
  have hlen : LA.length + LN.length + LR.length ≤ 900000 := by have := HMM.out; simp only [List.length_append] at this; omega
  have HCC := Lib.hid (concatR_any (w := W4) (g := G) (hi := W3.heap.size) (n := 3) (c0 := 3) (ls := [LA, LN, LR]) rfl (by omega) (by omega) (by omega) (by simp; omega) (fun j hj => by
    match j, hj with
    | 0, _ => exact ⟨b2, e2, by rw [← hG]; have := c3.c 0 (by simp); simpa [hla] using this, Lst.below (Lst.own (show OwnRc W3 W1.heap.size (.slice b2 LA.length e2) LA by rw [hla]; exact k2) (by show LA.length ≤ _; omega)) hb4 (Nat.le_refl _)⟩
    | 1, _ => exact ⟨b3, e3, by rw [← hG]; have := c3.c 1 (by simp); simpa [hln] using this, Lst.below (Lst.own (show OwnRc W3 W1.heap.size (.slice b3 LN.length e3) LN by rw [hln]; exact k3) (by show LN.length ≤ _; omega)) hb4 (Nat.le_refl _)⟩
    | 2, _ => exact ⟨b4, e4, by rw [← hG]; have := c3.c 2 (by simp); simpa [hlr] using this, Lst.below (Lst.own (show OwnRc W3 W1.heap.size (.slice b4 LR.length e4) LR by rw [hlr]; exact k4) (by show LR.length ≤ _; omega)) hb4 (Nat.le_refl _)⟩))
  have HB4 := Lib.hid (And.intro (hb3.trans (hb4.mono (by have := hb3.size; have := HX1.out.2.2.2; omega))) HX1.out.2.2.2)
  have hfl : ([LA, LN, LR] : List (List Rc)).flatten = LA ++ LN ++ LR := by simp
  rw [hfl] at HCC
  obtain ⟨y0, y1, y2, y3, y4, y5⟩ := hx2.six
  have hfz := hx2.fz
  obtain ⟨z0, z1, z2, z3, z4, z5⟩ := hk6.six
  clear hst hk6 hNB hb3 hb4 hs4 c3 hlen hfl x0 x1 x2 x3 x4 x5 hx2 j1 j2 j3 j4 k2 k3 k4 hLA hLN hLR hla hln hlr hb HS1 hlb
  unfold put6 at hW3
  obtain ⟨L, hL⟩ : ∃ L, LA ++ LN ++ LR = L := ⟨_, rfl⟩
  rw [hL] at HCC HLE HMM
  clear hL
  go_wp2_with fail
  refine HCC.out.mono ?_; rintro e w5 ⟨v5, rfl, ho5, hb5⟩
  obtain ⟨a5, c5, rfl⟩ := row_shape ho5
  have HB5 := Lib.hid (show Below w.heap.size w w5 by rw [HB4.out.2]; exact HB4.out.1.trans (hb5.mono (by have := HB4.out.1.size; have := HB4.out.2; omega)))
  clear y0 y1 y2 y3 y4 y5 z0 z1 z2 z3 z4 z5 hfz hW3 hW4 hb5 hG HCC HX1
  rcases L with _ | ⟨x, t⟩
  · simp only [List.length_nil]
    clear ho5
    go_wp2_with fail
    refine bodyPost_ret (v := .tuple #[.int .i64 0, .bool false]) (by simp [results, Tryz.results12, go_sem]) rfl ⟨by rw [HLE.out], HB5.out⟩
  · have HMF := Lib.hid (minF_any (x := x) (Lst.own ho5 (by have := HMM.out; omega)) (Nat.le_refl _) rfl HMM.out)
    unfold lessL at HMF
    have h0 : 0 < (x :: t).length := by simp
    obtain ⟨n, hn⟩ : ∃ n, (x :: t).length = n := ⟨_, rfl⟩
    rw [hn] at HMF h0 ⊢
    obtain ⟨y, hy⟩ : ∃ y, minR x (x :: t) = y := ⟨_, rfl⟩
    have HLE2 := Lib.hid (show leastA m = (y.l, true) by rw [HLE.out, ← hy])
    rw [hy] at HMF
    have t0 : ((n : Int) == 0) = false := by simp; omega
    clear ho5 hn hy HLE HMM
    go_wp2_with fail
    refine HMF.out.mono ?_; rintro e w6 ⟨rfl, hb6⟩
    have HB6 := Lib.hid ((HB5.out.trans (hb6.mono HB5.out.size)))
    clear hb6
    go_wp2_with fail
    refine bodyPost_ret (v := .tuple #[.int .i64 y.l, .bool true]) (by simp [results, Tryz.results12, go_sem]) rfl ⟨by rw [HLE2.out], HB6.out.alloc HB6.out.size _⟩
end Go.Proofs.YteegekpanadmkaaGreat

/-
  The chapter's examples: TrimKnown.
-/
namespace Go.Proofs.YteegekpanadmkaaGreat
open Go.RowKit Go.Shelf
set_option linter.unusedVariables false
set_option linter.unusedSimpArgs false
set_option maxRecDepth 100000

def samB2 : List UInt8 := [0, 7, 130, 0, 0, 1, 0, 0, 0, 0, 0, 0, 1, 97, 0, 0, 1, 0, 1]
def samB3 : List UInt8 := [0, 7, 130, 0, 0, 0, 0, 0, 0, 0, 0, 0]
theorem fA29 : fitA samM 29 = (some samB2, 2, 0) := by kernel_rfl
theorem fA18 : fitA samM 18 = (some samB3, 3, 0) := by kernel_rfl
theorem fA11 : fitA samM 11 = (none, 0, 5) := by kernel_rfl
theorem lA1 : leastA samM = (5, true) := by kernel_rfl
def ms00' : Ms := ⟨0, 0, [], [], [], []⟩
theorem lA0 : leastA ms00' = (0, false) := by kernel_rfl
theorem rB1 : rdM samB1 = .ok (mcut samM 1) := wrM_back (e := 0) (by kernel_rfl)
theorem samMild : Mild samM := by
  refine ⟨by decide, ?_, ?_, ?_, ?_⟩ <;> intro x hx <;> simp [samM, samQ, samR, samO] at hx <;> subst hx <;> decide
theorem mg_bareT (w : World) : Mg w w.heap.size (.agg #[.int .i64 0, .int .i64 0, .slice none 0 0, .slice none 0 0, .slice none 0 0, .slice none 0 0]) ms00' := ⟨_, _, _, _, rfl, Lst.nil _ _, Lst.nil _ _, Lst.nil _ _, Lst.nil _ _⟩

set_option maxHeartbeats 8000000 in
theorem known10_any (w : World) : Calls Tryz.prog 7 #[] w (Tells w (.bool true)) := by
  have HS := Lib.hid (fun wx => sample_any wx)
  have HF := Lib.hid (fun (wx : World) (v : Value) (hm : Mg wx wx.heap.size v samM) => fit_any hm (Nat.le_refl _) samFine (by decide) 11)
  have HG := Lib.hid (fun (wx : World) (v : Value) (hm : Mg wx wx.heap.size v samM) => fit_any hm (Nat.le_refl _) samFine (by decide) 45)
  have HL := Lib.hid (fun (wx : World) (v : Value) (hm : Mg wx wx.heap.size v samM) => leastT_any hm (Nat.le_refl _) samMild)
  have HL0 := Lib.hid (fun (wx : World) => leastT_any (mg_bareT wx) (Nat.le_refl _) ⟨by decide, by simp [ms00'], by simp [ms00'], by simp [ms00'], by simp [ms00']⟩)
  rw [fA11] at HF
  rw [fA45] at HG
  rw [lA1] at HL
  rw [lA0] at HL0
  have HA := Lib.hid (fun wx => awake10_any wx)
  have H1 := Lib.hid (fun wx => fits_any wx 29 fA29)
  have H2 := Lib.hid (fun wx => fits_any wx 18 fA18)
  go_enter Tryz.func7, Tryz.ntmps7
  go_wp2_with fail
  refine (HS.out w).mono ?_; rintro e w1 ⟨v, rfl, hm, hb⟩
  have HFF := Lib.hid (HF.out w1 v hm)
  have HB1 := Lib.hid hb
  clear hm hb HF
  go_wp2_with fail
  refine HFF.out.mono ?_; rintro e w2 ⟨v2, rfl, ho, hb⟩
  have HB2 := Lib.hid (bel_call HB1.out hb)
  clear ho hb HFF HB1
  go_wp2_with fail
  refine (HS.out w2).mono ?_; rintro e w3 ⟨v3, rfl, hm, hb⟩
  have HLL := Lib.hid (HL.out w3 v3 hm)
  have HB3 := Lib.hid (bel_call HB2.out hb)
  clear hm hb HL HB2
  go_wp2_with fail
  refine HLL.out.mono ?_; rintro e w4 ⟨rfl, hb⟩
  have HB4 := Lib.hid (bel_call HB3.out hb)
  clear hb HLL HB3
  go_wp2_with fail
  refine (HL0.out w4).mono ?_; rintro e w5 ⟨rfl, hb⟩
  have HB5 := Lib.hid (bel_call HB4.out hb)
  clear hb HL0 HB4
  go_wp2_with fail
  refine (HS.out w5).mono ?_; rintro e w6 ⟨v6, rfl, hm, hb⟩
  have HFF := Lib.hid (HG.out w6 v6 hm)
  have HB6 := Lib.hid (bel_call HB5.out hb)
  clear hm hb HG HB5 HS
  go_wp2_with fail
  refine HFF.out.mono ?_; rintro e w7 ⟨v7, rfl, ho, hb⟩
  have HB7 := Lib.hid (bel_call HB6.out hb)
  have HRD := Lib.hid (readM_any (OwnB.sl ho) (Nat.le_refl _) (by decide))
  simp only [Option.getD_some] at HRD
  rw [rB1] at HRD
  clear ho hb HFF HB6
  go_wp2_with fail
  refine HRD.out.mono ?_; rintro e w8 ⟨v8, rfl, hm, hb⟩
  have HB8 := Lib.hid (bel_call HB7.out hb)
  obtain ⟨q, a, n, r, rfl, hq, ha, hn, hr⟩ := hm
  obtain ⟨ya, yc, hy⟩ := Lst.shape hq
  obtain ⟨ba, bc, hbb⟩ := Lst.shape ha
  obtain ⟨oa, oc, hoo⟩ := Lst.shape hn
  obtain ⟨ta, tc, htt⟩ := Lst.shape hr
  have hy2 : q = .slice ya 1 yc := hy
  have hb2 : a = .slice ba 0 bc := hbb
  have ho2 : n = .slice oa 0 oc := hoo
  have ht2 : r = .slice ta 1 tc := htt
  subst hy2 hb2 ho2 ht2
  have e1 : (mcut samM 1).id = 7 := by kernel_rfl
  have e2 : (mcut samM 1).fl = 33280 := by kernel_rfl
  rw [e1, e2]
  clear hq ha hn hr hb HRD HB7 hy hbb hoo htt e1 e2
  obtain ⟨G, hG⟩ : ∃ G, w8.heap.size = G := ⟨_, rfl⟩
  obtain ⟨W8, hW8⟩ : ∃ X, (w8.alloc (.cells #[.int .i64 7, .int .i64 33280, .slice ya 1 yc, .slice ba 0 bc, .slice oa 0 oc, .slice ta 1 tc] 25)).alloc (.cells #[.int .i64 0, .int .i64 0] 42) = X := ⟨_, rfl⟩
  have hb8 : Below w8.heap.size w8 W8 := by rw [← hW8]; exact ((Below.refl _ _).alloc (Nat.le_refl _) _).alloc (by simp) _
  have hy8 : Cel W8 G [.int .i64 7, .int .i64 33280, .slice ya 1 yc, .slice ba 0 bc, .slice oa 0 oc, .slice ta 1 tc] := by
    rw [← hW8, ← hG]
    exact (cel_new6 w8 _ _ _ _ _ _ 25).below (by simp) ((Below.refl _ _).alloc (Nat.le_refl _) _)
  have hz8 : Cel W8 (G + 1) [.int .i64 0, .int .i64 0] := by
    have := cel_new2 (w8.alloc (.cells #[.int .i64 7, .int .i64 33280, .slice ya 1 yc, .slice ba 0 bc, .slice oa 0 oc, .slice ta 1 tc] 25)) (.int .i64 0) (.int .i64 0) 42
    rwa [World.size_alloc, hG, hW8] at this
  have HB9 := Lib.hid (bel_call HB8.out hb8)
  have HY := Lib.hid (And.intro hy8 hz8)
  clear hb8 hy8 hz8 HB8
  subst hW8
  go_wp2_with fail
  obtain ⟨W8, hW8⟩ : ∃ X, (w8.alloc (.cells #[.int .i64 7, .int .i64 33280, .slice ya 1 yc, .slice ba 0 bc, .slice oa 0 oc, .slice ta 1 tc] 25)).alloc (.cells #[.int .i64 0, .int .i64 0] 42) = X := ⟨_, rfl⟩
  rw [hW8] at HB9 HY ⊢
  clear hW8
  refine (HA.out _).mono ?_; rintro e w9 ⟨rfl, hb⟩
  have HB10 := Lib.hid (bel_call HB9.out hb)
  have HY9 := Lib.hid (And.intro (HY.out.1.below (by simp) hb) (HY.out.2.below (by simp) hb))
  clear hb HB9 HY HA
  go_wp2_with fail
  refine (H1.out _).mono ?_; rintro e w10 ⟨rfl, hb⟩
  have HB11 := Lib.hid (bel_call HB10.out hb)
  have HY10 := Lib.hid (And.intro (HY9.out.1.below (by simp) hb) (HY9.out.2.below (by simp) hb))
  clear hb HB10 HY9 H1
  go_wp2_with fail
  refine (H2.out _).mono ?_; rintro e w11 ⟨rfl, hb⟩
  have HB12 := Lib.hid (bel_call HB11.out hb)
  obtain ⟨y0, y1, y2, y3, y4, y5⟩ := (HY10.out.1.below (by simp) hb).six
  have z0 := (HY10.out.2.below (by simp) hb).c 0 (by simp)
  simp only [List.getElem_cons_zero] at z0
  clear hb HB11 HY10 H2
  go_wp2_with fail
  go_ret
  exact ⟨rfl, HB12.out⟩
end Go.Proofs.YteegekpanadmkaaGreat
