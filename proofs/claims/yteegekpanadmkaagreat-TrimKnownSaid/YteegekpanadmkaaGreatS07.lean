/-
  slices.Concat of rows of bytes.
-/
import Derived.Test.YteegekpanadmkaaGreatS06
import Derived.Lib.AppendZeros
import Derived.Test.YteegekpanadmkaaGreatS05
import Derived.Test.YteegekpanadmkaaGreatS01
import Derived.Deep.RegionHeld3
import Derived.Test.YteegekpanadmkaaGreatS02
import Derived.Deep.Slices
import Derived.Deep.LoopGhost
import Derived.ChangeArms
import Derived.Outline
import Derived.Maps.AppendAt
namespace Go.Proofs.YteegekpanadmkaaGreat
open Go.RowKit Go.Shelf
set_option linter.unusedVariables false
set_option linter.unusedSimpArgs false
set_option maxRecDepth 100000

/-- Grow of nothing: a row of the call's own, empty. -/
theorem grow_any (w : World) (n : Nat) (hn : n ≤ 1000000) :
    Calls Tryz.prog 142 #[.slice none 0 0, .int .i64 n] w fun e w' => ∃ a c, e = .returned (.slice a 0 c) ∧ OwnB w' w.heap.size (.slice a 0 c) [] ∧ Below w.heap.size w w' := by
  by_cases h0 : n = 0
  · subst h0
    go_enter Tryz.func142, Tryz.ntmps142
    go_wp2_with fail
    go_ret
    exact ⟨none, 0, rfl, OwnB.nil _ _, Below.refl _ _⟩
  · have t1 : ¬ ((n : Int) < 0) := by omega
    have t2 : (0 : Int) < n := by omega
    have e1 : wrap64 ((n : Int) - 0) = n := by rw [IntWalk.wrap64_in _ ⟨by omega, by omega⟩]; omega
    obtain ⟨i, hi, hz0, hz1, hz2⟩ := info_parts Tryz.info5
    have hr := Lib.run_append_nil_zeros (P := Tryz.prog) w 28 3 28 5 i _ .i64 .i64 Tryz.underlying28 Tryz.underlying3 hi hz0 n (by omega) (by omega) (by omega) (by rw [hz2]; omega)
    have hge := grownCap_ge w n 0 5
    obtain ⟨cap, hcap⟩ : ∃ cap, grownCap w n 0 5 = cap := ⟨_, rfl⟩
    have hml := grownCap_le_maxLen w n 0 5 (by unfold maxLen; omega)
    rw [hcap] at hr hge hml
    have hrow : (Builtin.zeroCells (Value.int .u8 0).cells n ++ Builtin.zeroCells (Value.int .u8 0).cells (cap - n)) = (rowB [] cap).toArray := by
      rw [zeroCells_one _ rfl, zeroCells_one _ rfl]
      unfold rowB
      simp [ub]
      congr 1; omega
    rw [hrow] at hr
    have HR := Lib.hid hr
    have HO : Hid (OwnB (w.drew.alloc (.cells (rowB [] cap).toArray 5)) w.heap.size (.slice (some ⟨w.heap.size, 0, none⟩) 0 cap) []) :=
      .inr ⟨w.heap.size, cap, (0, 0), rfl, Nat.le_refl _, Nat.zero_le _, hml, .inl rfl, heap_alloc_new w.drew _⟩
    clear hr hrow hcap hi hz0 hz1 hz2
    go_enter Tryz.func142, Tryz.ntmps142
    go_wp2_with (at_builtin; refine wpList_append_run (.tmp 20) (.tmp 21) 28 3 rfl rfl rfl rfl HR.out ?_)
    go_ret
    exact ⟨_, _, rfl, HO.out, (Below.refl _ w).drew.alloc (Nat.le_refl _) _⟩

theorem flat_take {ls : List (List UInt8)} {k : Nat} (h : k < ls.length) : (ls.take (k + 1)).flatten = (ls.take k).flatten ++ ls[k] := by
  rw [List.take_succ_eq_append_getElem h, List.flatten_append]
  simp
theorem flat_le (ls : List (List UInt8)) (k : Nat) : (ls.take k).flatten.length ≤ ls.flatten.length := by
  conv => rhs; rw [← List.take_append_drop k ls, List.flatten_append, List.length_append]
  omega

set_option maxHeartbeats 4000000 in
/-- Concat: the rows' bytes, one behind the other, in a row of the call's own. -/
theorem concat_any {w : World} {g lo hi n c0 : Nat} {ls : List (List UInt8)} (hn : ls.length = n) (hn6 : n ≤ 1000) (hg : g < w.heap.size) (hhi : hi ≤ w.heap.size) (hb : ls.flatten.length ≤ 900000)
    (hc : ∀ j (h : j < ls.length), ∃ a c, w.cell? ⟨g, j, none⟩ = some (.slice a ls[j].length c) ∧ Sl w lo hi (.slice a ls[j].length c) (iz ls[j])) :
    Calls Tryz.prog 131 #[.slice (some ⟨g, 0, none⟩) n c0] w fun e w' => ∃ v, e = .returned v ∧ OwnB w' w.heap.size v ls.flatten ∧ Below w.heap.size w w' := by
  have HC := Lib.hid hc
  have HN := Lib.hid hn
  obtain ⟨N, hN⟩ : ∃ N, ls.flatten.length = N := ⟨_, rfl⟩
  have HNN := Lib.hid hN
  rw [hN] at hb
  have HG := Lib.hid (fun wx => grow_any wx N (by omega))
  clear hc hN hn
  go_enter Tryz.func131, Tryz.ntmps131
  go_wp2_with fail
  go_loopg [3, 11] n (fun k v3 v11 wr => ∃ j z : Nat, j + k = n ∧ v11 = .int .i64 j ∧ v3 = .int .i64 z ∧ z ≤ N ∧ Hid ((ls.take j).flatten.length = z) ∧ w = wr)
  case atStart => exact ⟨0, 0, by omega, rfl, rfl, by omega, rfl, rfl⟩
  case round =>
    obtain ⟨j, z, hj, rfl, rfl, hz, HZ, rfl⟩ := hrel
    by_cases hlt : j < n
    · have hlt2 : j < ls.length := by have := HN.out; omega
      obtain ⟨a, c, c1, _⟩ := HC.out j hlt2
      have HZ2 := Lib.hid (show (ls.take (j + 1)).flatten.length = z + ls[j].length by rw [flat_take hlt2, List.length_append, HZ.out])
      have hle : z + ls[j].length ≤ N := by rw [← HZ2.out, ← HNN.out]; exact flat_le ls (j + 1)
      obtain ⟨m, hm⟩ : ∃ m, ls[j].length = m := ⟨_, rfl⟩
      rw [hm] at c1 hle HZ2
      clear hm
      go_wp2_with fail
      go_roundg (n - (j + 1))
      case measure => omega
      case rel => exact ⟨j + 1, z + m, by omega, by go_num, by go_num, hle, HZ2, rfl⟩
    · have hje : j = n := by omega
      subst hje
      have hzN : z = N := by rw [← HZ.out, ← HNN.out, List.take_of_length_le (by have := HN.out; omega)]
      subst hzN
      clear HZ
      go_wp2_with fail
      refine (HG.out _).mono ?_; rintro e w1 ⟨a6, c6, rfl, ho, hb1⟩
      have HO := Lib.hid ho
      have HB := Lib.hid hb1
      clear ho hb1
      go_wp2_with fail
      go_loopg [6, 27] j (fun k v6 v27 wr => ∃ (i : Nat) (acc : List UInt8) (a : Option Addr) (c : Nat), i + k = j ∧ v27 = .int .i64 i ∧ v6 = .slice a acc.length c ∧ Hid ((ls.take i).flatten = acc) ∧ Hid (OwnB wr w.heap.size (.slice a acc.length c) acc) ∧ Hid (Below w.heap.size w wr))
      case atStart => exact ⟨0, [], a6, c6, by omega, rfl, rfl, rfl, HO, HB⟩
      case round =>
        clear HO HB
        obtain ⟨i, acc, a, c, hi2, rfl, rfl, HA, HO, HB⟩ := hrel
        by_cases hlt : i < j
        · have hlt2 : i < ls.length := by have := HN.out; omega
          obtain ⟨ax, cx, c1, hs⟩ := HC.out i hlt2
          have hs2 := hs.below HB.out hhi
          have c2 := HB.out.cell (p := ⟨g, i, none⟩) hg
          rw [c1] at c2
          have HA2 := Lib.hid (show (ls.take (i + 1)).flatten = acc ++ ls[i] by rw [flat_take hlt2, HA.out])
          have hle : acc.length + ls[i].length ≤ 900000 := by
            have h1 := flat_le ls (i + 1)
            rw [HA2.out, List.length_append, HNN.out] at h1
            omega
          obtain ⟨a', c', w', hr, ho, ha⟩ := run_appBs w.heap.size _ _ acc ls[i] HO.out hs2 (by omega) HB.out.size
          have hlt3 := HO.out.lt
          have HB2 := Lib.hid (below_aside HB.out ha fun b hb => ⟨Nat.lt_of_lt_of_le hb HB.out.size, fun hg2 => by have := (hlt3 b hg2).1; omega⟩)
          have hL : (acc ++ ls[i]).length = acc.length + ls[i].length := List.length_append
          obtain ⟨x, hx⟩ : ∃ x, ls[i] = x := ⟨_, rfl⟩
          rw [hx] at hr ho c2 hs2 HA2 hL
          obtain ⟨m, hm⟩ : ∃ m, x.length = m := ⟨_, rfl⟩
          obtain ⟨y, hy⟩ : ∃ y, acc.length = y := ⟨_, rfl⟩
          rw [hm] at c2
          rw [hm, hy] at hr ho
          have HLN := Lib.hid hL
          have HR := Lib.hid hr
          have HOn := Lib.hid ho
          have HM := Lib.hid hm
          have HY := Lib.hid hy
          rw [hy]
          clear hr ho ha hs hs2 hx hL hm hy hle c1
          go_wp2_with (at_builtin; refine wpList_append_run (.tmp 31) (.tmp 32) 28 28 rfl rfl rfl rfl HR.out ?_)
          go_roundg (j - (i + 1))
          case measure => omega
          case rel => exact ⟨i + 1, acc ++ x, a', c', by omega, by go_num, by rw [HLN.out, HM.out, HY.out], HA2, by rw [HLN.out, HM.out, HY.out]; exact HOn, HB2⟩
        · have hie : i = j := by omega
          subst hie
          have hE : acc = ls.flatten := by rw [← HA.out, List.take_of_length_le (by have := HN.out; omega)]
          have HE := Lib.hid hE
          clear hE
          go_wp2_with fail
          go_ret
          exact ⟨_, rfl, HE.out ▸ HO.out, HB.out⟩
end Go.Proofs.YteegekpanadmkaaGreat

/-
  Records: whether one may be, its lower form, which are the same.
-/
namespace Go.Proofs.YteegekpanadmkaaGreat
open Go.RowKit Go.Shelf
set_option linter.unusedVariables false
set_option linter.unusedSimpArgs false
set_option maxRecDepth 100000

/-- A record: its name, its type, its class, its TTL, its data. -/
structure Rc where
  n : List UInt8
  t : Int
  c : Int
  l : Int
  d : List UInt8

/-- What says whether a question may be. -/
def askE (n : List UInt8) (t c : Int) : Int := if chk n ≠ 0 then chk n else if t < 0 ∨ 65535 < t ∨ c < 0 ∨ 65535 < c then 5 else 0

/-- What says whether a record may be. -/
def chkC (x : Rc) : Int := if askE x.n x.t x.c ≠ 0 then askE x.n x.t x.c else if x.l < 0 ∨ 2147483647 < x.l then 5 else (spl x.t x.d).code

theorem bound_yes (n : Int) (h : 0 ≤ n ∧ n ≤ 65535) (w : World) : Calls Tryz.prog 137 #[.int .i64 n] w fun e w' => e = .returned (.bool true) ∧ w = w' := by
  obtain ⟨h1, h2⟩ := h
  go_enter Tryz.func137, Tryz.ntmps137
  go_wp2
  go_ret
  exact ⟨rfl, rfl⟩

theorem bound_no (n : Int) (h : n < 0 ∨ 65535 < n) (w : World) : Calls Tryz.prog 137 #[.int .i64 n] w fun e w' => e = .returned (.bool false) ∧ w = w' := by
  by_cases h0 : n < 0
  · have t1 : decide (0 ≤ n) = false := by simpa using h0
    go_enter Tryz.func137, Tryz.ntmps137
    go_wp2
    go_ret
    exact ⟨rfl, rfl⟩
  · have t1 : decide (0 ≤ n) = true := by simpa using h0
    have t2 : decide (n ≤ 65535) = false := by simp; omega
    go_enter Tryz.func137, Tryz.ntmps137
    go_wp2
    go_ret
    exact ⟨rfl, rfl⟩

theorem ask_any (n : List UInt8) (hn : n.length ≤ 1000000) (t c : Int) (w : World) : Calls Tryz.prog 129 #[.string (bs n), .int .i64 t, .int .i64 c] w (Tells w (.int .i64 (askE n t c))) := by
  have HC := Lib.hid (check_any n (by omega) w)
  by_cases h0 : chk n = 0
  · by_cases ht : 0 ≤ t ∧ t ≤ 65535
    · by_cases hc : 0 ≤ c ∧ c ≤ 65535
      · have e : askE n t c = 0 := by unfold askE; rw [if_neg (by simpa using h0), if_neg (by omega)]
        have B1 := Lib.hid (bound_yes t ht)
        have B2 := Lib.hid (bound_yes c hc)
        rw [e]
        rw [h0] at HC
        clear e h0 ht hc
        go_enter Tryz.func129, Tryz.ntmps129
        go_wp2_with fail
        refine HC.out.mono ?_; rintro e w1 ⟨rfl, hb⟩
        have HB := Lib.hid hb
        clear hb
        go_wp2_with fail
        refine (B1.out _).mono ?_; rintro e w2 ⟨rfl, rfl⟩
        go_wp2_with fail
        refine (B2.out _).mono ?_; rintro e w2 ⟨rfl, rfl⟩
        go_wp2_with fail
        go_ret
        exact ⟨rfl, HB.out⟩
      · have e : askE n t c = 5 := by unfold askE; rw [if_neg (by simpa using h0), if_pos (by omega)]
        have B1 := Lib.hid (bound_yes t ht)
        have B2 := Lib.hid (bound_no c (by omega))
        rw [e]
        rw [h0] at HC
        clear e h0 ht hc
        go_enter Tryz.func129, Tryz.ntmps129
        go_wp2_with fail
        refine HC.out.mono ?_; rintro e w1 ⟨rfl, hb⟩
        have HB := Lib.hid hb
        clear hb
        go_wp2_with fail
        refine (B1.out _).mono ?_; rintro e w2 ⟨rfl, rfl⟩
        go_wp2_with fail
        refine (B2.out _).mono ?_; rintro e w2 ⟨rfl, rfl⟩
        go_wp2_with fail
        go_ret
        exact ⟨rfl, HB.out⟩
    · have e : askE n t c = 5 := by unfold askE; rw [if_neg (by simpa using h0), if_pos (by omega)]
      have B1 := Lib.hid (bound_no t (by omega))
      rw [e]
      rw [h0] at HC
      clear e h0 ht
      go_enter Tryz.func129, Tryz.ntmps129
      go_wp2_with fail
      refine HC.out.mono ?_; rintro e w1 ⟨rfl, hb⟩
      have HB := Lib.hid hb
      clear hb
      go_wp2_with fail
      refine (B1.out _).mono ?_; rintro e w2 ⟨rfl, rfl⟩
      go_wp2_with fail
      go_ret
      exact ⟨rfl, HB.out⟩
  · have e : askE n t c = chk n := by unfold askE; rw [if_pos (by simpa using h0)]
    rw [e]
    obtain ⟨c0, hc0⟩ : ∃ c0, chk n = c0 := ⟨_, rfl⟩
    rw [hc0] at HC h0 ⊢
    have tc : (c0 != 0) = true := by simpa using h0
    clear e h0 hc0
    go_enter Tryz.func129, Tryz.ntmps129
    go_wp2_with fail
    refine HC.out.mono ?_; rintro e w1 ⟨rfl, hb⟩
    have HB := Lib.hid hb
    clear hb
    go_wp2_with fail
    go_ret
    exact ⟨rfl, HB.out⟩

set_option maxHeartbeats 1000000 in
theorem checkC_any (n : List UInt8) (t c l : Int) (d : List UInt8) (hn : n.length ≤ 1000000) (hd : d.length ≤ 1000000) (w : World) :
    Calls Tryz.prog 155 #[.agg #[.string (bs n), .int .i64 t, .int .i64 c, .int .i64 l, .string (bs d)]] w (Tells w (.int .i64 (chkC ⟨n, t, c, l, d⟩))) := by
  have HA := Lib.hid (fun wx => ask_any n hn t c wx)
  have HR := Lib.hid (fun wx => rcheckD_any t d hd wx)
  have HB := Lib.hid ((Below.refl w.heap.size w).alloc (Nat.le_refl _) (.cells #[.string (bs n), .int .i64 t, .int .i64 c, .int .i64 l, .string (bs d)] 52))
  have c0 : (w.alloc (.cells #[.string (bs n), .int .i64 t, .int .i64 c, .int .i64 l, .string (bs d)] 52)).cell? ⟨w.heap.size, 1, none⟩ = some (.int .i64 t) := by simp [go_sem]
  have c3 : (w.alloc (.cells #[.string (bs n), .int .i64 t, .int .i64 c, .int .i64 l, .string (bs d)] 52)).cell? ⟨w.heap.size, 3, none⟩ = some (.int .i64 l) := by simp [go_sem]
  have c4 : (w.alloc (.cells #[.string (bs n), .int .i64 t, .int .i64 c, .int .i64 l, .string (bs d)] 52)).cell? ⟨w.heap.size, 4, none⟩ = some (.string (bs d)) := by simp [go_sem]
  have HQ := Lib.hid (And.intro c0 (And.intro c3 c4))
  clear c0 c3 c4
  have hlt : w.heap.size < (w.alloc (.cells #[.string (bs n), .int .i64 t, .int .i64 c, .int .i64 l, .string (bs d)] 52)).heap.size := by simp
  have HL := Lib.hid hlt
  clear hlt
  obtain ⟨E, hE⟩ : ∃ E, askE n t c = E := ⟨_, rfl⟩
  have e0 : chkC ⟨n, t, c, l, d⟩ = if E ≠ 0 then E else if l < 0 ∨ 2147483647 < l then 5 else (spl t d).code := by unfold chkC; simp only [hE]
  rw [e0]
  rw [hE] at HA
  clear e0 hE
  by_cases h0 : E = 0
  · subst h0
    rw [if_neg (by simp)]
    by_cases hl : l < 0 ∨ 2147483647 < l
    · rw [if_pos hl]
      have tl : decide (l < 0) = true ∨ (decide (l < 0) = false ∧ decide ((2147483647 : Int) < l) = true) := by
        by_cases h : l < 0
        · exact .inl (by simpa using h)
        · exact .inr ⟨by simpa using h, by simp; omega⟩
      clear hl
      rcases tl with tl | ⟨tl, tl2⟩
      all_goals
        go_enter Tryz.func155, Tryz.ntmps155
        go_wp2_with fail
        refine (HA.out _).mono ?_; rintro e w1 ⟨rfl, hb⟩
        have c3 := cell_later hb HQ.out.2.1
        have HB1 := Lib.hid (bel_call HB.out hb)
        clear hb
        go_wp2_with fail
        go_ret
        exact ⟨rfl, HB1.out⟩
    · rw [if_neg hl]
      have tl : decide (l < 0) = false := by simp; omega
      have tl2 : decide ((2147483647 : Int) < l) = false := by simp; omega
      clear hl
      obtain ⟨C, hC⟩ : ∃ C, (spl t d).code = C := ⟨_, rfl⟩
      rw [hC] at HR ⊢
      clear hC
      go_enter Tryz.func155, Tryz.ntmps155
      go_wp2_with fail
      refine (HA.out _).mono ?_; rintro e w1 ⟨rfl, hb⟩
      have c3 := cell_later hb HQ.out.2.1
      have c4 := cell_later hb HQ.out.2.2
      have c1 := cell_later hb HQ.out.1
      have HB1 := Lib.hid (bel_call HB.out hb)
      clear hb
      go_wp2_with fail
      refine (HR.out _).mono ?_; rintro e w2 ⟨rfl, hb⟩
      have HB2 := Lib.hid (bel_call HB1.out hb)
      clear hb
      go_wp2_with fail
      go_ret
      exact ⟨rfl, HB2.out⟩
  · rw [if_pos (by simpa using h0)]
    have tE : (E != 0) = true := by simpa using h0
    clear h0
    go_enter Tryz.func155, Tryz.ntmps155
    go_wp2_with fail
    refine (HA.out _).mono ?_; rintro e w1 ⟨rfl, hb⟩
    have HB1 := Lib.hid (bel_call HB.out hb)
    clear hb
    go_wp2_with fail
    go_ret
    exact ⟨rfl, HB1.out⟩
end Go.Proofs.YteegekpanadmkaaGreat

/-
  A record's lower form; which records are the same.
-/
namespace Go.Proofs.YteegekpanadmkaaGreat
open Go.RowKit Go.Shelf
set_option linter.unusedVariables false
set_option linter.unusedSimpArgs false
set_option maxRecDepth 100000

theorem Cel.five {w : World} {q : Nat} {a b c d e : Value} (h : Cel w q [a, b, c, d, e]) : w.cell? ⟨q, 0, none⟩ = some a ∧ w.cell? ⟨q, 1, none⟩ = some b ∧ w.cell? ⟨q, 2, none⟩ = some c ∧ w.cell? ⟨q, 3, none⟩ = some d ∧ w.cell? ⟨q, 4, none⟩ = some e :=
  ⟨h.c 0 (by simp), h.c 1 (by simp), h.c 2 (by simp), h.c 3 (by simp), h.c 4 (by simp)⟩

theorem cel_new (w : World) (a b c d e : Value) (T : TypeId) : Cel (w.alloc (.cells #[a, b, c, d, e] T)) w.heap.size [a, b, c, d, e] := ⟨fun j hj => by
    match j, hj with
    | 0, _ => simp [go_sem]
    | 1, _ => simp [go_sem]
    | 2, _ => simp [go_sem]
    | 3, _ => simp [go_sem]
    | 4, _ => simp [go_sem], fun j => by simp [go_sem]⟩

end Go.Proofs.YteegekpanadmkaaGreat

/-
  Write: plainly; what it asks of the packer.
-/
namespace Go.Proofs.YteegekpanadmkaaGreat
open Go.RowKit Go.Shelf
set_option linter.unusedVariables false
set_option linter.unusedSimpArgs false
set_option maxRecDepth 100000

/-- Tails, and where the last name ended; what was told. -/
abbrev KK := List (List UInt8 × Nat)
structure WR where
  out : List UInt8
  code : Int
  K : KK
  e : Nat

/-- The pieces' bytes, one behind the other. -/
def wrL (a : Int) : List Pc → KK → Nat → List UInt8 → WR
  | [], K, e, acc => ⟨acc, 0, K, e⟩
  | x :: L, K, e, acc =>
    if x.2 = true then
      (if pkE e (wrap64 (a + acc.length)) x.1 ≠ 0 then ⟨[], pkE e (wrap64 (a + acc.length)) x.1, K, e⟩
       else wrL a L (nameK K e (wrap64 (a + acc.length)) x.1) (nameE K e (wrap64 (a + acc.length)) x.1) (acc ++ nameB K e (wrap64 (a + acc.length)) x.1))
    else wrL a L K e (acc ++ x.1)

def wrR (a t : Int) (d : List UInt8) (K : KK) (e : Nat) : WR := match spl t d with | .ok L => wrL a L K e [] | .bad c _ => ⟨[], c, K, e⟩

theorem nameB_len {K : KK} {e : Nat} {a : Int} {n : List UInt8} (hG : GoodK K) : (nameB K e a n).length ≤ 255 ∧ (pkE e a n = 0 → (nameB K e a n).length ≤ n.length) := by
  unfold nameB
  by_cases h : pkE e a n = 0
  · rw [if_pos h]
    have hc : chk n = 0 := by
      unfold pkE at h
      split at h
      · rename_i h1; exact absurd h h1
      · rename_i h1; simpa using h1
    obtain ⟨hs, hn⟩ := shorts_of hc
    have hl := told_le hG hs
    have e1 : nm (labs n) = n := hn.symm
    rw [e1] at hl
    have := (chk_pos hc).2
    exact ⟨by omega, fun _ => hl⟩
  · rw [if_neg h]
    exact ⟨by simp, fun h' => absurd h' h⟩

theorem pkE_chk {e : Nat} {a : Int} {n : List UInt8} (h : pkE e a n = 0) : chk n = 0 ∧ 0 ≤ a ∧ a ≤ 65535 ∧ (e : Int) ≤ a := by
  unfold pkE at h
  split at h
  · rename_i h1; exact absurd h h1
  · rename_i h1
    split at h
    · exact absurd h (by decide)
    · split at h
      · exact absurd h (by decide)
      · exact ⟨by simpa using h1, by omega, by omega, by omega⟩

theorem nameK_good {K : KK} {e : Nat} {a : Int} {n : List UInt8} (hG : GoodK K) : GoodK (nameK K e a n) ∧ (nameK K e a n).length ≤ K.length + 127 ∧ nameE K e a n ≤ max e 65790 := by
  unfold nameK nameE
  by_cases h : pkE e a n = 0
  · rw [if_pos h, if_pos h]
    obtain ⟨hc, h0, h1, h2⟩ := pkE_chk h
    obtain ⟨hs, hn⟩ := shorts_of hc
    have hh := hdn_le K (labs n)
    have hb := (nameB_len (e := e) (a := a) (n := n) hG).1
    unfold nameB at hb
    rw [if_pos h] at hb
    refine ⟨good_fr hG hs _ hh, ?_, by omega⟩
    rw [List.length_append]
    have h3 := fr_len (labs n) a.toNat (hdn K (labs n))
    have h4 := len_wire2 hs.1
    have h5 := hs.2
    omega
  · rw [if_neg h, if_neg h]
    exact ⟨hG, by omega, by omega⟩

theorem chk_nil : chk [] = 4 := by unfold chk; rw [show left [] = [] from by rw [left]]; simp

theorem pmade_any {w : World} {p bm e : Nat} {K : KK} (h : Pk w p bm K e) (hG : GoodK K) (hK : K.length ≤ 900000) (he : e ≤ 1000000) : Calls Tryz.prog 167 #[.pointer (some ⟨p, 0, none⟩)] w fun x w' => x = .returned (.bool true) ∧ Pk w' p bm K e ∧ Aside (fun b => b = p ∨ b = bm) w w' := by
  have hE : pkE e 0 [] = 4 := by unfold pkE; rw [if_pos (by rw [chk_nil]; decide), chk_nil]
  have HN : Hid (Calls Tryz.prog 130 #[.pointer (some ⟨p, 0, none⟩), .int .i64 0, .string ⟨#[]⟩] w fun x w' => ∃ v, x = .returned (.tuple #[v, .int .i64 4]) ∧ Pk w' p bm K e ∧ Aside (fun b => b = p ∨ b = bm) w w') := by
    refine (show Calls Tryz.prog _ #[.pointer (some ⟨p, 0, none⟩), .int .i64 0, .string ⟨#[]⟩] w _ from name_any h hG hK he 0 [] (by simp)).mono ?_
    rintro x w' ⟨v, rfl, _, hp, ha⟩
    unfold nameK nameE at hp
    rw [hE, if_neg (by decide), if_neg (by decide)] at hp
    exact ⟨v, by rw [hE], hp, ha⟩
  clear h hE
  go_enter Tryz.func167, Tryz.ntmps167
  go_wp2_with fail
  refine HN.out.mono ?_; rintro e w1 ⟨v, rfl, hp, ha⟩
  have HP := Lib.hid (And.intro hp ha)
  clear hp ha
  go_wp2_with fail
  go_ret
  exact ⟨rfl, HP.out⟩
end Go.Proofs.YteegekpanadmkaaGreat

/-
  Write.
-/
namespace Go.Proofs.YteegekpanadmkaaGreat
open Go.RowKit Go.Shelf
set_option linter.unusedVariables false
set_option linter.unusedSimpArgs false
set_option maxRecDepth 100000

/-- Write's pieces, its row of bytes and its packer, round for round. -/
structure Wk (w wr : World) (p bm B0 : Nat) (vl vb : Value) (L : List Pc) (acc : List UInt8) (K : KK) (e : Nat) : Prop where
  rp : OwnP wr w.heap.size vl L
  lo : ∀ b, vl.ownBlock = some b → b < B0
  rb : OwnB wr B0 vb acc
  pk : Pk wr p bm K e
  has : Aside (fun b => b = p ∨ b = bm) w wr
  size : B0 ≤ wr.heap.size
  base : w.heap.size ≤ B0
  hp : p < w.heap.size
  hm : bm < w.heap.size

section
variable {w wr w' : World} {p bm B0 e : Nat} {vl vb : Value} {L : List Pc} {acc : List UInt8} {K : KK}
theorem Wk.later (h : Wk w wr p bm B0 vl vb L acc K e) (hb : Below wr.heap.size wr w') : Wk w w' p bm B0 vl vb L acc K e :=
  ⟨h.rp.below hb, h.lo, h.rb.below hb, h.pk.later hb, h.has.trans (Aside.of_all hb), Nat.le_trans h.size hb.size, h.base, h.hp, h.hm⟩
theorem Wk.name {K' : KK} {e' : Nat} (h : Wk w wr p bm B0 vl vb L acc K e) (ha : Aside (fun b => b = p ∨ b = bm) wr w') (hk : Pk w' p bm K' e') : Wk w w' p bm B0 vl vb L acc K' e' := by
  have h1 := h.hp
  have h2 := h.hm
  have h3 := h.base
  refine ⟨h.rp.aside ha fun b hb hg => ?_, h.lo, h.rb.aside ha fun b hb hg => ?_, hk, h.has.trans ha, Nat.le_trans h.size ha.size, h3, h1, h2⟩
  · have := (h.rp.lt b hb).1; omega
  · have := (h.rb.lt b hb).1; omega
theorem Wk.app (h : Wk w wr p bm B0 vl vb L acc K e) {xv : Value} {l' : List UInt8} {lo hi : Nat} (hx : Sl wr lo hi xv (iz l')) (hb : acc.length + l'.length ≤ 1000000) :
    ∃ a' c' w', (Builtin.append_ #[28, 28] 28 #[vb, xv]).run Tryz.prog wr = .ok (.slice a' (acc.length + l'.length) c') w' ∧ Wk w w' p bm B0 vl (.slice a' (acc.length + l'.length) c') L (acc ++ l') K e := by
  obtain ⟨a', c', w', h1, h2, ha⟩ := run_appBs B0 vb xv acc l' h.rb hx hb h.size
  have hlt := h.rb.lt
  have g1 := h.hp
  have g2 := h.hm
  have g3 := h.base
  refine ⟨a', c', w', h1, h.rp.aside ha fun b hb hg => by have := h.lo b hb; have := (hlt b hg).1; omega, h.lo, h2, h.pk.aside ha (fun hg => by have := (hlt p hg).1; omega) (fun hg => by have := (hlt bm hg).1; omega), ?_, Nat.le_trans h.size ha.size, g3, g1, g2⟩
  have ha2 : Aside (fun b => w.heap.size ≤ b) wr w' := ha.mono fun b _ hg => by have := (hlt b hg).1; omega
  exact ⟨ha2.os.trans h.has.os, ha2.tape.trans h.has.tape, ha2.output.trans h.has.output, Nat.le_trans h.has.size ha2.size, fun b hb hg => (ha2.block b (Nat.lt_of_lt_of_le hb h.has.size) (by omega)).trans (h.has.block b hb hg)⟩
end

def WrPost (w : World) (p bm : Nat) (R : WR) (x : Ending) (w' : World) : Prop :=
  ∃ v, x = .returned (.tuple #[v, .int .i64 R.code]) ∧ OwnB w' w.heap.size v R.out ∧ Pk w' p bm R.K R.e ∧ Aside (fun b => b = p ∨ b = bm) w w'

theorem fits_nam {ks : List PK} {L : List Pc} (h : Fits ks L) : ∀ x ∈ L, x.2 = true → chk x.1 = 0 := by
  induction h with
  | nil => simp
  | fix h h2 ih => intro x hx hf; rcases List.mem_cons.mp hx with rfl | hx; cases hf; exact ih x hx hf
  | nam h h2 ih => intro x hx hf; rcases List.mem_cons.mp hx with rfl | hx; exact h; exact ih x hx hf
  | txt h => intro x hx hf; obtain rfl := List.mem_singleton.mp hx; cases hf
  | rst => intro x hx hf; obtain rfl := List.mem_singleton.mp hx; cases hf

set_option maxHeartbeats 8000000 in
theorem write_any {w : World} {p bm e : Nat} {K : KK} (h : Pk w p bm K e) (hG : GoodK K) (hK : K.length ≤ 800000) (he : e ≤ 900000) (a t : Int) (d : List UInt8) (hd : d.length ≤ 1000000) :
    Calls Tryz.prog 161 #[.pointer (some ⟨p, 0, none⟩), .int .i64 a, .int .i64 t, .string (bs d)] w (WrPost w p bm (wrR a t d K e)) := by
  have HM := Lib.hid (pmade_any h hG (by omega) (by omega))
  have hpl := h.lt
  have hml := h.map.lt
  rcases hR : spl t d with L | ⟨c, aa⟩
  · have eR : wrR a t d K e = wrL a L K e [] := by unfold wrR; rw [hR]
    rw [eR]
    have HS := Lib.hid (fun wx => split_ok hR hd wx)
    obtain ⟨_, _, hd6, hf, hj⟩ := spl_ok hR
    have hfl := fits_len hf
    have hk3 := (kinds_small t).1
    have HP := Lib.hid (fun k (h : k < L.length) => show L[k].1.length ≤ 65535 from by
      have h1 := joined_take h
      have h2 := joined_part L (k + 1)
      rw [h1, List.length_append, hj] at h2
      omega)
    have HNM := Lib.hid (fun k (h : k < L.length) (h2 : L[k].2 = true) => fits_nam hf L[k] (List.getElem_mem h) h2)
    obtain ⟨X, hX⟩ : ∃ X, wrL a L K e [] = X := ⟨_, rfl⟩
    rw [hX]
    have HX := Lib.hid hX
    obtain ⟨n, hn⟩ : ∃ n, L.length = n := ⟨_, rfl⟩
    have HN := Lib.hid hn
    have hn3 : n ≤ 3 := by omega
    clear hR eR hf hj hfl hk3 hd6 hn hX h
    go_enter Tryz.func161, Tryz.ntmps161
    go_wp2_with fail
    refine HM.out.mono ?_; rintro e0 w1 ⟨rfl, hpk1, ha1⟩
    have HP1 := Lib.hid (And.intro hpk1 ha1)
    clear hpk1 ha1
    go_wp2_with fail
    refine (HS.out w1).mono ?_; rintro e0 w2 ⟨vl, rfl, hown, hb2⟩
    have HWk : Hid (Wk w w2 p bm w2.heap.size vl (.slice none 0 0) L [] K e) := ⟨hown.mono HP1.out.2.size, fun b hb => (hown.lt b hb).2, OwnB.nil _ _, HP1.out.1.later hb2, HP1.out.2.trans (Aside.of_all hb2), Nat.le_refl _, Nat.le_trans HP1.out.2.size hb2.size, hpl, hml⟩
    obtain ⟨al, cl, rfl⟩ := hown.shape
    rw [HN.out] at HWk ⊢
    obtain ⟨B0, hB0⟩ : ∃ B0, w2.heap.size = B0 := ⟨_, rfl⟩
    rw [hB0] at HWk
    clear hown hb2 hB0 HP1 HM
    go_wp2_with fail
    go_loopg [12, 30] n (fun g v12 v30 wr => ∃ (k z : Nat) (acc : List UInt8) (K' : KK) (e' : Nat) (ab : Option Addr) (cb : Nat), k + g = n ∧ v30 = .int .i64 k ∧ v12 = .slice ab z cb ∧ acc.length = z ∧ z ≤ 65535 * k ∧ K'.length ≤ K.length + 127 * k ∧ e' ≤ 1000000 ∧ Hid (Wk w wr p bm B0 (.slice al n cl) (.slice ab z cb) L acc K' e') ∧ Hid (GoodK K') ∧ Hid (wrL a (L.drop k) K' e' acc = X))
    case atStart => exact ⟨0, 0, [], K, e, none, 0, by omega, rfl, rfl, rfl, by omega, by omega, by omega, HWk, hG, HX⟩
    case round =>
      obtain ⟨k, z, acc, K', e', ab, cb, hk, rfl, rfl, hz, hzl, hKl, hel, HW, HGk, HXk⟩ := hrel
      clear HWk
      by_cases hlt0 : k < n
      · have hlt : k < L.length := by have := HN.out; omega
        obtain ⟨g0, c0, he0, hc0, hc1⟩ := OwnP.at_ HW.out.rp k hlt
        injection he0 with he1 he2 he3
        subst he1
        subst he3
        have hxl := HP.out k hlt
        have hst := HXk.out
        rw [List.drop_eq_getElem_cons hlt, wrL] at hst
        obtain ⟨x, hx⟩ : ∃ x, L[k].1 = x := ⟨_, rfl⟩
        obtain ⟨f, hf⟩ : ∃ f, L[k].2 = f := ⟨_, rfl⟩
        rw [hx] at hc0 hxl hst
        rw [hf] at hc1 hst
        rw [hz] at hst
        have hal : Below wr.heap.size wr (wr.alloc (.cells #[.string (bs x), .bool f] 212)) := (Below.refl _ _).alloc (Nat.le_refl _) _
        obtain ⟨cap, W, hcv, ho, hbW, hltW⟩ := conv_B (wr.alloc (.cells #[.string (bs x), .bool f] 212)) x (by omega)
        have hsz : (wr.alloc (.cells #[.string (bs x), .bool f] 212)).heap.size = wr.heap.size + 1 := World.size_alloc _ _
        rw [hsz] at hcv ho hbW hltW
        have d0 : W.cell? ⟨wr.heap.size, 0, none⟩ = some (.string (bs x)) := (hbW.cell (p := ⟨wr.heap.size, 0, none⟩) (Nat.lt_succ_self _)).trans (by simp [go_sem])
        have d1 : W.cell? ⟨wr.heap.size, 1, none⟩ = some (.bool f) := (hbW.cell (p := ⟨wr.heap.size, 1, none⟩) (Nat.lt_succ_self _)).trans (by simp [go_sem])
        have HWW := Lib.hid ((HW.out.later hal).later (by rw [hsz]; exact hbW))
        have HO := Lib.hid ho
        have hnm := fun h => HNM.out k hlt h
        rw [hf, hx] at hnm
        clear hx hf hal ho hbW hltW he2 hsz
        cases f with
        | false =>
          rw [if_neg (by simp)] at hst
          have HST := Lib.hid hst
          obtain ⟨l2, hl2⟩ : ∃ l2, x.length = l2 := ⟨_, rfl⟩
          obtain ⟨a3, c3, w3, hr3, hk3⟩ := HWW.out.app HO.out.sl (by omega)
          rw [hz, hl2] at hr3 hk3
          have HR3 := Lib.hid hr3
          have HK3 := Lib.hid hk3
          have hzl2 : z + l2 ≤ 65535 * (k + 1) := by omega
          have hlen : (acc ++ x).length = z + l2 := by rw [List.length_append, hz, hl2]
          rw [hl2] at hcv
          clear hr3 hk3 hst hl2 HO
          go_wp2_with (at_builtin; refine wpList_append_run (.tmp 53) (.tmp 54) 28 28 rfl rfl rfl rfl HR3.out ?_)
          go_roundg (n - (k + 1))
          case measure => omega
          case rel => exact ⟨k + 1, z + l2, acc ++ x, K', e', a3, c3, by omega, by go_num, by simp, hlen, hzl2, by omega, hel, HK3, HGk, HST⟩
        | true =>
          rw [if_pos rfl] at hst
          have hx255 := (chk_pos (hnm rfl)).2
          have hnb := nameB_len (e := e') (a := wrap64 (a + z)) (n := x) HGk.out
          have hnk := nameK_good (e := e') (a := wrap64 (a + z)) (n := x) HGk.out
          have HNm0 := name_any HWW.out.pk HGk.out (by omega) (by omega) (wrap64 (a + z)) x (by omega)
          obtain ⟨q, hq⟩ : ∃ q, wrap64 (a + z) = q := ⟨_, rfl⟩
          rw [hq] at hst hnb hnk HNm0
          by_cases hE : pkE e' q x = 0
          · rw [if_neg (by simpa using hE)] at hst
            have HST := Lib.hid hst
            obtain ⟨T, hT⟩ : ∃ T, nameB K' e' q x = T := ⟨_, rfl⟩
            obtain ⟨K2, hK2⟩ : ∃ K2, nameK K' e' q x = K2 := ⟨_, rfl⟩
            obtain ⟨e2, he2⟩ : ∃ e2, nameE K' e' q x = e2 := ⟨_, rfl⟩
            rw [hT, hK2, he2] at HST
            have HNm : Hid (Calls Tryz.prog 130 #[.pointer (some ⟨p, 0, none⟩), .int .i64 q, .string (bs x)] W fun y w' => ∃ v, y = .returned (.tuple #[v, .int .i64 0]) ∧ OwnB w' W.heap.size v T ∧ Pk w' p bm K2 e2 ∧ Aside (fun b => b = p ∨ b = bm) W w') := by
              refine HNm0.mono ?_
              rintro y w' ⟨v, rfl, g1, g2, g3⟩
              rw [hE]
              rw [hT] at g1
              rw [hK2, he2] at g2
              exact ⟨v, rfl, g1, g2, g3⟩
            rw [hT] at hnb
            rw [hK2, he2] at hnk
            clear hst HNm0 hT hK2 he2 hE hnm
            go_wp2_with fail
            rw [hq]
            refine HNm.out.mono ?_; rintro e0 w3 ⟨v3, rfl, ho3, hpk3, ha3⟩
            have HK3 := HWW.out.name ha3 hpk3
            obtain ⟨l2, hl2⟩ : ∃ l2, T.length = l2 := ⟨_, rfl⟩
            obtain ⟨a4, c4, w4, hr4, hk4⟩ := HK3.app ho3.sl (by omega)
            obtain ⟨a5, c5, rfl⟩ := ho3.shape
            rw [hz, hl2] at hr4 hk4
            rw [hl2] at hnb ⊢
            have HR4 := Lib.hid hr4
            have HK4 := Lib.hid hk4
            have hzl2 : z + l2 ≤ 65535 * (k + 1) := by omega
            have hlen : (acc ++ T).length = z + l2 := by rw [List.length_append, hz, hl2]
            have hG2 := Lib.hid hnk.1
            clear hr4 hk4 hl2 HO ho3 hpk3 ha3 HK3 hq
            go_wp2_with (at_builtin; refine wpList_append_run (.tmp 53) (.tmp 54) 28 28 rfl rfl rfl rfl HR4.out ?_)
            go_roundg (n - (k + 1))
            case measure => omega
            case rel => exact ⟨k + 1, z + l2, acc ++ T, K2, e2, a4, c4, by omega, by go_num, by simp, hlen, hzl2, by omega, by omega, HK4, hG2, HST⟩
          · rw [if_pos (by simpa using hE)] at hst
            have HST := Lib.hid hst
            have hnk0 : nameK K' e' q x = K' ∧ nameE K' e' q x = e' := by unfold nameK nameE; rw [if_neg hE, if_neg hE]; exact ⟨rfl, rfl⟩
            obtain ⟨cc, hcc⟩ : ∃ cc, pkE e' q x = cc := ⟨_, rfl⟩
            rw [hcc] at HST hE
            have HNm : Hid (Calls Tryz.prog 130 #[.pointer (some ⟨p, 0, none⟩), .int .i64 q, .string (bs x)] W fun y w' => ∃ v, y = .returned (.tuple #[v, .int .i64 cc]) ∧ Pk w' p bm K' e' ∧ Aside (fun b => b = p ∨ b = bm) W w') := by
              refine HNm0.mono ?_
              rintro y w' ⟨v, rfl, _, g2, g3⟩
              rw [hcc]
              rw [hnk0.1, hnk0.2] at g2
              exact ⟨v, rfl, g2, g3⟩
            have tc : (cc != 0) = true := by simpa using hE
            clear hst HNm0 hcc hE hnm hnk0 hnk hnb
            go_wp2_with fail
            rw [hq]
            refine HNm.out.mono ?_; rintro e0 w3 ⟨v3, rfl, hpk3, ha3⟩
            have HK3 := Lib.hid (HWW.out.name ha3 hpk3)
            clear hpk3 ha3 hq
            go_wp2_with fail
            go_ret2
            rw [← HST.out]
            exact ⟨_, rfl, OwnB.nil _ _, HK3.out.pk, HK3.out.has⟩
      · have hXe : wrL a [] K' e' acc = X := by have h := HXk.out; rw [List.drop_eq_nil_of_le (by have := HN.out; omega)] at h; exact h
        have HXe := Lib.hid hXe
        clear hXe
        go_wp2_with fail
        go_ret2
        rw [← HXe.out]
        have hh := HW.out
        exact ⟨_, rfl, hh.rb.mono hh.base, hh.pk, hh.has⟩
  · have eR : wrR a t d K e = ⟨[], c, K, e⟩ := by unfold wrR; rw [hR]
    rw [eR]
    have HS := Lib.hid (fun wx => split_bad hR hd wx)
    have tc : (c != 0) = true := by simpa using code_bad hR
    clear hR eR h
    go_enter Tryz.func161, Tryz.ntmps161
    go_wp2_with fail
    refine HM.out.mono ?_; rintro e0 w1 ⟨rfl, hpk1, ha1⟩
    have HP1 := Lib.hid (And.intro hpk1 ha1)
    clear hpk1 ha1
    go_wp2_with fail
    refine (HS.out w1).mono ?_; rintro e0 w2 ⟨vl, rfl, hb2⟩
    have HP2 := Lib.hid (And.intro (HP1.out.1.later hb2) (HP1.out.2.trans (Aside.of_all hb2)))
    clear hb2
    go_wp2_with fail
    go_ret2
    exact ⟨_, rfl, OwnB.nil _ _, HP2.out⟩
end Go.Proofs.YteegekpanadmkaaGreat

/-
  Numbers as bytes; whether a packer was made; a question's bytes.
-/
namespace Go.Proofs.YteegekpanadmkaaGreat
open Go.RowKit Go.Shelf
set_option linter.unusedVariables false
set_option linter.unusedSimpArgs false
set_option maxRecDepth 100000

def two (n : Int) : List UInt8 := [UInt8.ofNat (n.toNat / 256), UInt8.ofNat (n.toNat % 256)]
def four (n : Int) : List UInt8 := [UInt8.ofNat (n.toNat / 16777216), UInt8.ofNat (n.toNat / 65536 % 256), UInt8.ofNat (n.toNat / 256 % 256), UInt8.ofNat (n.toNat % 256)]

theorem iz_two (n : Int) (h0 : 0 ≤ n) (h1 : n ≤ 65535) : iz (two n) = putL2 n := by
  unfold putL2 two iz
  rw [if_pos ⟨h0, h1⟩]
  simp only [List.map_cons, List.map_nil, UInt8.toNat_ofNat']
  congr 1
  · omega
  · congr 1; omega

theorem iz_four (n : Int) (h0 : 0 ≤ n) (h1 : n ≤ 4294967295) : iz (four n) = putL4 n := by
  unfold putL4 four iz
  rw [if_pos ⟨h0, h1⟩]
  simp only [List.map_cons, List.map_nil, UInt8.toNat_ofNat']
  congr 1
  · omega
  · congr 1
    · omega
    · congr 1
      · omega
      · congr 1; omega

theorem sl_keep {w w' : World} {v : Value} {l : List Int} (h : Sl w 0 w.heap.size v l) (hb : Below w.heap.size w w') : Sl w' 0 w'.heap.size v l := (h.below hb (Nat.le_refl _)).wide (Nat.le_refl _) hb.size

theorem two_any (n : Int) (h0 : 0 ≤ n) (h1 : n ≤ 65535) (w : World) : Calls Tryz.prog 132 #[.int .i64 n] w fun e w' => ∃ a c, e = .returned (.slice a 2 c) ∧ Sl w' 0 w'.heap.size (.slice a 2 c) (iz (two n)) ∧ Below w.heap.size w w' := by
  have HP : Hid (Calls Tryz.prog 73 #[.int .i64 n] w fun e w' => ∃ a c, e = .returned (.tuple #[.slice a 2 c, .int .i64 (putE 65535 n)]) ∧ Sl w' 0 w'.heap.size (.slice a 2 c) (iz (two n)) ∧ Below w.heap.size w w') := by
    refine (put16_any n w).mono ?_
    rintro e w' ⟨v, g, rfl, ho, _, _, hb⟩
    rw [← iz_two n h0 h1] at ho
    have hs := ho.sl.top
    obtain ⟨a, c, rfl, _⟩ := id hs
    exact ⟨a, c, rfl, hs, hb⟩
  obtain ⟨E, hE⟩ : ∃ E, putE 65535 n = E := ⟨_, rfl⟩
  rw [hE] at HP
  clear hE
  go_enter Tryz.func132, Tryz.ntmps132
  go_wp2_with fail
  refine HP.out.mono ?_; rintro e w1 ⟨a, c, rfl, hs, hb⟩
  have HQ := Lib.hid (And.intro hs hb)
  clear hs hb
  go_wp2_with fail
  go_ret
  exact ⟨a, c, rfl, HQ.out⟩

theorem four_any (n : Int) (h0 : 0 ≤ n) (h1 : n ≤ 4294967295) (w : World) : Calls Tryz.prog 162 #[.int .i64 n] w fun e w' => ∃ a c, e = .returned (.slice a 4 c) ∧ Sl w' 0 w'.heap.size (.slice a 4 c) (iz (four n)) ∧ Below w.heap.size w w' := by
  have HP : Hid (Calls Tryz.prog 168 #[.int .i64 n] w fun e w' => ∃ a c, e = .returned (.tuple #[.slice a 4 c, .int .i64 (putE 4294967295 n)]) ∧ Sl w' 0 w'.heap.size (.slice a 4 c) (iz (four n)) ∧ Below w.heap.size w w') := by
    refine (put32_any n w).mono ?_
    rintro e w' ⟨v, g, rfl, ho, _, _, hb⟩
    rw [← iz_four n h0 h1] at ho
    have hs := ho.sl.top
    obtain ⟨a, c, rfl, _⟩ := id hs
    exact ⟨a, c, rfl, hs, hb⟩
  obtain ⟨E, hE⟩ : ∃ E, putE 4294967295 n = E := ⟨_, rfl⟩
  rw [hE] at HP
  clear hE
  go_enter Tryz.func162, Tryz.ntmps162
  go_wp2_with fail
  refine HP.out.mono ?_; rintro e w1 ⟨a, c, rfl, hs, hb⟩
  have HQ := Lib.hid (And.intro hs hb)
  clear hs hb
  go_wp2_with fail
  go_ret
  exact ⟨a, c, rfl, HQ.out⟩

theorem made_any {w : World} {p bm e : Nat} {K : KK} (h : Pk w p bm K e) (hG : GoodK K) (hK : K.length ≤ 900000) (he : e ≤ 1000000) : Calls Tryz.prog 128 #[.pointer (some ⟨p, 0, none⟩)] w fun x w' => x = .returned (.bool true) ∧ Pk w' p bm K e ∧ Aside (fun b => b = p ∨ b = bm) w w' := by
  have hE : pkE e 0 [] = 4 := by unfold pkE; rw [if_pos (by rw [chk_nil]; decide), chk_nil]
  have HN : Hid (Calls Tryz.prog 130 #[.pointer (some ⟨p, 0, none⟩), .int .i64 0, .string ⟨#[]⟩] w fun x w' => ∃ v, x = .returned (.tuple #[v, .int .i64 4]) ∧ Pk w' p bm K e ∧ Aside (fun b => b = p ∨ b = bm) w w') := by
    refine (show Calls Tryz.prog _ #[.pointer (some ⟨p, 0, none⟩), .int .i64 0, .string ⟨#[]⟩] w _ from name_any h hG hK he 0 [] (by simp)).mono ?_
    rintro x w' ⟨v, rfl, _, hp, ha⟩
    unfold nameK nameE at hp
    rw [hE, if_neg (by decide), if_neg (by decide)] at hp
    exact ⟨v, by rw [hE], hp, ha⟩
  clear h hE
  go_enter Tryz.func128, Tryz.ntmps128
  go_wp2_with fail
  refine HN.out.mono ?_; rintro e w1 ⟨v, rfl, hp, ha⟩
  have HP := Lib.hid (And.intro hp ha)
  clear hp ha
  go_wp2_with fail
  go_ret
  exact ⟨rfl, HP.out⟩

/-- A question's bytes, or the error. -/
def askW (a : Int) (n : List UInt8) (t c : Int) (K : KK) (e : Nat) : WR :=
  if askE n t c ≠ 0 then ⟨[], askE n t c, K, e⟩ else if pkE e a n ≠ 0 then ⟨[], pkE e a n, K, e⟩ else ⟨nameB K e a n ++ (two t ++ two c), 0, nameK K e a n, nameE K e a n⟩

theorem askE_ok {n : List UInt8} {t c : Int} (h : askE n t c = 0) : chk n = 0 ∧ 0 ≤ t ∧ t ≤ 65535 ∧ 0 ≤ c ∧ c ≤ 65535 := by
  unfold askE at h
  split at h
  · rename_i h1; exact absurd h h1
  · rename_i h1
    split at h
    · exact absurd h (by decide)
    · exact ⟨by simpa using h1, by omega, by omega, by omega, by omega⟩

theorem cel_new3 (w : World) (a b c : Value) (T : TypeId) : Cel (w.alloc (.cells #[a, b, c] T)) w.heap.size [a, b, c] := ⟨fun j hj => by
    match j, hj with
    | 0, _ => simp [go_sem]
    | 1, _ => simp [go_sem]
    | 2, _ => simp [go_sem], fun j => by simp [go_sem]⟩

set_option maxHeartbeats 8000000 in
theorem askC_any {w : World} {p bm e : Nat} {K : KK} (h : Pk w p bm K e) (hG : GoodK K) (hK : K.length ≤ 800000) (he : e ≤ 900000) (a : Int) (n : List UInt8) (hn : n.length ≤ 1000000) (t c : Int) :
    Calls Tryz.prog 124 #[.pointer (some ⟨p, 0, none⟩), .int .i64 a, .agg #[.string (bs n), .int .i64 t, .int .i64 c]] w (WrPost w p bm (askW a n t c K e)) := by
  obtain ⟨W0, hW0⟩ : ∃ W0, w.alloc (.cells #[.string (bs n), .int .i64 t, .int .i64 c] 56) = W0 := ⟨_, rfl⟩
  have hb0 : Below w.heap.size w W0 := by rw [← hW0]; exact (Below.refl _ _).alloc (Nat.le_refl _) _
  have hx : Cel W0 w.heap.size [.string (bs n), .int .i64 t, .int .i64 c] := by rw [← hW0]; exact cel_new3 w _ _ _ _
  have HM := Lib.hid (made_any (h.later hb0) hG (by omega) (by omega))
  have hpl := h.lt
  have hml := h.map.lt
  have HA0 := Lib.hid (Aside.of_all hb0 : Aside (fun b => b = p ∨ b = bm) w W0)
  have HAk := Lib.hid (fun wx => ask_any n hn t c wx)
  obtain ⟨g, hg⟩ : ∃ g, w.heap.size = g := ⟨_, rfl⟩
  have HX := Lib.hid hx
  rw [hg] at HX
  have hgp : ¬ (g = p ∨ g = bm) := by omega
  clear h hx hb0
  obtain ⟨X, hX⟩ : ∃ X, askW a n t c K e = X := ⟨_, rfl⟩
  rw [hX]
  have HXv := Lib.hid hX
  clear hX
  by_cases hA : askE n t c = 0
  · obtain ⟨hch, ht0, ht1, hc0, hc1⟩ := askE_ok hA
    have hn255 := (chk_pos hch).2
    have HNm := Lib.hid (fun (wx : World) (hp : Pk wx p bm K e) => name_any hp hG (by omega) (by omega) a n (by omega))
    unfold NamePost at HNm
    rw [hA] at HAk
    unfold askW at HXv
    rw [if_neg (by simpa using hA)] at HXv
    have hnb := (nameB_len (e := e) (a := a) (n := n) hG).1
    obtain ⟨E, hE⟩ : ∃ E, pkE e a n = E := ⟨_, rfl⟩
    obtain ⟨T, hT⟩ : ∃ T, nameB K e a n = T := ⟨_, rfl⟩
    obtain ⟨K2, hK2⟩ : ∃ K2, nameK K e a n = K2 := ⟨_, rfl⟩
    obtain ⟨e2, he2⟩ : ∃ e2, nameE K e a n = e2 := ⟨_, rfl⟩
    rw [hE, hT, hK2, he2] at HNm HXv
    rw [hT] at hnb
    have HT2 := Lib.hid (fun wx => two_any t ht0 ht1 wx)
    have HC2 := Lib.hid (fun wx => two_any c hc0 hc1 wx)
    have hKE : E ≠ 0 → K2 = K ∧ e2 = e := fun hne => by rw [← hK2, ← he2]; unfold nameK nameE; rw [hE, if_neg hne, if_neg hne]; exact ⟨rfl, rfl⟩
    clear hE hT hK2 he2 hA hch ht0 ht1 hc0 hc1 hG hn255
    go_enter Tryz.func124, Tryz.ntmps124
    go_wp2_with fail
    refine HM.out.mono ?_; rintro e0 w1 ⟨rfl, hp1, ha1⟩
    replace HX := Lib.hid (HX.out.aside (by simp) ha1 hgp)
    have HPk := Lib.hid hp1
    have HAs := Lib.hid (HA0.out.trans ha1)
    have c0 : w1.cell? ⟨g, 0, none⟩ = some (.string (bs n)) := HX.out.c 0 (by simp)
    have c1 : w1.cell? ⟨g, 1, none⟩ = some (.int .i64 t) := HX.out.c 1 (by simp)
    have c2 : w1.cell? ⟨g, 2, none⟩ = some (.int .i64 c) := HX.out.c 2 (by simp)
    clear hp1 ha1 HM HA0
    go_wp2_with fail
    refine (HAk.out _).mono ?_; rintro e0 w2 ⟨rfl, hb⟩
    replace HX := Lib.hid (HX.out.below (by simp) hb)
    replace HPk := Lib.hid (HPk.out.later hb)
    replace HAs := Lib.hid (HAs.out.trans (Aside.of_all hb))
    clear hb c0 c1 c2
    have c0 : w2.cell? ⟨g, 0, none⟩ = some (.string (bs n)) := HX.out.c 0 (by simp)
    go_wp2_with fail
    refine (HNm.out _ HPk.out).mono ?_; rintro e0 w3 ⟨v3, rfl, ho, hp3, ha3⟩
    replace HX := Lib.hid (HX.out.aside (by simp) ha3 hgp)
    replace HPk := Lib.hid hp3
    replace HAs := Lib.hid (HAs.out.trans ha3)
    have HS0 := Lib.hid ho.sl.top
    obtain ⟨a0, k0, rfl⟩ := ho.shape
    clear hp3 ha3 ho c0
    by_cases hE0 : E = 0
    · subst hE0
      rw [if_neg (by simp)] at HXv
      have HXD := Lib.hid (Below.refl w3.heap.size w3).drew
      replace HX := Lib.hid (HX.out.below (by simp) HXD.out)
      replace HPk := Lib.hid (HPk.out.later HXD.out)
      replace HAs := Lib.hid (HAs.out.trans (Aside.of_all HXD.out))
      replace HS0 := Lib.hid (sl_keep HS0.out HXD.out)
      clear HXD hKE
      go_wp2_with fail
      refine wp_region_held_drew (S := (fun wx => wx.cell? ⟨g, 1, none⟩ = some (.int .i64 t) ∧ wx.cell? ⟨g, 2, none⟩ = some (.int .i64 c))) (by kernel_rfl) ⟨HX.out.c 1 (by simp), HX.out.c 2 (by simp)⟩ (fun hHeld => ?_)
      refine wpAnyH_take (i := 0) (oi := { dst := some 35, op := Op.move (Operand.tmp 9), type := 28, pos := "rec.go:100", after := #[], guard := none }) (v := ?_) rfl (by kernel_rfl) (by kernel_rfl) (by kernel_rfl) (fun _ _ _ h => h) (Or.inl ⟨by rfl, ?_⟩) (by assumption) ?_
      rotate_left 1
      · intro w hSw; (try dsimp only at hSw); go_simp; try (with_reducible rfl)
      try simp only [Act.put, List.setIfInBounds_toArray, List.set_cons_zero, List.set_cons_succ]
      refine wpAnyH_take (i := 1) (oi := { dst := some 36, op := Op.fieldAddr 56 (Operand.tmp 5) 1, type := 0, pos := "rec.go:100", after := #[], guard := none }) (v := ?_) rfl (by kernel_rfl) (by kernel_rfl) (by kernel_rfl) (fun _ _ _ h => h) (Or.inl ⟨by rfl, ?_⟩) (by assumption) ?_
      rotate_left 1
      · intro w hSw; (try dsimp only at hSw); go_simp; try (with_reducible rfl)
      try simp only [Act.put, List.setIfInBounds_toArray, List.set_cons_zero, List.set_cons_succ]
      refine wpAnyH_take (i := 2) (oi := { dst := some 37, op := Op.load 3 (Operand.tmp 36), type := 3, pos := "rec.go:100", after := #[{ on := 1, ground := Ground.data }], guard := none }) (v := ?_) rfl (by kernel_rfl) (by kernel_rfl) (by kernel_rfl) (fun _ _ _ h => h) (Or.inl ⟨by rfl, ?_⟩) (by assumption) ?_
      rotate_left 1
      · intro w hSw; (try dsimp only at hSw); go_simp; try (with_reducible rfl)
      try simp only [Act.put, List.setIfInBounds_toArray, List.set_cons_zero, List.set_cons_succ]
      refine wpAnyH_take (i := 4) (oi := { dst := some 39, op := Op.fieldAddr 56 (Operand.tmp 5) 2, type := 0, pos := "rec.go:100", after := #[], guard := none }) (v := ?_) rfl (by kernel_rfl) (by kernel_rfl) (by kernel_rfl) (fun _ _ _ h => h) (Or.inl ⟨by rfl, ?_⟩) (by assumption) ?_
      rotate_left 1
      · intro w hSw; (try dsimp only at hSw); go_simp; try (with_reducible rfl)
      try simp only [Act.put, List.setIfInBounds_toArray, List.set_cons_zero, List.set_cons_succ]
      refine wpAnyH_take (i := 5) (oi := { dst := some 40, op := Op.load 3 (Operand.tmp 39), type := 3, pos := "rec.go:100", after := #[{ on := 4, ground := Ground.data }], guard := none }) (v := ?_) rfl (by kernel_rfl) (by kernel_rfl) (by kernel_rfl) (fun _ _ _ h => h) (Or.inl ⟨by rfl, ?_⟩) (by assumption) ?_
      rotate_left 1
      · intro w hSw; (try dsimp only at hSw); go_simp; try (with_reducible rfl)
      try simp only [Act.put, List.setIfInBounds_toArray, List.set_cons_zero, List.set_cons_succ]
      refine wpAnyH_ready (rs := [3]) (by kernel_rfl) (by simp) ?_
      refine AllReadyH.cons (o := { dst := some 38, op := Op.call { callee := Callee.value (Operand.func 132), args := #[Operand.tmp 37], argTypes := #[3] }, type := 28, pos := "rec.go:100", after := #[{ on := 2, ground := Ground.data }], guard := none }) rfl (fun K hK => ?_) (AllReadyH.nil)
      go_simp
      refine (HT2.out _).mono ?_; rintro e0 w4 ⟨a1, k1, rfl, hs1, hb⟩
      have HS1 := Lib.hid hs1
      clear hs1
      replace HX := Lib.hid (HX.out.below (by simp) hb)
      replace HPk := Lib.hid (HPk.out.later hb)
      replace HAs := Lib.hid (HAs.out.trans (Aside.of_all hb))
      replace HS0 := Lib.hid (sl_keep HS0.out hb)
      clear hb
      try go_wp2_with fail
      refine hK.out _ _ ⟨HX.out.c 1 (by simp), HX.out.c 2 (by simp)⟩ (fun hHeld => ?_)
      clear hK K
      try simp only [Act.put, List.setIfInBounds_toArray, List.set_cons_zero, List.set_cons_succ]
      refine wpAnyH_ready (rs := [6]) (by kernel_rfl) (by simp) ?_
      refine AllReadyH.cons (o := { dst := some 41, op := Op.call { callee := Callee.value (Operand.func 132), args := #[Operand.tmp 40], argTypes := #[3] }, type := 28, pos := "rec.go:100", after := #[{ on := 5, ground := Ground.data }, { on := 3, ground := Ground.chain }], guard := none }) rfl (fun K hK => ?_) (AllReadyH.nil)
      go_simp
      refine (HC2.out _).mono ?_; rintro e0 w5 ⟨a2, k2, rfl, hs2, hb⟩
      have HS2 := Lib.hid hs2
      clear hs2
      replace HX := Lib.hid (HX.out.below (by simp) hb)
      replace HPk := Lib.hid (HPk.out.later hb)
      replace HAs := Lib.hid (HAs.out.trans (Aside.of_all hb))
      replace HS0 := Lib.hid (sl_keep HS0.out hb)
      replace HS1 := Lib.hid (sl_keep HS1.out hb)
      clear hb
      try go_wp2_with fail
      refine hK.out _ _ ⟨HX.out.c 1 (by simp), HX.out.c 2 (by simp)⟩ (fun hHeld => ?_)
      clear hK K
      try simp only [Act.put, List.setIfInBounds_toArray, List.set_cons_zero, List.set_cons_succ]
      refine wpAnyH_ready (rs := [7]) (by kernel_rfl) (by simp) ?_
      refine AllReadyH.cons (o := { dst := some 42, op := Op.buildSlice 190 3 #[(0, Operand.tmp 35), (1, Operand.tmp 38), (2, Operand.tmp 41)], type := 190, pos := "rec.go:100", after := #[{ on := 0, ground := Ground.data }, { on := 3, ground := Ground.data }, { on := 6, ground := Ground.data }], guard := none }) rfl (fun K hK => ?_) (AllReadyH.nil)
      go_simp
      have hb : Below w5.heap.size w5 (w5.alloc (.cells #[.slice a0 T.length k0, .slice a1 2 k1, .slice a2 2 k2] 28)) := (Below.refl _ _).alloc (Nat.le_refl _) _
      replace HX := Lib.hid (HX.out.below (by simp) hb)
      replace HPk := Lib.hid (HPk.out.later hb)
      replace HAs := Lib.hid (HAs.out.trans (Aside.of_all hb))
      replace HS0 := Lib.hid (sl_keep HS0.out hb)
      replace HS1 := Lib.hid (sl_keep HS1.out hb)
      replace HS2 := Lib.hid (sl_keep HS2.out hb)
      clear hb
      have HCc := Lib.hid (concat_any (w := (w5.alloc (.cells #[.slice a0 T.length k0, .slice a1 2 k1, .slice a2 2 k2] 28))) (g := w5.heap.size) (lo := 0) (hi := (w5.alloc (.cells #[.slice a0 T.length k0, .slice a1 2 k1, .slice a2 2 k2] 28)).heap.size) (n := 3) (c0 := 3) (ls := [T, two t, two c]) rfl (by decide) (by simp) (Nat.le_refl _) (by simp [two]; omega) (fun j hj => by
        match j, hj with
        | 0, _ => exact ⟨a0, k0, by simp [go_sem], HS0.out⟩
        | 1, _ => exact ⟨a1, k1, by simp [go_sem, two], HS1.out⟩
        | 2, _ => exact ⟨a2, k2, by simp [go_sem, two], HS2.out⟩))
      refine hK.out _ _ ⟨HX.out.c 1 (by simp), HX.out.c 2 (by simp)⟩ (fun hHeld => ?_)
      clear hK K
      try simp only [Act.put, List.setIfInBounds_toArray, List.set_cons_zero, List.set_cons_succ]
      refine wpAnyH_ready (rs := [8]) (by kernel_rfl) (by simp) ?_
      refine AllReadyH.cons (o := { dst := some 43, op := Op.call { callee := Callee.value (Operand.func 131), args := #[Operand.tmp 42], argTypes := #[190] }, type := 28, pos := "rec.go:100", after := #[{ on := 7, ground := Ground.data }, { on := 6, ground := Ground.chain }], guard := none }) rfl (fun K hK => ?_) (AllReadyH.nil)
      go_simp
      refine HCc.out.mono ?_; rintro e0 w6 ⟨v6, rfl, ho, hb⟩
      have HO := Lib.hid ho
      have HAs0 := Lib.hid HAs.out
      clear ho HCc HS0 HS1 HS2
      replace HX := Lib.hid (HX.out.below (by simp) hb)
      replace HPk := Lib.hid (HPk.out.later hb)
      replace HAs := Lib.hid (HAs.out.trans (Aside.of_all hb))
      clear hb
      try go_wp2_with fail
      refine hK.out _ _ ⟨HX.out.c 1 (by simp), HX.out.c 2 (by simp)⟩ (fun hHeld => ?_)
      clear hK K
      try simp only [Act.put, List.setIfInBounds_toArray, List.set_cons_zero, List.set_cons_succ]
      refine wpAnyH_take (i := 9) (oi := { dst := some 6, op := Op.assign (Operand.tmp 43), type := 28, pos := "rec.go:100", after := #[{ on := 8, ground := Ground.data }, { on := 8, ground := Ground.chain }, { on := 0, ground := Ground.phase }, { on := 1, ground := Ground.phase }, { on := 2, ground := Ground.phase }, { on := 3, ground := Ground.phase }, { on := 4, ground := Ground.phase }, { on := 5, ground := Ground.phase }, { on := 6, ground := Ground.phase }, { on := 7, ground := Ground.phase }, { on := 8, ground := Ground.phase }], guard := none }) (v := ?_) rfl (by kernel_rfl) (by kernel_rfl) (by kernel_rfl) (fun _ _ _ h => h) (Or.inl ⟨by rfl, ?_⟩) (by assumption) ?_
      rotate_left 1
      · intro w hSw; (try dsimp only at hSw); go_simp; try (with_reducible rfl)
      try simp only [Act.put, List.setIfInBounds_toArray, List.set_cons_zero, List.set_cons_succ]
      refine wpAnyH_take (i := 10) (oi := { dst := some 7, op := Op.assign (Operand.const (Value.int IntKind.i64 0)), type := 29, pos := "rec.go:100", after := #[{ on := 9, ground := Ground.chain }, { on := 0, ground := Ground.phase }, { on := 1, ground := Ground.phase }, { on := 2, ground := Ground.phase }, { on := 3, ground := Ground.phase }, { on := 4, ground := Ground.phase }, { on := 5, ground := Ground.phase }, { on := 6, ground := Ground.phase }, { on := 7, ground := Ground.phase }, { on := 8, ground := Ground.phase }, { on := 9, ground := Ground.phase }], guard := none }) (v := ?_) rfl (by kernel_rfl) (by kernel_rfl) (by kernel_rfl) (fun _ _ _ h => h) (Or.inl ⟨by rfl, ?_⟩) (by assumption) ?_
      rotate_left 1
      · intro w hSw; (try dsimp only at hSw); go_simp; try (with_reducible rfl)
      try simp only [Act.put, List.setIfInBounds_toArray, List.set_cons_zero, List.set_cons_succ]
      refine wpAnyH_done (by kernel_rfl) ?_ _
      clear hHeld
      go_wp2_with fail
      go_ret2
      rw [← HXv.out]
      exact ⟨_, rfl, HO.out.mono HAs0.out.size, HPk.out, HAs.out⟩
    · have tE : (E != 0) = true := by simpa using hE0
      rw [if_pos hE0] at HXv
      obtain ⟨rfl, rfl⟩ := hKE hE0
      go_wp2_with fail
      go_ret2
      rw [← HXv.out]
      exact ⟨_, rfl, OwnB.nil _ _, HPk.out, HAs.out⟩
  · obtain ⟨E, hE⟩ : ∃ E, askE n t c = E := ⟨_, rfl⟩
    unfold askW at HXv
    rw [hE] at HAk HXv hA
    rw [if_pos hA] at HXv
    have tE : (E != 0) = true := by simpa using hA
    clear hE hA
    go_enter Tryz.func124, Tryz.ntmps124
    go_wp2_with fail
    refine HM.out.mono ?_; rintro e0 w1 ⟨rfl, hp1, ha1⟩
    replace HX := Lib.hid (HX.out.aside (by simp) ha1 hgp)
    have HPk := Lib.hid hp1
    have HAs := Lib.hid (HA0.out.trans ha1)
    have c0 : w1.cell? ⟨g, 0, none⟩ = some (.string (bs n)) := HX.out.c 0 (by simp)
    have c1 : w1.cell? ⟨g, 1, none⟩ = some (.int .i64 t) := HX.out.c 1 (by simp)
    have c2 : w1.cell? ⟨g, 2, none⟩ = some (.int .i64 c) := HX.out.c 2 (by simp)
    clear hp1 ha1 HM HA0
    go_wp2_with fail
    refine (HAk.out _).mono ?_; rintro e0 w2 ⟨rfl, hb⟩
    replace HPk := Lib.hid (HPk.out.later hb)
    replace HAs := Lib.hid (HAs.out.trans (Aside.of_all hb))
    clear hb c0 c1 c2
    go_wp2_with fail
    go_ret2
    rw [← HXv.out]
    exact ⟨_, rfl, OwnB.nil _ _, HPk.out, HAs.out⟩
end Go.Proofs.YteegekpanadmkaaGreat

/-
  Acts that came in: types, places, whether these are places as they are, data.
-/
namespace Go.Proofs.YteegekpanadmkaaGreat
open Go.RowKit Go.Shelf
set_option linter.unusedVariables false
set_option maxRecDepth 100000

/-- A type, a number, whether it is a place as it is, data. -/
structure AQ where
  t : Int
  a : Int
  r : Bool
  d : List UInt8

end Go.Proofs.YteegekpanadmkaaGreat

/-
  What is written is read as it was; plainly.
-/
namespace Go.Proofs.YteegekpanadmkaaGreat
open Go.RowKit Go.Shelf
set_option linter.unusedVariables false
set_option maxRecDepth 100000

theorem toldE_rd {b : List UInt8} {K : KK} {e : Nat} {P : KK} (h : Inv b K e P) {ls : List (List UInt8)} (hs : Shorts ls) :
    ∀ d k, k + d = hdn K ls → ∀ part, b.length ≤ part → StandE (b ++ told K ls) part (b.length + pos ls k) (ls.drop k) (b.length + (told K ls).length) := by
  have hll := hdn_le K ls
  intro d
  induction d with
  | zero =>
    intro k hk part hp
    have hkh : k = hdn K ls := by omega
    subst hkh
    rcases Nat.lt_or_ge (hdn K ls) ls.length with hlt | hge
    · obtain ⟨x, hx⟩ := hdn_stop hlt
      have hx2 := good_lt h.good hx
      have hxe := h.ahead _ (plc_mem hx)
      obtain ⟨p1, p2⟩ := ptr_pb hx2
      have htd : told K ls = wire (ls.take (hdn K ls)) ++ [UInt8.ofNat (192 + x / 256), UInt8.ofNat (x % 256)] := by unfold told restb; rw [hx]; rfl
      have hpl : pos ls (hdn K ls) = (wire (ls.take (hdn K ls))).length := rfl
      have g0 : (b ++ told K ls)[b.length + pos ls (hdn K ls)]? = some (UInt8.ofNat (192 + x / 256)) := by
        rw [htd, List.getElem?_append_right (by omega), Nat.add_sub_cancel_left, hpl, List.getElem?_append_right (Nat.le_refl _), Nat.sub_self]; rfl
      have g1 : (b ++ told K ls)[b.length + pos ls (hdn K ls) + 1]? = some (UInt8.ofNat (x % 256)) := by
        rw [htd, List.getElem?_append_right (by omega), show b.length + pos ls (hdn K ls) + 1 - b.length = pos ls (hdn K ls) + 1 by omega, hpl, List.getElem?_append_right (by omega), show (wire (ls.take (hdn K ls))).length + 1 - (wire (ls.take (hdn K ls))).length = 1 by omega]; rfl
      obtain ⟨i0, g0⟩ := List.getElem?_eq_some_iff.mp g0
      obtain ⟨i1, g1⟩ := List.getElem?_eq_some_iff.mp g1
      have hen : b.length + (told K ls).length = b.length + pos ls (hdn K ls) + 2 := by rw [htd, List.length_append, hpl]; simp; omega
      rw [hen]
      exact .lead (to := x) i1 (by rw [g0]; exact p2) (by rw [g0, g1]; exact p1) (by have := h.last; have : x < e := hxe; omega) ((h.tails _ x (shorts_drop hs _) (plc_mem hx)).more _)
    · have hke : hdn K ls = ls.length := by omega
      have htd : told K ls = wire ls ++ [0] := by
        unfold told restb
        rw [hke, List.take_length, List.drop_length]
        show wire ls ++ (match plc K [0] with | some x => pb x | none => [0]) = _
        rw [good_root h.good]
      rw [hke, List.drop_length]
      have hpl : pos ls ls.length = (wire ls).length := by unfold pos; rw [List.take_length]
      have g0 : (b ++ told K ls)[b.length + pos ls ls.length]? = some 0 := by
        rw [htd, List.getElem?_append_right (by omega), Nat.add_sub_cancel_left, hpl, List.getElem?_append_right (Nat.le_refl _), Nat.sub_self]; rfl
      obtain ⟨i0, g0⟩ := List.getElem?_eq_some_iff.mp g0
      have hen : b.length + (told K ls).length = b.length + pos ls ls.length + 1 := by rw [htd, List.length_append, hpl]; simp; omega
      rw [hen]
      exact .zero i0 (by rw [g0]; rfl)
  | succ d ih =>
    intro k hk part hp
    have hkl : k < ls.length := by omega
    have e : ls.drop k = ls[k] :: ls.drop (k + 1) := List.drop_eq_getElem_cons hkl
    have h63 := hs.1 ls[k] (List.getElem_mem hkl)
    rw [e]
    have hcut : ((b ++ told K ls).drop (b.length + pos ls k)).take (1 + ls[k].length) = wire [ls[k]] := by
      have h1 : ls.take (hdn K ls) = ls.take k ++ (ls[k] :: (ls.drop (k + 1)).take d) := by
        rw [← hk, List.take_add, e, List.take_succ_cons]
      unfold told
      rw [h1, wire_app, List.append_assoc]
      rw [show b.length + pos ls k = b.length + (wire (ls.take k)).length from rfl, List.drop_append, List.drop_eq_nil_of_le (by omega), List.nil_append, Nat.add_sub_cancel_left, List.drop_left]
      rw [show ls[k] :: (ls.drop (k + 1)).take d = [ls[k]] ++ (ls.drop (k + 1)).take d from rfl, wire_app, List.append_assoc]
      rw [List.take_left' (by simp [wire]; omega)]
    have hpe : b.length + pos ls k + (1 + ls[k].length) = b.length + pos ls (k + 1) := by rw [pos_succ hkl]; omega
    refine .label h63.1 h63.2 ?_ hcut (by rw [hpe]; exact ih (k + 1) (by omega) part hp)
    have := congrArg List.length hcut
    rw [List.length_take, List.length_drop, List.length_append] at this
    rw [List.length_append]
    simp only [wire, List.length_append, List.length_cons, List.length_nil] at this
    omega

/-- From p up to q these pieces stand. -/
inductive Lies (b : List UInt8) : Nat → List Pc → Nat → Prop
  | nil {p : Nat} (h : p ≤ b.length) : Lies b p [] p
  | byt {p q : Nat} {x : List UInt8} {L : List Pc} (h : (b.drop p).take x.length = x) (h2 : p + x.length ≤ b.length) (r : Lies b (p + x.length) L q) : Lies b p ((x, false) :: L) q
  | nam {p q en : Nat} {ls : List (List UInt8)} {L : List Pc} (hs : Shorts ls) (h : StandE b p p ls en) (r : Lies b en L q) : Lies b p ((nm ls, true) :: L) q

theorem Lies.more {b : List UInt8} {p q : Nat} {L : List Pc} (h : Lies b p L q) (c : List UInt8) : Lies (b ++ c) p L q := by
  induction h with
  | nil h => exact .nil (by rw [List.length_append]; omega)
  | byt h h2 _ ih =>
    refine .byt ?_ (by rw [List.length_append]; omega) ih
    rw [List.drop_append_of_le_length (by omega), List.take_append_of_le_length (by rw [List.length_drop]; omega)]
    exact h
  | nam hs h _ ih => exact .nam hs (h.more c) ih

theorem Lies.le {b : List UInt8} {p q : Nat} {L : List Pc} (h : Lies b p L q) : p ≤ q ∧ q ≤ b.length := by
  induction h with
  | nil h => exact ⟨Nat.le_refl _, h⟩
  | byt h h2 _ ih => omega
  | nam hs h _ ih => have := h.lt; omega

/-- What stands is read. -/
theorem lies_go {b : List UInt8} {s : Nat} : ∀ (L : List Pc) (ks : List PK) (p q : Nat) (acc : List Pc), Lies b p L q → Fits ks L → goP (fun p => rda b p) b s q ks p acc = .ok (acc ++ L)
  | [], ks, p, q, acc, h, hf => by
    cases hf
    cases h
    rw [goP, if_neg (by omega), List.append_nil]
  | x :: L, ks, p, q, acc, h, hf => by
    have hle := h.le
    cases hf with
    | @fix n y ks' L' hn h2 =>
      cases h with
      | byt h3 h4 r =>
        have hr := r.le
        have e : stepP (fun p => rda b p) b s q p (.fix n) = .ok (y, false) (p + y.length) := by
          simp only [stepP, cutP]
          rw [← hn, if_neg (by omega), Nat.add_sub_cancel_left, h3]
        rw [goP, e]
        simp only
        rw [lies_go L ks' _ q _ r h2, List.append_assoc]
        rfl
    | @nam y ks' L' hn h2 =>
      cases h with
      | @nam _ _ en ls _ hs h3 r =>
        have hr := r.le
        have hl := h3.lt
        have e : stepP (fun p => rda b p) b s q p .nam = .ok (nm ls, true) en := by
          simp only [stepP]
          rw [rdaE h3 hs, if_neg (by omega), if_neg (by simp), if_neg (show ¬ q < en by omega)]
        rw [goP, e]
        simp only
        rw [lies_go L ks' _ q _ r h2, List.append_assoc]
        rfl
    | @txt y hn =>
      cases h with
      | byt h3 h4 r =>
        cases r with
        | nil h5 =>
          have e := tx_step (fun p => rda b p) b s p (p + y.length) (by omega) (by omega)
          rw [Nat.add_sub_cancel_left, h3, if_pos hn] at e
          rw [goP, e]
          simp only
          rw [goP, if_neg (by omega)]
    | @rst y =>
      cases h with
      | byt h3 h4 r =>
        cases r with
        | nil h5 =>
          have e : stepP (fun p => rda b p) b s (p + y.length) p .rst = .ok (y, false) (p + y.length) := by
            simp only [stepP, cutP]
            rw [if_neg (by omega), Nat.add_sub_cancel_left, h3]
          rw [goP, e]
          simp only
          rw [goP, if_neg (by omega)]

/-- Data that stand are read as they were. -/
theorem lies_rdR {b : List UInt8} {t : Int} {d : List UInt8} {L : List Pc} {a m : Nat} (hs : spl t d = .ok L) (h : Lies b a L (a + m)) (hm : m ≤ 65535) : rdR b a m t = .ok L ∧ joined L = d := by
  obtain ⟨h0, h1, _, hf, hj⟩ := spl_ok hs
  have hle := h.le
  refine ⟨?_, hj⟩
  unfold rdR
  rw [if_neg (by omega), if_neg (by omega), if_neg (by omega), Int.toNat_natCast, Int.toNat_natCast, lies_go L (kinds t) a (a + m) [] h hf, List.nil_append]

end Go.Proofs.YteegekpanadmkaaGreat

/-
  What was written and its reading: rows, round for round.
-/
namespace Go.Proofs.YteegekpanadmkaaGreat
open Go.RowKit Go.Shelf
set_option linter.unusedVariables false
set_option linter.unusedSimpArgs false
set_option maxRecDepth 100000

section
variable {w w' : World} {B B' : Nat} {e e' : TypeId} {k k' n n' : Nat} {v v' : Value} {xs ys : List Value} {G : Nat → Prop}
theorem row_aside (h : w.ownsRow B e k v n xs) (ha : Aside G w w') (hG : ∀ b, v.ownBlock = some b → ¬ G b) : w'.ownsRow B e k v n xs := by
  have hlt := World.ownsRow.lt h
  refine ⟨h.1, ?_⟩
  rcases h.2 with h2 | ⟨g, cap, cur, hv, hg, hh, r⟩
  · exact .inl h2
  · exact .inr ⟨g, cap, cur, hv, hg, (ha.block g (by subst hv; exact (hlt g rfl).2) (hG g (by rw [hv]; rfl))).trans hh, r⟩
theorem row_below (h : w.ownsRow B e k v n xs) (hb : Below w.heap.size w w') : w'.ownsRow B e k v n xs := row_aside (G := fun _ => False) h (Aside.of_all hb) fun _ _ h => h
theorem row_shape (h : w.ownsRow B e k v n xs) : ∃ a c, v = .slice a n c := by
  rcases h.2 with ⟨rfl, h0⟩ | ⟨g, cap, cur, rfl, _⟩
  · exact ⟨none, 0, by rw [h0]⟩
  · exact ⟨_, cap, rfl⟩
theorem row_apart (h : w.ownsRow B e k v n xs) (h' : w.ownsRow B' e' k' v' n' ys) (he : e ≠ e') (b : Nat) (h1 : v.ownBlock = some b) (h2 : v'.ownBlock = some b) : False := by
  rcases h.2 with ⟨rfl, _⟩ | ⟨g, cap, cur, rfl, _, hg, _⟩
  · simp [Value.ownBlock] at h1
  · rcases h'.2 with ⟨rfl, _⟩ | ⟨g', cap', cur', rfl, _, hg', _⟩
    · simp [Value.ownBlock] at h2
    · simp [Value.ownBlock] at h1 h2
      subst h1; subst h2
      rw [hg] at hg'
      injection hg' with hg'
      injection hg' with _ h3
      exact he h3
end

section
variable {w wr w' : World} {p bm B0 e : Nat} {v7 v8 v9 v10 : Value} {b : List UInt8} {q s : List Nat} {n : List AQ} {K : KK}

end

end Go.Proofs.YteegekpanadmkaaGreat
