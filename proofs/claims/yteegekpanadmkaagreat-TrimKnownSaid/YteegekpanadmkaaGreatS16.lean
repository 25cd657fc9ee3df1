/-
  Two stretches of a row that are in order made one: one of them is a single entry.
-/
import Derived.Test.YteegekpanadmkaaGreatS15
import Derived.Test.YteegekpanadmkaaGreatS10
namespace Go.Proofs.YteegekpanadmkaaGreat
open Go.RowKit Go.Shelf
set_option linter.unusedVariables false
set_option linter.unusedSimpArgs false
set_option maxRecDepth 100000

/-- Two stretches side by side that are in order, the first one's entries all later ones. -/
structure Two (κ : Nat → Int) (M : Nat) (A Z : List Nat) : Prop where
  a : Ups κ A
  z : Ups κ Z
  o : Ovr A Z
  ma : ∀ x ∈ A, x < M
  mz : ∀ x ∈ Z, x < M

/-- Which of those in order go ahead of one, and which behind. -/
def Cut (κ : Nat → Int) (L : List Nat) (x o i j : Nat) : Prop := ∀ t y, L[t]? = some y → (o + t < i → Bef κ y x) ∧ (j ≤ o + t → Bef κ x y)
theorem Cut.start (κ : Nat → Int) (L : List Nat) (x o : Nat) : Cut κ L x o o (o + L.length) := fun t y h => ⟨fun h1 => by omega, fun h1 => by have := (List.getElem?_eq_some_iff.mp h).1; omega⟩
theorem Cut.up {κ : Nat → Int} {L : List Nat} {x o i j h y : Nat} (hc : Cut κ L x o i j) (hU : Ups κ L) (hy : L[h]? = some y) (hb : Bef κ y x) : Cut κ L x o (o + h + 1) j := fun t u hu => ⟨fun h1 => by
    obtain ⟨l1, e1⟩ := List.getElem?_eq_some_iff.mp hu
    obtain ⟨l2, e2⟩ := List.getElem?_eq_some_iff.mp hy
    have := hU.behind (i := t) (j := h) (by omega) l2 (x := x) (by rw [e2]; exact hb)
    rwa [e1] at this, (hc t u hu).2⟩
theorem Cut.down {κ : Nat → Int} {L : List Nat} {x o i j h y : Nat} (hc : Cut κ L x o i j) (hU : Ups κ L) (hy : L[h]? = some y) (hb : Bef κ x y) : Cut κ L x o i (o + h) := fun t u hu => ⟨(hc t u hu).1, fun h1 => by
    obtain ⟨l1, e1⟩ := List.getElem?_eq_some_iff.mp hu
    obtain ⟨l2, e2⟩ := List.getElem?_eq_some_iff.mp hy
    have := hU.ahead (i := h) (j := t) (by omega) l1 (x := x) (by rw [e2]; exact hb)
    rwa [e1] at this⟩
theorem Cut.parts {κ : Nat → Int} {L : List Nat} {x o k : Nat} (hc : Cut κ L x o (o + k) (o + k)) (hk : k ≤ L.length) : ∃ U V, L = U ++ V ∧ U.length = k ∧ (∀ y ∈ U, Bef κ y x) ∧ ∀ y ∈ V, Bef κ x y := by
  refine ⟨L.take k, L.drop k, (List.take_append_drop _ _).symm, by simp; omega, fun y hy => ?_, fun y hy => ?_⟩
  · obtain ⟨t, ht, e⟩ := List.mem_iff_getElem.mp hy
    have h1 : t < k := by simp at ht; omega
    have h2 : L[t]? = some y := by rw [← e, List.getElem_take]; exact List.getElem?_eq_getElem _
    exact (hc t y h2).1 (by omega)
  · obtain ⟨t, ht, e⟩ := List.mem_iff_getElem.mp hy
    have h2 : L[k + t]? = some y := by rw [← e, List.getElem_drop]; exact List.getElem?_eq_getElem _
    exact (hc (k + t) y h2).2 (by omega)

set_option maxHeartbeats 1000000 in
theorem symL_any {w : World} {B b g c N M : Nat} {κ : Nat → Int} {P Z S : List Nat} {x : Nat} (h : Pr w B b g c N (P ++ (x :: (Z ++ S)))) (hN : N ≤ 1000000) (hK : Kn w b M κ) (hT : Two κ M [x] Z) (hg : ¬ b = g) (a m z : Nat) (ha : P.length = a) (hm : a + 1 = m) (hz : m + Z.length = z) :
    Calls Tryz.prog 90 #[.slice (some ⟨g, 0, none⟩) N c, .int .i64 a, .int .i64 m, .int .i64 z, lessF] w (PrPost w B b g c N (fun l => ∃ C, l = P ++ (C ++ S) ∧ Mrg κ C ([x] ++ Z))) := by
  have hlen := h.len
  rw [List.length_append, List.length_cons, List.length_append] at hlen
  have hcap := h.cap
  have v1 : (m : Int) - (a : Int) = 1 := by omega
  have w1 : IntKind.i64.wrap ((m : Int) - (a : Int)) = 1 := by rw [IntWalk.i64_in _ (by omega)]; omega
  have H := Lib.hid (And.intro h (And.intro hK hT))
  have hzN : z ≤ N := by omega
  have hma : a < N := by omega
  have HZ := Lib.hid hz
  have HM := Lib.hid hm
  have HA := Lib.hid ha
  clear h hK hT hz hm ha hlen
  unfold lessF
  go_enter Tryz.func90, Tryz.ntmps90
  go_wp2
  clear v1 w1
  go_loopg [10, 11] (z - m) (fun kx s t wr => ∃ i j : Nat, j ≤ i + kx ∧ i ≤ j ∧ j ≤ z ∧ m ≤ i ∧ s = .int .i64 i ∧ t = .int .i64 j ∧ Hid (Cut κ Z x m i j ∧ Pr wr B b g c N (P ++ (x :: (Z ++ S))) ∧ Aside (fun k => k = g) w wr))
  case atStart => exact ⟨m, z, by have := HZ.out; omega, by have := HZ.out; omega, Nat.le_refl _, Nat.le_refl _, rfl, rfl, Lib.hid ⟨by rw [← HZ.out]; exact Cut.start κ Z x m, H.out.1, Aside.refl _ _⟩⟩
  case round =>
    obtain ⟨i, j, hk, hij, hjz, hmi, rfl, rfl, HH⟩ := hrel
    by_cases hlt : i < j
    · obtain ⟨hh, hhd⟩ : ∃ k, k = (i + j) / 2 := ⟨_, rfl⟩
      have hd : ((i : Int) + (j : Int)) / 2 = (hh : Int) := by omega
      have h1 : i ≤ hh := by omega
      have h2 : hh < j := by omega
      have HD := Lib.hid hhd
      obtain ⟨t, ht⟩ : ∃ t, m + t = hh := ⟨hh - m, by omega⟩
      have HT := Lib.hid ht
      have htz : t < Z.length := by have := HZ.out; omega
      obtain ⟨y, hy⟩ : ∃ y, Z[t]? = some y := ⟨_, List.getElem?_eq_getElem htz⟩
      have c1 := HH.out.2.1.at_ a hma x (get_mid _ _ _ _ HA.out)
      have c2 := HH.out.2.1.at_ hh (by omega) y (by
        rw [List.getElem?_append_right (by have := HA.out; have := HM.out; omega), show hh - P.length = t + 1 by have := HA.out; have := HM.out; omega, List.getElem?_cons_succ, List.getElem?_append_left htz]; exact hy)
      have hyZ : y ∈ Z := List.mem_of_getElem? hy
      have hyx : y < x := H.out.2.2.o x (by simp) y hyZ
      have hL : ∀ n, Calls Tryz.prog 59 #[pe b y, pe b x] (wr.drewN n) fun e w' => e = .returned (.int .i64 (cmpV (κ y) (κ x))) ∧ ∃ q, w' = (wr.drewN n).drewN q := fun n =>
        less_any (N := M) (H.out.2.1.aside (HH.out.2.2.trans (Aside.drewN _ n)) hg) y x (H.out.2.2.mz y hyZ) (H.out.2.2.ma x (by simp))
      obtain ⟨r, hr⟩ : ∃ r, cmpV (κ y) (κ x) = r := ⟨_, rfl⟩
      rw [hr] at hL
      have HL := Lib.hid hL
      have HB := Lib.hid (show r < 0 ↔ Bef κ y x by rw [← hr, cmpV_neg, bef_lt hyx])
      have HY := Lib.hid (show y ≠ x ∧ Z[t]? = some y from ⟨by omega, hy⟩)
      have b1 : hh < N := by omega
      clear hhd ht htz hy hyZ hyx hL hr
      by_cases hr0 : r < 0
      · unfold pe at HL c1 c2
        go_wp2
        go_quiet ((go_at_call 59; exact Calls.quiet_of (HL.out _)))
        go_wp2
        go_roundg (j - (hh + 1))
        case rel =>
          have hc := HH.out.1.up H.out.2.2.z HY.out.2 (HB.out.mp hr0)
          rw [HT.out] at hc
          exact ⟨hh + 1, j, by omega, by omega, hjz, by omega, by go_num, rfl, Lib.hid ⟨hc, HH.out.2.1, HH.out.2.2.trans (Aside.drewN _ _)⟩⟩
        case measure => omega
      · unfold pe at HL c1 c2
        go_wp2
        go_quiet ((go_at_call 59; exact Calls.quiet_of (HL.out _)))
        go_wp2
        go_roundg (hh - i)
        case rel =>
          have hc := HH.out.1.down H.out.2.2.z HY.out.2 (Bef.total HY.out.1 (fun h => by have := HB.out.mpr h; omega))
          rw [HT.out] at hc
          exact ⟨i, hh, by omega, by omega, by omega, by omega, rfl, rfl, Lib.hid ⟨hc, HH.out.2.1, HH.out.2.2.trans (Aside.drewN _ _)⟩⟩
        case measure => omega
    · obtain rfl : i = j := by omega
      obtain ⟨k, hk⟩ : ∃ k, m + k = i := ⟨i - m, by omega⟩
      obtain ⟨Z1, Z2, hZ12, hZ1, hz1, hz2⟩ := Cut.parts (k := k) (by rw [hk]; exact HH.out.1) (by have := HZ.out; omega)
      subst hZ12
      have HZC := Lib.hid (And.intro hZ1 (And.intro hz1 hz2))
      obtain ⟨i1, hi1⟩ : ∃ k, k + 1 = i := ⟨i - 1, by have := HM.out; omega⟩
      have v1 : (i : Int) - 1 = (i1 : Int) := by omega
      have w1 : IntKind.i64.wrap ((i : Int) - 1) = (i1 : Int) := by rw [IntWalk.i64_in _ (by omega)]; omega
      have HI := Lib.hid (And.intro hi1 hk)
      have hi1N : i1 + 1 ≤ N := by omega
      clear hZ1 hz1 hz2 hi1 hk
      go_wp2
      go_loopg [13] k (fun kx s wr => ∃ (q : Nat) (U V : List Nat), q + V.length = i1 ∧ V.length ≤ kx ∧ s = .int .i64 q ∧ Hid (Z1 = U ++ V ∧ a + U.length = q ∧ Pr wr B b g c N (P ++ (U ++ (x :: (V ++ (Z2 ++ S))))) ∧ Aside (fun k => k = g) w wr))
      case atStart =>
        have := HI.out
        have := HM.out
        have := HZC.out.1
        exact ⟨a, [], Z1, by omega, by omega, rfl, Lib.hid ⟨rfl, rfl, by have := HH.out.2.1; simpa using this, HH.out.2.2⟩⟩
      case round =>
        obtain ⟨q, U, V, hq, hV, rfl, HV⟩ := hrel
        clear v1 w1
        by_cases hlq : q < i1
        · obtain ⟨y, V1, rfl⟩ : ∃ y l, V = y :: l := by
            cases V with
            | nil => simp at hq; omega
            | cons y l => exact ⟨y, l, rfl⟩
          obtain ⟨l1, l2, l3, l4⟩ := HV.out
          have eL : P ++ (U ++ (x :: (y :: V1 ++ (Z2 ++ S)))) = (P ++ U) ++ x :: ([] ++ y :: (V1 ++ (Z2 ++ S))) := by simp
          rw [eL] at l3
          obtain ⟨s1, _, s2, s3, s4⟩ := swap_two (P ++ U) [] (V1 ++ (Z2 ++ S)) x y q (q + 1) (by have := HA.out; rw [List.length_append]; omega) (by have := HA.out; rw [List.length_append]; simp; omega)
          have v1 : (i1 : Int) + 1 = (i : Int) := by have := HI.out.1; omega
          obtain ⟨q1, hq1⟩ : ∃ k, q + 1 = k := ⟨_, rfl⟩
          rw [hq1] at s1 s3 s4
          have b1 : q < N := by omega
          have b2 : q1 < N := by omega
          have c1 := l3.at_ q b1 x s2
          have c2 := l3.at_ q1 b2 y s3
          have c3 := (l3.set q y).at_ q1 b2 y s4
          have f1 := l3.fz q
          have f2 := (l3.set q y).fz q1
          have HR := Lib.hid (show Pr ((wr.setCell ⟨g, q, none⟩ (pe b y)).setCell ⟨g, q1, none⟩ (pe b x)) B b g c N (P ++ ((U ++ [y]) ++ (x :: (V1 ++ (Z2 ++ S))))) ∧ Aside (fun k => k = g) w ((wr.setCell ⟨g, q, none⟩ (pe b y)).setCell ⟨g, q1, none⟩ (pe b x)) from
            ⟨by have := (l3.set q y).set q1 x; rw [s1] at this; simpa using this, (l4.trans (Aside.setCell _ _ rfl)).trans (Aside.setCell _ _ rfl)⟩)
          have HU := Lib.hid (And.intro l1 (And.intro l2 (And.intro hq1 (And.intro hq hV))))
          have w2 : IntKind.i64.wrap ((q : Int) + 1) = (q1 : Int) := by rw [IntWalk.i64_in _ (by omega)]; omega
          have v2 : (q : Int) + 1 = (q1 : Int) := by omega
          have w3 : IntKind.i64.wrap (q1 : Int) = (q1 : Int) := IntWalk.i64_in _ (by omega)
          have v3 : (i : Int) - 1 = (i1 : Int) := by omega
          clear v1 l1 l2 l3 l4 s1 s2 s3 s4 eL hq1 hq hV
          unfold pe at *
          go_wp2
          go_region
          go_wp2
          go_roundg V1.length
          case rel =>
            obtain ⟨l1, l2, l3, l4, l5⟩ := HU.out
            simp at l4
            exact ⟨q1, U ++ [y], V1, by omega, Nat.le_refl _, rfl, Lib.hid ⟨by rw [l1]; simp, by simp; omega, HR.out.1, HR.out.2.trans (Aside.drewN _ 1)⟩⟩
          case measure => have := HU.out.2.2.2.2; simp at this; omega
        · have v3 : (i : Int) - 1 = (i1 : Int) := by have := HI.out.1; omega
          go_wp2
          go_end0
          obtain ⟨l1, l2, l3, l4⟩ := HV.out
          obtain rfl : V = [] := List.length_eq_zero_iff.mp (by omega)
          rw [List.append_nil] at l1
          subst l1
          refine ⟨rfl, _, ⟨Z1 ++ x :: Z2, ?_, ?_⟩, l3, l4⟩
          · simp
          · exact Mrg.put0 H.out.2.2.z HZC.out.2.1 HZC.out.2.2
end Go.Proofs.YteegekpanadmkaaGreat

/-
  Two stretches of a row that are in order made one: the second is a single entry.
-/
namespace Go.Proofs.YteegekpanadmkaaGreat
open Go.RowKit Go.Shelf
set_option linter.unusedVariables false
set_option linter.unusedSimpArgs false
set_option maxRecDepth 100000

set_option maxHeartbeats 1000000 in
theorem symR_any {w : World} {B b g c N M : Nat} {κ : Nat → Int} {P Z S : List Nat} {x : Nat} (h : Pr w B b g c N (P ++ (Z ++ (x :: S)))) (hN : N ≤ 1000000) (hK : Kn w b M κ) (hT : Two κ M Z [x]) (hg : ¬ b = g) (h1 : 2 ≤ Z.length) (a m z : Nat) (ha : P.length = a) (hm : a + Z.length = m) (hz : m + 1 = z) :
    Calls Tryz.prog 90 #[.slice (some ⟨g, 0, none⟩) N c, .int .i64 a, .int .i64 m, .int .i64 z, lessF] w (PrPost w B b g c N (fun l => ∃ C, l = P ++ (C ++ S) ∧ Mrg κ C (Z ++ [x]))) := by
  have hlen := h.len
  rw [List.length_append, List.length_append, List.length_cons] at hlen
  have hcap := h.cap
  obtain ⟨d, hd⟩ : ∃ d, a + d = m := ⟨Z.length, hm⟩
  have v1 : (m : Int) - (a : Int) = (d : Int) := by omega
  have w1 : IntKind.i64.wrap ((m : Int) - (a : Int)) = (d : Int) := by rw [IntWalk.i64_in _ (by omega)]; omega
  have d1 : ¬ (d : Int) = 1 := by omega
  have d2 : ((d : Int) == 1) = false := by simpa using d1
  have v2 : (z : Int) - (m : Int) = 1 := by omega
  have w2 : IntKind.i64.wrap ((z : Int) - (m : Int)) = 1 := by rw [IntWalk.i64_in _ (by omega)]; omega
  have H := Lib.hid (And.intro h (And.intro hK hT))
  have hmN : m < N := by omega
  have HZ := Lib.hid hm
  have HA := Lib.hid ha
  clear h hK hT hz hm ha hlen h1 hd
  unfold lessF
  go_enter Tryz.func90, Tryz.ntmps90
  go_wp2
  clear v1 w1 d1 d2 v2 w2
  go_loopg [14, 15] (m - a) (fun kx s t wr => ∃ i j : Nat, j ≤ i + kx ∧ i ≤ j ∧ j ≤ m ∧ a ≤ i ∧ s = .int .i64 i ∧ t = .int .i64 j ∧ Hid (Cut κ Z x a i j ∧ Pr wr B b g c N (P ++ (Z ++ (x :: S))) ∧ Aside (fun k => k = g) w wr))
  case atStart => exact ⟨a, m, by have := HZ.out; omega, by have := HZ.out; omega, Nat.le_refl _, Nat.le_refl _, rfl, rfl, Lib.hid ⟨by rw [← HZ.out]; exact Cut.start κ Z x a, H.out.1, Aside.refl _ _⟩⟩
  case round =>
    obtain ⟨i, j, hk, hij, hjm, hai, rfl, rfl, HH⟩ := hrel
    by_cases hlt : i < j
    · obtain ⟨hh, hhd⟩ : ∃ k, k = (i + j) / 2 := ⟨_, rfl⟩
      have hd : ((i : Int) + (j : Int)) / 2 = (hh : Int) := by omega
      have h1 : i ≤ hh := by omega
      have h2 : hh < j := by omega
      obtain ⟨t, ht⟩ : ∃ t, a + t = hh := ⟨hh - a, by omega⟩
      have HT := Lib.hid ht
      have htz : t < Z.length := by have := HZ.out; omega
      obtain ⟨y, hy⟩ : ∃ y, Z[t]? = some y := ⟨_, List.getElem?_eq_getElem htz⟩
      have c1 := HH.out.2.1.at_ m hmN x (by rw [← List.append_assoc]; exact get_mid _ _ _ _ (by have := HA.out; have := HZ.out; rw [List.length_append]; omega))
      have c2 := HH.out.2.1.at_ hh (by omega) y (by
        rw [List.getElem?_append_right (by have := HA.out; omega), show hh - P.length = t by have := HA.out; omega, List.getElem?_append_left htz]; exact hy)
      have hyZ : y ∈ Z := List.mem_of_getElem? hy
      have hyx : x < y := H.out.2.2.o y hyZ x (by simp)
      have hL : ∀ n, Calls Tryz.prog 59 #[pe b x, pe b y] (wr.drewN n) fun e w' => e = .returned (.int .i64 (cmpV (κ x) (κ y))) ∧ ∃ q, w' = (wr.drewN n).drewN q := fun n =>
        less_any (N := M) (H.out.2.1.aside (HH.out.2.2.trans (Aside.drewN _ n)) hg) x y (H.out.2.2.mz x (by simp)) (H.out.2.2.ma y hyZ)
      obtain ⟨r, hr⟩ : ∃ r, cmpV (κ x) (κ y) = r := ⟨_, rfl⟩
      rw [hr] at hL
      have HL := Lib.hid hL
      have HB := Lib.hid (show r < 0 ↔ Bef κ x y by rw [← hr, cmpV_neg, bef_lt hyx])
      have HY := Lib.hid (show x ≠ y ∧ Z[t]? = some y from ⟨by omega, hy⟩)
      have b1 : hh < N := by omega
      clear hhd ht htz hy hyZ hyx hL hr
      by_cases hr0 : r < 0
      · unfold pe at HL c1 c2
        go_wp2
        go_quiet ((go_at_call 59; exact Calls.quiet_of (HL.out _)))
        go_wp2
        go_roundg (hh - i)
        case rel =>
          have hc := HH.out.1.down H.out.2.2.a HY.out.2 (HB.out.mp hr0)
          rw [HT.out] at hc
          exact ⟨i, hh, by omega, by omega, by omega, by omega, rfl, rfl, Lib.hid ⟨hc, HH.out.2.1, HH.out.2.2.trans (Aside.drewN _ _)⟩⟩
        case measure => omega
      · unfold pe at HL c1 c2
        have hd0 : decide (r < 0) = false := by simpa using hr0
        go_wp2
        go_quiet ((go_at_call 59; exact Calls.quiet_of (HL.out _)))
        go_wp2
        go_roundg (j - (hh + 1))
        case rel =>
          have hc := HH.out.1.up H.out.2.2.a HY.out.2 (Bef.total HY.out.1 (fun h => by have := HB.out.mpr h; omega))
          rw [HT.out] at hc
          exact ⟨hh + 1, j, by omega, by omega, hjm, by omega, by go_num, rfl, Lib.hid ⟨hc, HH.out.2.1, HH.out.2.2.trans (Aside.drewN _ _)⟩⟩
        case measure => omega
    · obtain rfl : i = j := by omega
      obtain ⟨k, hk⟩ : ∃ k, a + k = i := ⟨i - a, by omega⟩
      obtain ⟨Z1, Z2, hZ12, hZ1, hz1, hz2⟩ := Cut.parts (k := k) (by rw [hk]; exact HH.out.1) (by have := HZ.out; omega)
      subst hZ12
      have HZC := Lib.hid (And.intro hZ1 (And.intro hz1 (And.intro hz2 hk)))
      clear hZ1 hz1 hz2 hk
      go_wp2
      go_loopg [17] (m - i) (fun kx s wr => ∃ (q : Nat) (U V : List Nat), q ≤ m ∧ i + U.length = q ∧ U.length ≤ kx ∧ s = .int .i64 q ∧ Hid (Z2 = U ++ V ∧ Pr wr B b g c N (P ++ (Z1 ++ (U ++ (x :: (V ++ S))))) ∧ Aside (fun k => k = g) w wr))
      case atStart =>
        have := HZC.out.1
        have := HZC.out.2.2.2
        have := HZ.out
        rw [List.length_append] at this
        exact ⟨m, Z2, [], Nat.le_refl _, by omega, by omega, rfl, Lib.hid ⟨by simp, by have := HH.out.2.1; simpa using this, HH.out.2.2⟩⟩
      case round =>
        obtain ⟨q, U, V, hqm, hq, hV, rfl, HV⟩ := hrel
        by_cases hlq : i < q
        · obtain ⟨U1, y, rfl⟩ : ∃ l y, U = l ++ [y] := by
            rcases List.eq_nil_or_concat U with rfl | ⟨l, y, rfl⟩
            · simp at hq; omega
            · exact ⟨l, y, by simp⟩
          obtain ⟨l1, l3, l4⟩ := HV.out
          obtain ⟨q1, hq1⟩ : ∃ k, k + 1 = q := ⟨q - 1, by omega⟩
          have eL : P ++ (Z1 ++ (U1 ++ [y] ++ (x :: (V ++ S)))) = (P ++ (Z1 ++ U1)) ++ y :: ([] ++ x :: (V ++ S)) := by simp
          rw [eL] at l3
          have hq2 : i + U1.length = q1 := by simp at hq; omega
          have hl1 : (P ++ (Z1 ++ U1)).length = q1 := by have := HA.out; have := HZC.out.1; have := HZC.out.2.2.2; rw [List.length_append, List.length_append]; omega
          obtain ⟨_, s1, s2, s3, _⟩ := swap_two (P ++ (Z1 ++ U1)) [] (V ++ S) y x q1 q hl1 (by rw [hl1]; exact hq1)
          have b1 : q < N := by omega
          have b2 : q1 < N := by omega
          have c1 := l3.at_ q1 b2 y s2
          have c2 := l3.at_ q b1 x s3
          have c3 := (l3.set q y).at_ q1 b2 y (by rw [List.getElem?_set, if_neg (by omega)]; exact s2)
          have f1 := l3.fz q
          have f2 := (l3.set q y).fz q1
          have HR := Lib.hid (show Pr ((wr.setCell ⟨g, q, none⟩ (pe b y)).setCell ⟨g, q1, none⟩ (pe b x)) B b g c N (P ++ (Z1 ++ (U1 ++ (x :: ((y :: V) ++ S))))) ∧ Aside (fun k => k = g) w ((wr.setCell ⟨g, q, none⟩ (pe b y)).setCell ⟨g, q1, none⟩ (pe b x)) from
            ⟨by have := (l3.set q y).set q1 x; rw [s1] at this; simpa using this, (l4.trans (Aside.setCell _ _ rfl)).trans (Aside.setCell _ _ rfl)⟩)
          have HU := Lib.hid (And.intro l1 (And.intro hq2 (And.intro hq1 hV)))
          have w2 : IntKind.i64.wrap ((q : Int) - 1) = (q1 : Int) := by rw [IntWalk.i64_in _ (by omega)]; omega
          have v2 : (q : Int) - 1 = (q1 : Int) := by omega
          have w3 : IntKind.i64.wrap (q1 : Int) = (q1 : Int) := IntWalk.i64_in _ (by omega)
          clear l1 l3 l4 s1 s2 s3 eL hq1 hq2 hq hV hl1
          unfold pe at *
          go_wp2
          go_region
          go_wp2
          go_roundg U1.length
          case rel =>
            obtain ⟨l1, l2, l3, l4⟩ := HU.out
            exact ⟨q1, U1, y :: V, by omega, l2, Nat.le_refl _, rfl, Lib.hid ⟨by rw [l1]; simp, HR.out.1, HR.out.2.trans (Aside.drewN _ 1)⟩⟩
          case measure => have := HU.out.2.2.2; simp at this; omega
        · go_wp2
          go_end0
          obtain ⟨l1, l3, l4⟩ := HV.out
          obtain rfl : U = [] := List.length_eq_zero_iff.mp (by omega)
          rw [List.nil_append] at l1
          subst l1
          refine ⟨rfl, _, ⟨Z1 ++ x :: Z2, ?_, ?_⟩, l3, l4⟩
          · simp
          · exact Mrg.put H.out.2.2.a HZC.out.2.1 HZC.out.2.2.1
end Go.Proofs.YteegekpanadmkaaGreat

/-
  Two stretches of a row that are in order made one.
-/
namespace Go.Proofs.YteegekpanadmkaaGreat
open Go.RowKit Go.Shelf
set_option linter.unusedVariables false
set_option linter.unusedSimpArgs false
set_option maxRecDepth 100000

theorem Two.fst {κ : Nat → Int} {M : Nat} {A A' Z Z' : List Nat} (h : Two κ M (A ++ A') (Z ++ Z')) : Two κ M A Z :=
  ⟨(Ups.app.mp h.a).1, (Ups.app.mp h.z).1, fun x hx y hy => h.o x (by simp [hx]) y (by simp [hy]), fun x hx => h.ma x (by simp [hx]), fun x hx => h.mz x (by simp [hx])⟩
theorem Two.snd {κ : Nat → Int} {M : Nat} {A A' Z Z' : List Nat} (h : Two κ M (A ++ A') (Z ++ Z')) : Two κ M A' Z' :=
  ⟨(Ups.app.mp h.a).2.1, (Ups.app.mp h.z).2.1, fun x hx y hy => h.o x (by simp [hx]) y (by simp [hy]), fun x hx => h.ma x (by simp [hx]), fun x hx => h.mz x (by simp [hx])⟩
theorem Two.self {κ : Nat → Int} {M : Nat} {A Z : List Nat} (h : Two κ M A Z) (h0 : A.length = 0 ∨ Z.length = 0) : Mrg κ (A ++ Z) (A ++ Z) := by
  rcases h0 with h0 | h0
  · rw [List.length_eq_zero_iff.mp h0]; exact ⟨List.Perm.refl _, h.z⟩
  · rw [List.length_eq_zero_iff.mp h0, List.append_nil]; exact ⟨List.Perm.refl _, h.a⟩

/-- Where the halves' border is looked for. -/
structure Rng (a m z p s0 r0 : Nat) : Prop where
  h1 : a ≤ s0
  h2 : s0 ≤ r0
  h3 : r0 ≤ m
  h4 : m + r0 ≤ p + 1
  h5 : p + 1 ≤ z + s0
  h6 : s0 = a ∨ p + 1 = z + s0
  h7 : r0 = m ∨ m + r0 = p + 1
/-- What is known of it: ahead of s the first one's go ahead, from r on the second one's. -/
def Sch (κ : Nat → Int) (A Z : List Nat) (a m p s0 r0 s r : Nat) : Prop := ∀ k x y, s0 ≤ k → k < r0 → A[k - a]? = some x → Z[p - k - m]? = some y → (k < s → Bef κ x y) ∧ (r ≤ k → Bef κ y x)
theorem Sch.start (κ : Nat → Int) (A Z : List Nat) (a m p s0 r0 : Nat) : Sch κ A Z a m p s0 r0 s0 r0 := fun k x y h1 h2 _ _ => ⟨fun h => by omega, fun h => by omega⟩
section
variable {κ : Nat → Int} {A Z : List Nat} {a m z p s0 r0 s r : Nat}
theorem Sch.up (h : Sch κ A Z a m p s0 r0 s r) (hR : Rng a m z p s0 r0) (hA : Ups κ A) (hZ : Ups κ Z) {k x y : Nat} (h1 : s0 ≤ k) (h2 : k < r0) (hx : A[k - a]? = some x) (hy : Z[p - k - m]? = some y) (hb : Bef κ x y) : Sch κ A Z a m p s0 r0 (k + 1) r := fun k' x' y' g1 g2 gx gy => by
  refine ⟨fun hk => ?_, (h k' x' y' g1 g2 gx gy).2⟩
  obtain ⟨l1, rfl⟩ := List.getElem?_eq_some_iff.mp hx
  obtain ⟨l2, rfl⟩ := List.getElem?_eq_some_iff.mp hy
  obtain ⟨l3, rfl⟩ := List.getElem?_eq_some_iff.mp gx
  obtain ⟨l4, rfl⟩ := List.getElem?_eq_some_iff.mp gy
  have := hR.h4
  exact hA.behind (i := k' - a) (j := k - a) (by omega) l1 (hZ.ahead (i := p - k - m) (j := p - k' - m) (by omega) l4 hb)
theorem Sch.down (h : Sch κ A Z a m p s0 r0 s r) (hR : Rng a m z p s0 r0) (hA : Ups κ A) (hZ : Ups κ Z) {k x y : Nat} (h1 : s0 ≤ k) (h2 : k < r0) (hx : A[k - a]? = some x) (hy : Z[p - k - m]? = some y) (hb : Bef κ y x) : Sch κ A Z a m p s0 r0 s k := fun k' x' y' g1 g2 gx gy => by
  refine ⟨(h k' x' y' g1 g2 gx gy).1, fun hk => ?_⟩
  obtain ⟨l1, rfl⟩ := List.getElem?_eq_some_iff.mp hx
  obtain ⟨l2, rfl⟩ := List.getElem?_eq_some_iff.mp hy
  obtain ⟨l3, rfl⟩ := List.getElem?_eq_some_iff.mp gx
  obtain ⟨l4, rfl⟩ := List.getElem?_eq_some_iff.mp gy
  have := hR.h4
  exact hZ.behind (i := p - k' - m) (j := p - k - m) (by omega) l2 (hA.ahead (i := k - a) (j := k' - a) (by omega) l3 hb)
/-- The halves. -/
theorem Sch.parts (h : Sch κ A Z a m p s0 r0 s s) (hR : Rng a m z p s0 r0) (hA : Ups κ A) (hZ : Ups κ Z) (hm : a + A.length = m) (hz : m + Z.length = z) (h1 : s0 ≤ s) (h2 : s ≤ r0) :
    ∃ A1 A2 Z1 Z2, A = A1 ++ A2 ∧ Z = Z1 ++ Z2 ∧ a + A1.length = s ∧ m + Z1.length = p + 1 - s ∧ (∀ x ∈ A1, ∀ y ∈ Z2, Bef κ x y) ∧ ∀ x ∈ Z1, ∀ y ∈ A2, Bef κ x y := by
  obtain ⟨r1, r2, r3, r4, r5, r6, r7⟩ := hR
  refine ⟨A.take (s - a), A.drop (s - a), Z.take (p + 1 - s - m), Z.drop (p + 1 - s - m), (List.take_append_drop _ _).symm, (List.take_append_drop _ _).symm, by rw [List.length_take]; omega, by rw [List.length_take]; omega, fun x hx y hy => ?_, fun x hx y hy => ?_⟩
  · obtain ⟨i, hi, e⟩ := List.mem_iff_getElem.mp hx
    obtain ⟨j, hj, f⟩ := List.mem_iff_getElem.mp hy
    rw [List.length_take] at hi
    rw [List.length_drop] at hj
    rw [List.getElem_take] at e
    rw [List.getElem_drop] at f
    have hs : s0 < s := by omega
    have l1 : s - 1 - a < A.length := by omega
    have l2 : p - (s - 1) - m < Z.length := by omega
    have hb := (h (s - 1) _ _ (by omega) (by omega) (List.getElem?_eq_getElem l1) (List.getElem?_eq_getElem l2)).1 (by omega)
    rw [← e, ← f]
    exact hA.behind (i := i) (by omega) l1 (hZ.ahead (i := p - (s - 1) - m) (by omega) (by omega) hb)
  · obtain ⟨i, hi, e⟩ := List.mem_iff_getElem.mp hx
    obtain ⟨j, hj, f⟩ := List.mem_iff_getElem.mp hy
    rw [List.length_take] at hi
    rw [List.length_drop] at hj
    rw [List.getElem_take] at e
    rw [List.getElem_drop] at f
    have hs : s < r0 := by omega
    have l1 : s - a < A.length := by omega
    have l2 : p - s - m < Z.length := by omega
    have hb := (h s _ _ (by omega) (by omega) (List.getElem?_eq_getElem l1) (List.getElem?_eq_getElem l2)).2 (by omega)
    rw [← e, ← f]
    exact hZ.behind (i := i) (by omega) l2 (hA.ahead (i := s - a) (by omega) (by omega) hb)
end

/-- What merging two such stretches comes to. -/
def SymC (n : Nat) : Prop := ∀ {w : World} {B b g c N M : Nat} {κ : Nat → Int} {P A Z S : List Nat}, Pr w B b g c N (P ++ (A ++ (Z ++ S))) → N ≤ 1000000 → Kn w b M κ → Two κ M A Z → ¬ b = g → A.length + Z.length ≤ n → 0 < A.length → 0 < Z.length → ∀ a m z : Nat, P.length = a → a + A.length = m → m + Z.length = z →
    Calls Tryz.prog 90 #[.slice (some ⟨g, 0, none⟩) N c, .int .i64 a, .int .i64 m, .int .i64 z, lessF] w (PrPost w B b g c N (fun l => ∃ C, l = P ++ (C ++ S) ∧ Mrg κ C (A ++ Z)))

/-- What comes of the halves. -/
theorem sym_states {w wr : World} {B b g c N M n : Nat} {κ : Nat → Int} {P A1 A2 Z1 Z2 S : List Nat} (ih : SymC n) (hN : N ≤ 1000000) (hK : Kn w b M κ) (hT : Two κ M (A1 ++ A2) (Z1 ++ Z2)) (hg : ¬ b = g) (hn : (A1 ++ A2).length + (Z1 ++ Z2).length ≤ n + 1) (h2 : 2 ≤ (A1 ++ A2).length) (k2 : 2 ≤ (Z1 ++ Z2).length)
    (a m z i e md : Nat) (ha : P.length = a) (hi : a + A1.length = i) (hm : i + A2.length = m) (he : m + Z1.length = e) (hz : e + Z2.length = z) (hmd : i + Z1.length = md) (hmd2 : md = (a + z) / 2)
    (hp : Pr wr B b g c N (P ++ ((A1 ++ A2) ++ ((Z1 ++ Z2) ++ S)))) (hs : Aside (fun k => k = g) w wr) (hX : ∀ x ∈ A1, ∀ y ∈ Z2, Bef κ x y) (hY : ∀ x ∈ Z1, ∀ y ∈ A2, Bef κ x y) :
    ∃ T1 T2 T3 : World → Prop,
      (i < md → i < m → Calls Tryz.prog 97 #[.slice (some ⟨g, 0, none⟩) N c, .int .i64 i, .int .i64 m, .int .i64 e, lessF] wr fun x w' => x = .returned (.tuple #[]) ∧ T1 w') ∧
      (¬ (i < md ∧ i < m) → T1 wr) ∧
      (∀ W, T1 W → a < i → i < md → Calls Tryz.prog 90 #[.slice (some ⟨g, 0, none⟩) N c, .int .i64 a, .int .i64 i, .int .i64 md, lessF] W fun x w' => x = .returned (.tuple #[]) ∧ T2 w') ∧
      (∀ W, T1 W → ¬ (a < i ∧ i < md) → T2 W) ∧
      (∀ W, T2 W → i < m → e < z → Calls Tryz.prog 90 #[.slice (some ⟨g, 0, none⟩) N c, .int .i64 md, .int .i64 e, .int .i64 z, lessF] W fun x w' => x = .returned (.tuple #[]) ∧ T3 w') ∧
      (∀ W, T2 W → ¬ (i < m ∧ e < z) → T3 W) ∧
      ∀ W, T3 W → PrPost w B b g c N (fun l => ∃ C, l = P ++ (C ++ S) ∧ Mrg κ C ((A1 ++ A2) ++ (Z1 ++ Z2))) (.returned (.tuple #[])) W := by
  rw [List.length_append, List.length_append] at hn
  rw [List.length_append] at h2 k2
  refine ⟨fun W => Pr W B b g c N (P ++ (A1 ++ (Z1 ++ (A2 ++ (Z2 ++ S))))) ∧ Aside (fun k => k = g) w W, fun W => ∃ C, Mrg κ C (A1 ++ Z1) ∧ Pr W B b g c N (P ++ (C ++ (A2 ++ (Z2 ++ S)))) ∧ Aside (fun k => k = g) w W,
    fun W => ∃ C D, Mrg κ C (A1 ++ Z1) ∧ Mrg κ D (A2 ++ Z2) ∧ Pr W B b g c N (P ++ (C ++ (D ++ S))) ∧ Aside (fun k => k = g) w W, ?_, ?_, ?_, ?_, ?_, ?_, ?_⟩
  · intro c1 c2
    refine (rotate_any (P := P ++ A1) (X := A2) (Y := Z1) (S := Z2 ++ S) (by simpa using hp) hN i m e (by rw [List.length_append]; omega) hm he (by omega) (by omega) lessF).mono ?_
    rintro x w' ⟨rfl, l, rfl, k1, k2⟩
    exact ⟨rfl, by simpa using k1, hs.trans k2⟩
  · intro h
    refine ⟨?_, hs⟩
    have e0 : A2.length = 0 ∨ Z1.length = 0 := by omega
    rcases e0 with e0 | e0
    · have := List.length_eq_zero_iff.mp e0
      subst this
      simpa using hp
    · have := List.length_eq_zero_iff.mp e0
      subst this
      simpa using hp
  · rintro W ⟨k1, k2⟩ c1 c2
    refine (ih (P := P) (A := A1) (Z := Z1) (S := A2 ++ (Z2 ++ S)) k1 hN (hK.aside k2 hg) hT.fst hg (by omega) (by omega) (by omega) a i md ha hi hmd).mono ?_
    rintro x w' ⟨rfl, l, ⟨C, rfl, hC⟩, k3, k4⟩
    exact ⟨rfl, C, hC, k3, k2.trans k4⟩
  · rintro W ⟨k1, k2⟩ h
    exact ⟨A1 ++ Z1, hT.fst.self (by omega), by simpa using k1, k2⟩
  · rintro W ⟨C, hC, k1, k2⟩ c1 c2
    have hCl := hC.1.length_eq
    rw [List.length_append] at hCl
    refine (ih (P := P ++ C) (A := A2) (Z := Z2) (S := S) (by simpa using k1) hN (hK.aside k2 hg) hT.snd hg (by omega) (by omega) (by omega) md e z (by rw [List.length_append]; omega) (by omega) hz).mono ?_
    rintro x w' ⟨rfl, l, ⟨D, rfl, hD⟩, k3, k4⟩
    exact ⟨rfl, C, D, hC, hD, by simpa using k3, k2.trans k4⟩
  · rintro W ⟨C, hC, k1, k2⟩ h
    exact ⟨C, A2 ++ Z2, hC, hT.snd.self (by omega), by simpa using k1, k2⟩
  · rintro W ⟨C, D, hC, hD, k1, k2⟩
    exact ⟨rfl, _, ⟨C ++ D, by simp, Mrg.halves hC hD hT.a hT.z hX hY⟩, k1, k2⟩

set_option maxHeartbeats 8000000 in
theorem symM_any {w : World} {B b g c N M n : Nat} {κ : Nat → Int} {P A Z S : List Nat} (ih : SymC n) (h : Pr w B b g c N (P ++ (A ++ (Z ++ S)))) (hN : N ≤ 1000000) (hK : Kn w b M κ) (hT : Two κ M A Z) (hg : ¬ b = g) (hn : A.length + Z.length ≤ n + 1) (hA2 : 2 ≤ A.length) (hZ2 : 2 ≤ Z.length)
    (a m z : Nat) (ha : P.length = a) (hm : a + A.length = m) (hz : m + Z.length = z) :
    Calls Tryz.prog 90 #[.slice (some ⟨g, 0, none⟩) N c, .int .i64 a, .int .i64 m, .int .i64 z, lessF] w (PrPost w B b g c N (fun l => ∃ C, l = P ++ (C ++ S) ∧ Mrg κ C (A ++ Z))) := by
  have hlen := h.len
  rw [List.length_append, List.length_append, List.length_append] at hlen
  have hcap := h.cap
  obtain ⟨d, hd⟩ : ∃ d, a + d = m := ⟨_, hm⟩
  obtain ⟨f, hf⟩ : ∃ f, m + f = z := ⟨_, hz⟩
  have w1 : IntKind.i64.wrap ((m : Int) - (a : Int)) = (d : Int) := by rw [IntWalk.i64_in _ (by omega)]; omega
  have v1 : (m : Int) - (a : Int) = (d : Int) := by omega
  have d1 : ¬ (d : Int) = 1 := by omega
  have d2 : ((d : Int) == 1) = false := by simpa using d1
  have w2 : IntKind.i64.wrap ((z : Int) - (m : Int)) = (f : Int) := by rw [IntWalk.i64_in _ (by omega)]; omega
  have v2 : (z : Int) - (m : Int) = (f : Int) := by omega
  have f1 : ¬ (f : Int) = 1 := by omega
  have f2 : ((f : Int) == 1) = false := by simpa using f1
  obtain ⟨md, hmd⟩ : ∃ k, k = (a + z) / 2 := ⟨_, rfl⟩
  have v3 : ((a : Int) + (z : Int)) / 2 = (md : Int) := by omega
  obtain ⟨nn, hnn⟩ : ∃ k, k = md + m := ⟨_, rfl⟩
  have v4 : (md : Int) + (m : Int) = (nn : Int) := by omega
  have w4 : IntKind.i64.wrap ((md : Int) + (m : Int)) = (nn : Int) := by rw [IntWalk.i64_in _ (by omega)]; omega
  obtain ⟨p, hp⟩ : ∃ k, k + 1 = nn := ⟨nn - 1, by omega⟩
  have v5 : (nn : Int) - 1 = (p : Int) := by omega
  have w5 : IntKind.i64.wrap ((nn : Int) - 1) = (p : Int) := by rw [IntWalk.i64_in _ (by omega)]; omega
  obtain ⟨s1, hs1⟩ : ∃ s1 : Nat, (md < m → s1 + z = nn) ∧ (¬ md < m → s1 = a) := by
    by_cases h : md < m
    · exact ⟨nn - z, fun _ => by omega, fun h2 => absurd h h2⟩
    · exact ⟨a, fun h2 => absurd h2 h, fun _ => rfl⟩
  have v6 : md < m → (nn : Int) - (z : Int) = (s1 : Int) := fun h => by have := hs1.1 h; omega
  have H := Lib.hid (And.intro h (And.intro hK hT))
  have hzN : z ≤ N := by omega
  have HN := Lib.hid (And.intro hmd (And.intro hnn (And.intro hp hs1)))
  have HZ := Lib.hid (And.intro ha (And.intro hm (And.intro hz (And.intro hA2 (And.intro hZ2 hn)))))
  clear h hK hT hz hm ha hlen hd hf hmd hnn hp hs1 hA2 hZ2 hn
  unfold lessF
  go_enter Tryz.func90, Tryz.ntmps90
  obtain ⟨r0, hr0, hr1⟩ : ∃ r0 : Nat, (md < m → r0 = md) ∧ (¬ md < m → r0 = m) := by
    by_cases h : md < m
    · exact ⟨md, fun _ => rfl, fun h2 => absurd h h2⟩
    · exact ⟨m, fun h2 => absurd h2 h, fun _ => rfl⟩
  have hR : Rng a m z p s1 r0 := by
    obtain ⟨k1, k2, k3, k4, k5⟩ := HN.out
    obtain ⟨l1, l2, l3, l4, l5, l6⟩ := HZ.out
    by_cases h : md < m
    · have := hr0 h; have := k4 h
      exact ⟨by omega, by omega, by omega, by omega, by omega, by omega, by omega⟩
    · have := hr1 h; have := k5 h
      exact ⟨by omega, by omega, by omega, by omega, by omega, by omega, by omega⟩
  have HR := Lib.hid hR
  have HR0 := Lib.hid (And.intro hr0 hr1)
  have hrN : r0 ≤ N := by have := hR.h3; have := HZ.out; omega
  clear hr0 hr1 hR
  by_cases hmm : md < m
  have v7 := v6 hmm
  have HE := Lib.hid (show (.int .i64 (md : Int) : Value) = .int .i64 (r0 : Int) by rw [HR0.out.1 hmm])
  have HS1 := Lib.hid (show (.int .i64 (s1 : Int) : Value) = .int .i64 (s1 : Int) from rfl)
  clear v6
  focus (try go_wp2)
  clear v7
  rotate_left 1
  have HE := Lib.hid (show (.int .i64 (m : Int) : Value) = .int .i64 (r0 : Int) by rw [HR0.out.2 hmm])
  have HS1 := Lib.hid (show (.int .i64 (a : Int) : Value) = .int .i64 (s1 : Int) by rw [HN.out.2.2.2.2 hmm])
  clear v6
  focus (try go_wp2)
  rotate_left 1
  iterate 2
    · clear v1 v2 v3 v4 v5 w1 w2 w4 w5 d1 d2 f1 f2 hmm
      go_loopg [20, 21] r0 (fun kx s t wr => ∃ i j : Nat, j ≤ i + kx ∧ s1 ≤ i ∧ i ≤ j ∧ j ≤ r0 ∧ s = .int .i64 i ∧ t = .int .i64 j ∧ Hid (Sch κ A Z a m p s1 r0 i j ∧ Pr wr B b g c N (P ++ (A ++ (Z ++ S))) ∧ Aside (fun k => k = g) w wr))
      case atStart => exact ⟨s1, r0, by omega, Nat.le_refl _, HR.out.h2, Nat.le_refl _, by first | rfl | exact HS1.out, HE.out, Lib.hid ⟨Sch.start κ A Z a m p s1 r0, H.out.1, Aside.refl _ _⟩⟩
      case round =>
        obtain ⟨i, j, hk, hsi, hij, hjr, rfl, rfl, HH⟩ := hrel
        by_cases hlt : i < j
        · obtain ⟨hh, hhd⟩ : ∃ k, k = (i + j) / 2 := ⟨_, rfl⟩
          have hd : ((i : Int) + (j : Int)) / 2 = (hh : Int) := by omega
          have h1 : i ≤ hh := by omega
          have h2 : hh < j := by omega
          obtain ⟨r1, r2, r3, r4, r5, r6, r7⟩ := HR.out
          obtain ⟨z1, z2, z3, z4, z5, z6⟩ := HZ.out
          obtain ⟨q, hq⟩ : ∃ q, q + hh = p := ⟨p - hh, by omega⟩
          have lx : hh - a < A.length := by omega
          have ly : p - hh - m < Z.length := by omega
          obtain ⟨x, hx⟩ : ∃ x, A[hh - a]? = some x := ⟨_, List.getElem?_eq_getElem lx⟩
          obtain ⟨y, hy⟩ : ∃ y, Z[p - hh - m]? = some y := ⟨_, List.getElem?_eq_getElem ly⟩
          have c1 := HH.out.2.1.at_ hh (by omega) x (by
            rw [List.getElem?_append_right (by omega), show hh - P.length = hh - a by omega, List.getElem?_append_left lx]; exact hx)
          have c2 := HH.out.2.1.at_ q (by omega) y (by
            rw [List.getElem?_append_right (by omega), List.getElem?_append_right (by omega), show q - P.length - A.length = p - hh - m by omega, List.getElem?_append_left ly]; exact hy)
          have hxA : x ∈ A := List.mem_of_getElem? hx
          have hyZ : y ∈ Z := List.mem_of_getElem? hy
          have hyx : y < x := H.out.2.2.o x hxA y hyZ
          have hL : ∀ n, Calls Tryz.prog 59 #[pe b y, pe b x] (wr.drewN n) fun e w' => e = .returned (.int .i64 (cmpV (κ y) (κ x))) ∧ ∃ q, w' = (wr.drewN n).drewN q := fun n =>
            less_any (N := M) (H.out.2.1.aside (HH.out.2.2.trans (Aside.drewN _ n)) hg) y x (H.out.2.2.mz y hyZ) (H.out.2.2.ma x hxA)
          obtain ⟨r, hr⟩ : ∃ r, cmpV (κ y) (κ x) = r := ⟨_, rfl⟩
          rw [hr] at hL
          have HL := Lib.hid hL
          have HB := Lib.hid (show r < 0 ↔ Bef κ y x by rw [← hr, cmpV_neg, bef_lt hyx])
          have HY := Lib.hid (show y ≠ x ∧ A[hh - a]? = some x ∧ Z[p - hh - m]? = some y from ⟨by omega, hx, hy⟩)
          have HAZ := Lib.hid (And.intro H.out.2.2.a H.out.2.2.z)
          have b1 : hh < N := by omega
          have b2 : q < N := by omega
          have w1 : IntKind.i64.wrap ((p : Int) - (hh : Int)) = (q : Int) := by rw [IntWalk.i64_in _ (by omega)]; omega
          have v1 : (p : Int) - (hh : Int) = (q : Int) := by omega
          have w2 : IntKind.i64.wrap (q : Int) = (q : Int) := IntWalk.i64_in _ (by omega)
          clear hhd hq hx hy hxA hyZ hyx hL hr r1 r2 r3 r4 r5 r6 r7 z1 z2 z3 z4 z5 z6 lx ly
          by_cases hr0 : r < 0
          · unfold pe at HL c1 c2
            go_wp2
            go_quiet ((go_at_call 59; exact Calls.quiet_of (HL.out _)))
            go_wp2
            go_roundg (hh - i)
            case rel => exact ⟨i, hh, by omega, hsi, h1, by omega, rfl, rfl, Lib.hid ⟨HH.out.1.down HR.out HAZ.out.1 HAZ.out.2 (by omega) (by omega) HY.out.2.1 HY.out.2.2 (HB.out.mp hr0), HH.out.2.1, HH.out.2.2.trans (Aside.drewN _ _)⟩⟩
            case measure => omega
          · unfold pe at HL c1 c2
            have hd0 : decide (r < 0) = false := by simpa using hr0
            go_wp2
            go_quiet ((go_at_call 59; exact Calls.quiet_of (HL.out _)))
            go_wp2
            go_roundg (j - (hh + 1))
            case rel => exact ⟨hh + 1, j, by omega, by omega, by omega, hjr, by go_num, rfl, Lib.hid ⟨HH.out.1.up HR.out HAZ.out.1 HAZ.out.2 (by omega) (by omega) HY.out.2.1 HY.out.2.2 (Bef.total HY.out.1 (fun h => by have := HB.out.mpr h; omega)), HH.out.2.1, HH.out.2.2.trans (Aside.drewN _ _)⟩⟩
            case measure => omega
        · obtain rfl : i = j := by omega
          obtain ⟨A1, A2, Z1, Z2, rfl, rfl, l1, l2, hX, hY⟩ := HH.out.1.parts HR.out H.out.2.2.a H.out.2.2.z HZ.out.2.1 HZ.out.2.2.1 hsi hjr
          have hR := HR.out
          obtain ⟨z1, z2, z3, z4, z5, z6⟩ := HZ.out
          obtain ⟨n1, n2, n3, n4⟩ := HN.out
          rw [List.length_append] at z2 z3
          have hj3 := hR.h3
          have hj4 := hR.h4
          obtain ⟨e, he⟩ : ∃ e, e + i = nn := ⟨nn - i, by omega⟩
          obtain ⟨T1, T2, T3, t1, t2, t3, t4, t5, t6, t7⟩ := sym_states ih hN H.out.2.1 H.out.2.2 hg z6 z4 z5 a m z i e md z1 l1 (by omega) (by omega) (by omega) (by omega) n1 HH.out.2.1 HH.out.2.2 hX hY
          have HR1 := Lib.hid t1
          have HR2 := Lib.hid t2
          have HR3 := Lib.hid t3
          have HR4 := Lib.hid t4
          have HR5 := Lib.hid t5
          have HR6 := Lib.hid t6
          have HR7 := Lib.hid t7
          unfold lessF at HR1 HR3 HR5
          have v1 : (nn : Int) - (i : Int) = (e : Int) := by omega
          have hme : i < md ↔ m < e := by omega
          have hde : i < m ↔ md < e := by omega
          have HI := Lib.hid (And.intro hme hde)
          have heN : e ≤ N := by omega
          clear t1 t2 t3 t4 t5 t6 t7 l1 l2 hX hY hR z1 z2 z3 z4 z5 z6 n1 n2 n3 n4 hj3 hj4 he hme hde hk hsi hij hjr hlt
          clear H HH HR HZ HN HR0 HE HS1 ih
          by_cases c1 : i < md <;> by_cases c2 : i < m <;> by_cases c3 : a < i <;> by_cases c4 : e < z
          iterate 16
            · first | (have e1 := HI.out.1.mp c1) | (have e1 := mt HI.out.1.mpr c1)
              first | (have e2 := HI.out.2.mp c2) | (have e2 := mt HI.out.2.mpr c2)
              first | (have hc := Lib.hid (HR1.out c1 c2); go_wp2_with fail; refine hc.out.mono ?_; rintro x wa ⟨rfl, ht⟩; have HT := Lib.hid ht; clear ht hc) | (have HT := Lib.hid (HR2.out (fun h => by first | exact c1 h.1 | exact c2 h.2)))
              first | (have hc := Lib.hid (HR3.out _ HT.out c3 c1); go_wp2_with fail; refine hc.out.mono ?_; rintro x wb ⟨rfl, ht⟩; have HT2 := Lib.hid ht; clear ht hc) | (have HT2 := Lib.hid (HR4.out _ HT.out (fun h => by first | exact c3 h.1 | exact c1 h.2)))
              first | (have hc := Lib.hid (HR5.out _ HT2.out c2 c4); go_wp2_with fail; refine hc.out.mono ?_; rintro x wc ⟨rfl, ht⟩; have HT3 := Lib.hid ht; clear ht hc) | (have HT3 := Lib.hid (HR6.out _ HT2.out (fun h => by first | exact c2 h.1 | exact c4 h.2)))
              go_wp2_with fail
              go_end0
              exact HR7.out _ HT3.out
end Go.Proofs.YteegekpanadmkaaGreat

/-
  A row of pointers in order, those of one kind as they stood.
-/
namespace Go.Proofs.YteegekpanadmkaaGreat
open Go.RowKit Go.Shelf
set_option linter.unusedVariables false
set_option linter.unusedSimpArgs false
set_option maxRecDepth 100000

theorem sym_any : ∀ n, SymC n
  | 0 => fun _ _ _ _ _ hn h1 _ => by omega
  | n + 1 => by
    rename_i w B b g c N M κ P A Z S
    intro h hN hK hT hg hn h1 h2 a m z ha hm hz
    by_cases e1 : A.length = 1
    · obtain ⟨x, rfl⟩ := List.length_eq_one_iff.mp e1
      exact symL_any (P := P) (Z := Z) (S := S) (x := x) h hN hK hT hg a m z ha hm hz
    · by_cases e2 : Z.length = 1
      · obtain ⟨x, rfl⟩ := List.length_eq_one_iff.mp e2
        exact symR_any (P := P) (Z := A) (S := S) (x := x) h hN hK hT hg (by omega) a m z ha hm hz
      · exact symM_any (P := P) (A := A) (Z := Z) (S := S) (sym_any n) h hN hK hT hg hn (by omega) (by omega) a m z ha hm hz

/-- Blocks of s entries, each in order. -/
inductive Bks (κ : Nat → Int) (s : Nat) : List Nat → List Nat → Prop
  | nil : Bks κ s [] []
  | cons {D Y C X : List Nat} (h : D.length = s) (hm : Mrg κ D Y) (r : Bks κ s C X) : Bks κ s (D ++ C) (Y ++ X)
theorem Bks.snoc {κ : Nat → Int} {s : Nat} {D Y C X : List Nat} (r : Bks κ s C X) (h : D.length = s) (hm : Mrg κ D Y) : Bks κ s (C ++ D) (X ++ Y) := by
  induction r with
  | nil => have := Bks.cons h hm (Bks.nil (κ := κ) (s := s)); simpa using this
  | cons h2 hm2 _ ih => rw [List.append_assoc, List.append_assoc]; exact .cons h2 hm2 ih
/-- Such blocks, and a last one of fewer. -/
def BksL (κ : Nat → Int) (s : Nat) (L l : List Nat) : Prop := ∃ C D X Y, L = C ++ D ∧ l = X ++ Y ∧ Bks κ s C X ∧ D.length < s ∧ Mrg κ D Y
theorem BksL.len {κ : Nat → Int} {s : Nat} {L l : List Nat} (h : BksL κ s L l) : L.length = l.length := by
  obtain ⟨C, D, X, Y, rfl, rfl, h1, _, h3⟩ := h
  have : C.length = X.length := by
    induction h1 with
    | nil => rfl
    | cons _ hm _ ih => rw [List.length_append, List.length_append, ih, hm.1.length_eq]
  rw [List.length_append, List.length_append, this, h3.1.length_eq]
theorem BksL.first {κ : Nat → Int} {s : Nat} {L l : List Nat} (h : BksL κ s L l) (hs : s ≤ L.length) : ∃ C L' Y l', L = C ++ L' ∧ l = Y ++ l' ∧ C.length = s ∧ Mrg κ C Y ∧ BksL κ s L' l' := by
  obtain ⟨C, D, X, Y, rfl, rfl, h1, h2, h3⟩ := h
  cases h1 with
  | nil => rw [List.length_append] at hs; simp at hs; omega
  | cons h hm r => exact ⟨_, _, _, _, by rw [List.append_assoc], by rw [List.append_assoc], h, hm, _, _, _, _, rfl, rfl, r, h2, h3⟩
theorem BksL.small {κ : Nat → Int} {s : Nat} {L l : List Nat} (h : BksL κ s L l) (h0 : 0 < s) (hs : L.length ≤ s) : Mrg κ L l := by
  by_cases h1 : s ≤ L.length
  · obtain ⟨C, L', Y, l', rfl, rfl, h2, h3, h4⟩ := h.first h1
    have := h4.len
    rw [List.length_append] at hs
    have e1 : L' = [] := List.length_eq_zero_iff.mp (by omega)
    have e2 : l' = [] := List.length_eq_zero_iff.mp (by rw [← this, e1]; rfl)
    subst e1; subst e2
    simpa using h3
  · obtain ⟨C, D, X, Y, rfl, rfl, k1, k2, k3⟩ := h
    cases k1 with
    | nil => exact k3
    | cons h hm r => rw [List.length_append, List.length_append] at h1; omega
theorem two_of {κ : Nat → Int} {M : Nat} {C1 C2 Y1 Y2 X1 X2 : List Nat} (hd : Dns (X1 ++ (Y1 ++ (Y2 ++ X2)))) (hM : ∀ x ∈ X1 ++ (Y1 ++ (Y2 ++ X2)), x < M) (h1 : Mrg κ C1 Y1) (h2 : Mrg κ C2 Y2) : Two κ M C1 C2 := by
  have k1 := (Dns.app.mp (Dns.app.mp hd).2.1).2.2
  exact ⟨h1.2, h2.2, (k1.sub (l' := Y1) (m' := Y2) (fun _ h => h) (fun x h => by simp [h])).perm h1.1 h2.1, fun x hx => hM x (by have := h1.1.mem_iff.mp hx; simp [this]), fun x hx => hM x (by have := h2.1.mem_iff.mp hx; simp [this])⟩
theorem mrg_two {κ : Nat → Int} {C C1 C2 Y1 Y2 : List Nat} (h : Mrg κ C (C1 ++ C2)) (h1 : Mrg κ C1 Y1) (h2 : Mrg κ C2 Y2) : Mrg κ C (Y1 ++ Y2) := ⟨h.1.trans (h1.1.append h2.1), h.2⟩

set_option maxHeartbeats 2000000 in
theorem stable_any {w : World} {B b g c N M : Nat} {κ : Nat → Int} {l : List Nat} (h : Pr w B b g c N l) (hN : N ≤ 100000) (hK : Kn w b M κ) (hM : ∀ x ∈ l, x < M) (hd : Dns l) (hg : ¬ b = g) :
    Calls Tryz.prog 78 #[.slice (some ⟨g, 0, none⟩) N c, .int .i64 N, lessF] w (PrPost w B b g c N (fun C => Mrg κ C l)) := by
  have hlen := h.len
  have H := Lib.hid (And.intro h (And.intro hK (And.intro hM hd)))
  have HL := Lib.hid hlen
  clear h hK hM hd hlen
  unfold lessF
  go_enter Tryz.func78, Tryz.ntmps78
  go_wp2
  go_loopg [7, 8] N (fun kx s t wr => ∃ (a q : Nat) (C R X : List Nat), N ≤ a + kx ∧ a ≤ N ∧ a + 20 = q ∧ s = .int .i64 a ∧ t = .int .i64 q ∧ Hid (l = X ++ R ∧ C.length = a ∧ Bks κ 20 C X ∧ Pr wr B b g c N (C ++ R) ∧ Aside (fun k => k = g) w wr))
  case atStart => exact ⟨0, 20, [], l, [], by omega, by omega, rfl, rfl, rfl, Lib.hid ⟨rfl, rfl, .nil, H.out.1, Aside.refl _ _⟩⟩
  case round =>
    obtain ⟨a, q, C, R, X, hk, haN, hq, rfl, rfl, HH⟩ := hrel
    obtain ⟨k1, k2, k3, k4, k5⟩ := HH.out
    have hRl : a + R.length = N := by have := k4.len; rw [List.length_append] at this; omega
    by_cases hlt : q ≤ N
    · obtain ⟨Y, R2, rfl, hY⟩ : ∃ U V, R = U ++ V ∧ U.length = 20 := ⟨R.take 20, R.drop 20, (List.take_append_drop _ _).symm, by simp; omega⟩
      have hM := H.out.2.2.1
      have hd := H.out.2.2.2
      rw [k1] at hM hd
      have HC := Lib.hid (insert_any (P := C) (X := Y) (S := R2) k4 (by omega) (H.out.2.1.aside k5 hg) (fun x hx => hM x (by simp [hx])) (Dns.app.mp (Dns.app.mp hd).2.1).1 hg a q k2 (by omega))
      unfold lessF at HC
      have HQ := Lib.hid (And.intro hq hRl)
      clear k1 k2 k3 k4 k5 hq hRl hM hd
      go_wp2_with fail
      refine HC.out.mono ?_; rintro e wa ⟨rfl, l1, ⟨D, rfl, hD⟩, hp, hs⟩
      have HP := Lib.hid (And.intro hD (And.intro hp hs))
      clear hD hp hs
      go_wp2_with fail
      go_roundg (N - q)
      case rel =>
        obtain ⟨k1, k2, k3, k4, k5⟩ := HH.out
        have := HQ.out
        have hDl := HP.out.1.1.length_eq
        exact ⟨q, q + 20, C ++ D, R2, X ++ Y, by omega, by omega, rfl, rfl, by go_num, Lib.hid ⟨by rw [k1]; simp, by rw [List.length_append]; omega, k3.snoc (by omega) HP.out.1, by simpa using HP.out.2.1, k5.trans HP.out.2.2⟩⟩
      case measure => have := HQ.out; omega
    · have hM := H.out.2.2.1
      have hd := H.out.2.2.2
      rw [k1] at hM hd
      have HC := Lib.hid (insert_any (P := C) (X := R) (S := []) (by simpa using k4) (by omega) (H.out.2.1.aside k5 hg) (fun x hx => hM x (by simp [hx])) (Dns.app.mp hd).2.1 hg a N k2 hRl)
      unfold lessF at HC
      have hR20 : R.length < 20 := by omega
      have HQ := Lib.hid (And.intro hR20 (And.intro k1 (And.intro k3 k5)))
      clear k1 k2 k3 k4 k5 hR20 hRl hM hd HH hq hk
      go_wp2_with fail
      refine HC.out.mono ?_; rintro e wa ⟨rfl, l1, ⟨D, rfl, hD⟩, hp, hs⟩
      have HP := Lib.hid (show BksL κ 20 (C ++ D) l ∧ Pr wa B b g c N (C ++ D) ∧ Aside (fun k => k = g) w wa from
        ⟨⟨C, D, X, R, rfl, HQ.out.2.1, HQ.out.2.2.1, by have := HQ.out.1; have := hD.1.length_eq; omega, hD⟩, by simpa using hp, HQ.out.2.2.2.trans hs⟩)
      clear hD hp hs HC HQ
      go_wp2_with fail
      go_loopg [6] (2 * N + 21) (fun kx s wr => ∃ (n : Nat) (L : List Nat), n + kx = 2 * N + 41 ∧ 20 ≤ n ∧ n ≤ 2 * N + 20 ∧ s = .int .i64 n ∧ Hid (BksL κ n L l ∧ Pr wr B b g c N L ∧ Aside (fun k => k = g) w wr))
      case atStart => exact ⟨20, C ++ D, by omega, Nat.le_refl _, by omega, rfl, HP⟩
      case round =>
        clear HP
        obtain ⟨n, L, hk, hn, hn2, rfl, HP⟩ := hrel
        by_cases hlt : n < N
        · go_wp2
          rename_i gk0 _ _
          go_loopg [7, 8] N (fun ky s t wy => ∃ (a q : Nat) (E F X1 X2 : List Nat), N ≤ a + ky ∧ a ≤ N ∧ a + 2 * n = q ∧ s = .int .i64 a ∧ t = .int .i64 q ∧ Hid (l = X1 ++ X2 ∧ E.length = a ∧ Bks κ (2 * n) E X1 ∧ BksL κ n F X2 ∧ Pr wy B b g c N (E ++ F) ∧ Aside (fun k => k = g) w wy))
          case atStart => exact ⟨0, 2 * n, [], L, [], l, by omega, by omega, by omega, rfl, by simp, Lib.hid ⟨rfl, rfl, .nil, HP.out.1, HP.out.2.1, HP.out.2.2⟩⟩
          case round =>
            clear HP
            obtain ⟨a, q, E, F, X1, X2, hky, haN, hq, rfl, rfl, HH⟩ := hrel
            obtain ⟨k1, k2, k3, k4, k5, k6⟩ := HH.out
            have hFl : a + F.length = N := by have := k5.len; rw [List.length_append] at this; omega
            have hM := H.out.2.2.1
            have hd := H.out.2.2.2
            rw [k1] at hM hd
            obtain ⟨m, hm⟩ : ∃ m, m = a + n := ⟨_, rfl⟩
            by_cases hlq : q ≤ N
            · obtain ⟨C1, F1, Y1, X3, rfl, rfl, l1, l2, l3⟩ := k4.first (by omega)
              rw [List.length_append] at hFl
              obtain ⟨C2, F2, Y2, X4, rfl, rfl, g1, g2, g3⟩ := l3.first (by omega)
              have HC := Lib.hid (sym_any _ (P := E) (A := C1) (Z := C2) (S := F2) (by simpa using k5) (by omega) (H.out.2.1.aside k6 hg) (two_of hd hM l2 g2) hg (Nat.le_refl _) (by omega) (by omega) a m q k2 (by omega) (by omega))
              unfold lessF at HC
              have HQ := Lib.hid (And.intro hm (And.intro hq (And.intro k1 (And.intro k2 (And.intro k3 (And.intro k6 (And.intro l1 (And.intro l2 (And.intro g1 (And.intro g2 g3))))))))))
              have v1 : (a : Int) + (n : Int) = (m : Int) := by omega
              clear k1 k2 k3 k4 k5 k6 l1 l2 l3 g1 g2 g3 hm hFl hM hd HH hq
              go_wp2_with fail
              refine HC.out.mono ?_; rintro e wb ⟨rfl, l1, ⟨D, rfl, hD⟩, hp, hs⟩
              have HP := Lib.hid (And.intro hD (And.intro hp hs))
              clear hD hp hs HC v1
              go_wp2_with fail
              go_roundg (N - q)
              case rel =>
                obtain ⟨hm, hq, k1, k2, k3, k6, l1, l2, g1, g2, g3⟩ := HQ.out
                have hDl := HP.out.1.1.length_eq
                rw [List.length_append] at hDl
                exact ⟨q, q + 2 * n, E ++ D, F2, X1 ++ (Y1 ++ Y2), X4, by omega, by omega, rfl, rfl, by simp, Lib.hid ⟨by rw [k1]; simp, by rw [List.length_append]; omega, k3.snoc (by omega) (mrg_two HP.out.1 l2 g2), g3, by simpa using HP.out.2.1, k6.trans HP.out.2.2⟩⟩
              case measure => have := HQ.out.2.1; omega
            · have v1 : (a : Int) + (n : Int) = (m : Int) := by omega
              by_cases hmN : m < N
              · obtain ⟨C1, F1, Y1, X3, rfl, rfl, l1, l2, l3⟩ := k4.first (by omega)
                rw [List.length_append] at hFl
                have g2 := l3.small (by omega) (by omega)
                have HC := Lib.hid (sym_any _ (P := E) (A := C1) (Z := F1) (S := []) (by simpa using k5) (by omega) (H.out.2.1.aside k6 hg) (two_of (X2 := []) (by simpa using hd) (by simpa using hM) l2 g2) hg (Nat.le_refl _) (by omega) (by omega) a m N k2 (by omega) (by omega))
                unfold lessF at HC
                have HQ := Lib.hid (And.intro hm (And.intro hq (And.intro k1 (And.intro k2 (And.intro k3 (And.intro k6 (And.intro l1 (And.intro l2 (And.intro g2 hFl)))))))))
                clear k1 k2 k3 k4 k5 k6 l1 l2 l3 g2 hm hFl hM hd HH hq
                go_wp2_with fail
                refine HC.out.mono ?_; rintro e wb ⟨rfl, l1, ⟨D, rfl, hD⟩, hp, hs⟩
                have HP := Lib.hid (And.intro hD (And.intro hp hs))
                clear hD hp hs HC v1
                go_wp2_with fail
                go_roundg (2 * N + 41 - 2 * n)
                case rel =>
                  obtain ⟨hm, hq, k1, k2, k3, k6, l1, l2, g2, hFl⟩ := HQ.out
                  have hDl := HP.out.1.1.length_eq
                  rw [List.length_append] at hDl
                  exact ⟨2 * n, E ++ D, by omega, by omega, by omega, by simp; omega, Lib.hid ⟨⟨E, D, X1, Y1 ++ X3, rfl, k1, k3, by omega, mrg_two HP.out.1 l2 g2⟩, by simpa using HP.out.2.1, k6.trans HP.out.2.2⟩⟩
                case measure => omega
              · have HQ := Lib.hid (show BksL κ (2 * n) (E ++ F) l ∧ Pr wr B b g c N (E ++ F) ∧ Aside (fun k => k = g) w wr from ⟨⟨E, F, X1, X2, rfl, k1, k3, by omega, k4.small (by omega) (by omega)⟩, k5, k6⟩)
                clear k1 k2 k3 k4 k5 k6 hm hFl hM hd HH hq
                go_wp2_with fail
                clear v1
                go_roundg (2 * N + 41 - 2 * n)
                case rel => exact ⟨2 * n, E ++ F, by omega, by omega, by omega, by simp; omega, HQ⟩
                case measure => omega
        · go_wp2
          go_end0
          obtain ⟨k1, k2, k3⟩ := HP.out
          exact ⟨rfl, L, k1.small (by omega) (by rw [k2.len]; omega), k2, k3⟩
end Go.Proofs.YteegekpanadmkaaGreat

/-
  A row of pointers in order, and none.
-/
namespace Go.Proofs.YteegekpanadmkaaGreat
open Go.RowKit Go.Shelf
set_option linter.unusedVariables false
set_option linter.unusedSimpArgs false
set_option maxRecDepth 100000

set_option maxHeartbeats 400000 in
theorem sort_any {w : World} {B b g c N M : Nat} {κ : Nat → Int} {l : List Nat} (h : Pr w B b g c N l) (hN : N ≤ 100000) (hK : Kn w b M κ) (hM : ∀ x ∈ l, x < M) (hd : Dns l) (hg : ¬ b = g) :
    Calls Tryz.prog 58 #[.slice (some ⟨g, 0, none⟩) N c, lessF] w (PrPost w B b g c N (fun C => Mrg κ C l)) := by
  have HC := Lib.hid (stable_any h hN hK hM hd hg)
  clear h hK hM hd
  unfold lessF at *
  go_enter Tryz.func58, Tryz.ntmps58
  go_wp2_with fail
  refine HC.out.mono ?_; rintro e wa ⟨rfl, hl⟩
  go_wp2_with fail
  go_end0
  exact ⟨rfl, hl⟩
set_option maxHeartbeats 400000 in
theorem ins0_any (w : World) : Calls Tryz.prog 89 #[.slice none 0 0, .int .i64 0, .int .i64 0, lessF] w fun e w' => e = .returned (.tuple #[]) ∧ w' = w := by
  unfold lessF
  go_enter Tryz.func89, Tryz.ntmps89
  go_wp2
  refine wp_loop_rounds 1 ?_
  rw [rounds_succ]
  go_wp2
  go_end0
  exact ⟨rfl, rfl⟩
set_option maxHeartbeats 400000 in
theorem stable0_any (w : World) : Calls Tryz.prog 78 #[.slice none 0 0, .int .i64 0, lessF] w fun e w' => e = .returned (.tuple #[]) ∧ w' = w := by
  have HC := Lib.hid (ins0_any w)
  unfold lessF at *
  go_enter Tryz.func78, Tryz.ntmps78
  go_wp2
  refine wp_loop_rounds 1 ?_
  rw [rounds_succ]
  go_wp2_with fail
  refine HC.out.mono ?_; rintro e wa ⟨rfl, rfl⟩
  go_wp2_with fail
  refine wp_loop_rounds 1 ?_
  rw [rounds_succ]
  go_wp2
  go_end0
  exact ⟨rfl, rfl⟩
set_option maxHeartbeats 400000 in
theorem sort0_any (w : World) : Calls Tryz.prog 58 #[.slice none 0 0, lessF] w fun e w' => e = .returned (.tuple #[]) ∧ w' = w := by
  have HC := Lib.hid (stable0_any w)
  unfold lessF at *
  go_enter Tryz.func58, Tryz.ntmps58
  go_wp2_with fail
  refine HC.out.mono ?_; rintro e wa ⟨rfl, rfl⟩
  go_wp2_with fail
  go_end0
  exact ⟨rfl, rfl⟩
set_option maxHeartbeats 400000 in
theorem rev0_any (w : World) : Calls Tryz.prog 57 #[.slice none 0 0] w fun e w' => e = .returned (.tuple #[]) ∧ w' = w := by
  go_enter Tryz.func57, Tryz.ntmps57
  go_wp2
  refine wp_loop_rounds 1 ?_
  rw [rounds_succ]
  go_wp2
  go_end0
  exact ⟨rfl, rfl⟩
end Go.Proofs.YteegekpanadmkaaGreat

/-
  A message's entries are laid on a sheet, and put in the order in which they are left out.
-/
namespace Go.Proofs.YteegekpanadmkaaGreat
open Go.RowKit Go.Shelf
set_option linter.unusedVariables false
set_option linter.unusedSimpArgs false
set_option maxRecDepth 100000

/-- A block that was just made. -/
theorem cells10 (w : World) (l : List Value) (T : TypeId) : ∀ i u, l[i]? = some u → (w.alloc (.cells l.toArray T)).cell? ⟨w.heap.size, i, none⟩ = some u := fun i u hu => by
  rw [World.cell?_alloc_at _ _ _ _ (by have := (List.getElem?_eq_some_iff.mp hu).1; simp [this])]
  simp [hu]
theorem ownP_ne {b g n c : Nat} (h : ¬ b = g) : ∀ k, (Value.slice (some ⟨b, 0, none⟩) n c).ownBlock = some k → ¬ k = g := fun k hk e => by
  have : b = k := by simpa [Value.ownBlock] using hk
  omega
theorem row_some {w : World} {B n c k : Nat} {e : TypeId} {a : Option Addr} {xs : List Value} (h : w.ownsRow B e k (.slice a n c) n xs) (h0 : 0 < n) : ∃ g, (Value.slice a n c) = .slice (some ⟨g, 0, none⟩) n c := by
  rcases h.2 with ⟨h1, h2⟩ | ⟨g, cap, cur, h1, _⟩
  · omega
  · injection h1 with h1 _ _
    exact ⟨g, by rw [h1]⟩
/-- A sheet: its own cells, its entries in block b, which of them are out, their order. -/
def Wd (w : World) (B p b : Nat) (i f : Int) (E : List En) (ord : List Nat) (va vo : Value) (O : List Bool) : Prop :=
  Cel w p [.int .i64 i, .int .i64 f, va, vo] ∧ O.length = E.length ∧ OwnEn w B va E O ∧ p < B ∧
    ((E.length = 0 ∧ vo = .slice none 0 0) ∨ ∃ c g d, va = .slice (some ⟨b, 0, none⟩) E.length c ∧ vo = .slice (some ⟨g, 0, none⟩) E.length d ∧ Pr w B b g d E.length ord)
def Sht (w : World) (B p b : Nat) (i f : Int) (E : List En) (ord : List Nat) : Prop := ∃ va vo O, Wd w B p b i f E ord va vo O
def LayPost (w : World) (i f : Int) (E : List En) (e : Ending) (w' : World) : Prop := ∃ p b ord, e = .returned (.pointer (some ⟨p, 0, none⟩)) ∧ w.heap.size ≤ p ∧ w.heap.size ≤ b ∧ b < w'.heap.size ∧ p ≠ b ∧ Sht w' (p + 1) p b i f E ord ∧ Mrg (kOf E) ord (List.range E.length).reverse ∧ Below w.heap.size w w'

set_option maxHeartbeats 8000000 in
theorem lay_any {w : World} {hi : Nat} {u : Value} {m : Ms} (h : Mg w hi u m) (h1 : hi ≤ w.heap.size) (hl : (ents m).length ≤ 100000) :
    Calls Tryz.prog 30 #[u] w (LayPost w m.id m.fl (ents m)) := by
  have hll := ents_len m
  obtain ⟨i0, f0, lq, lan, lns, lar⟩ := m
  obtain ⟨q, a, n, r, rfl, hq, ha, hn, hr⟩ := h
  simp only at hll hq ha hn hr ⊢
  obtain ⟨N, hN⟩ : ∃ g, w.heap.size = g := ⟨_, rfl⟩
  obtain ⟨qa, qc, rfl⟩ := Lst.shape hq
  obtain ⟨aa, ac, rfl⟩ := Lst.shape ha
  obtain ⟨na, nc, rfl⟩ := Lst.shape hn
  obtain ⟨ra, rc, rfl⟩ := Lst.shape hr
  obtain ⟨cq, hcq⟩ : ∃ k, lq.length = k := ⟨_, rfl⟩
  obtain ⟨ca, hca⟩ : ∃ k, lan.length = k := ⟨_, rfl⟩
  obtain ⟨cn, hcn⟩ : ∃ k, lns.length = k := ⟨_, rfl⟩
  obtain ⟨cr, hcr⟩ : ∃ k, lar.length = k := ⟨_, rfl⟩
  have HQ := Lib.hid (fun wx (hb : Below N w wx) => (Lst.below hq hb (by omega) : SQ wx hi _ lq))
  have HA := Lib.hid (fun wx (hb : Below N w wx) => (Lst.below ha hb (by omega) : SR wx hi _ lan))
  have HN := Lib.hid (fun wx (hb : Below N w wx) => (Lst.below hn hb (by omega) : SR wx hi _ lns))
  have HR := Lib.hid (fun wx (hb : Below N w wx) => (Lst.below hr hb (by omega) : SR wx hi _ lar))
  have HLEN := Lib.hid (And.intro hll (And.intro hcq (And.intro hca (And.intro hcn (And.intro hcr (And.intro hl (And.intro h1 hN)))))))
  have HQ0 := HQ
  have HA0 := HA
  have HN0 := HN
  have HR0 := HR
  rw [hcq] at HQ
  rw [hca] at HA
  rw [hcn] at HN
  rw [hcr] at HR
  rw [hcq, hca, hcn, hcr]
  have hbn : cq ≤ 100000 ∧ ca ≤ 100000 ∧ cn ≤ 100000 ∧ cr ≤ 100000 := by omega
  obtain ⟨b1, b2, b3, b4⟩ := hbn
  have HST := Lib.hid (show ShA w ((w.alloc (.cells #[.int .i64 i0, .int .i64 f0, .slice qa cq qc, .slice aa ca ac, .slice na cn nc, .slice ra cr rc] 25)).alloc (.cells #[.int .i64 i0, .int .i64 f0, .slice none 0 0, .slice none 0 0] 63)) N i0 f0 (.slice qa cq qc) (.slice aa ca ac) (.slice na cn nc) (.slice ra cr rc) (.slice none 0 0) [] by
    have hz := cel_new4 (w.alloc (.cells #[.int .i64 i0, .int .i64 f0, .slice qa cq qc, .slice aa ca ac, .slice na cn nc, .slice ra cr rc] 25)) (.int .i64 i0) (.int .i64 f0) (.slice none 0 0) (.slice none 0 0) 63
    rw [World.size_alloc, hN] at hz
    have hx := (cel_new6 w (.int .i64 i0) (.int .i64 f0) (.slice qa cq qc) (.slice aa ca ac) (.slice na cn nc) (.slice ra cr rc) 25).below (by simp) ((Below.refl _ _).alloc (Nat.le_refl _) (.cells #[.int .i64 i0, .int .i64 f0, .slice none 0 0, .slice none 0 0] 63))
    rw [hN] at hx
    refine ⟨?_, hx, hz, World.ownsRow_nil _ _ _ _, by simp [hN]⟩
    rw [← hN]
    exact ((Below.refl _ _).alloc (Nat.le_refl _) _).alloc (by simp) _)
  have hszN : (w.alloc (.cells #[.int .i64 i0, .int .i64 f0, .slice qa cq qc, .slice aa ca ac, .slice na cn nc, .slice ra cr rc] 25)).heap.size = N + 1 := by simp [hN]
  clear hq ha hn hr hll hcq hca hcn hcr hl h1
  go_enter Tryz.func30, Tryz.ntmps30
  go_wp2_with fail
  go_loopg [22] cq (fun kx s wr => ∃ (j : Nat) (va : Value), j + kx = cq ∧ s = .int .i64 j ∧ Hid (ShA w wr N i0 f0 (.slice qa cq qc) (.slice aa ca ac) (.slice na cn nc) (.slice ra cr rc) va (([] : List En) ++ (lq.take j).map enQ)))
  case atStart => exact ⟨0, _, by omega, rfl, Lib.hid (by simpa using HST.out)⟩
  case round =>
    clear HST
    obtain ⟨j, va, hj, rfl, HS⟩ := hrel
    by_cases hlt : j < cq
    · have hjl : j < lq.length := by have := HLEN.out; omega
      obtain ⟨bb, off, c0, hv, hbb, hat⟩ := SQ.at_ (HQ0.out wr HS.out.bel) j hjl
      injection hv with hv hv2 hv3
      clear hv2
      subst hv; subst hv3
      obtain ⟨x, hx⟩ : ∃ x, lq[j] = x := ⟨_, rfl⟩
      rw [hx] at hat
      have HX := Lib.hid (show (lq.take (j + 1)).map enQ = (lq.take j).map enQ ++ [enQ x] by rw [List.take_succ_eq_append_getElem hjl, hx, List.map_append]; rfl)
      obtain ⟨x1, x2, x3⟩ := x
      obtain ⟨d1, d2, d3⟩ := hat
      simp only at d1 d2 d3
      obtain ⟨sb, sc, rfl⟩ := HS.out.shape
      have HE := Lib.hid (show (([] : List En) ++ (lq.take j).map enQ).length + 1 ≤ 1000000 by have := HLEN.out; have h2 := List.length_take_le j lq; simp only [List.length_append, List.length_map, List.length_nil]; omega)
      obtain ⟨le, hle⟩ : ∃ k, (([] : List En) ++ (lq.take j).map enQ).length = k := ⟨_, rfl⟩
      have e2 : wr.cell? ⟨N + 1, 2, none⟩ = some (.slice sb le sc) := by rw [← hle]; exact HS.out.s.c 2 (by simp)
      obtain ⟨b9, c9, W2, hrun, k2, kf, hS2⟩ := HS.out.app (W := (wr.alloc (.cells #[.string (bs x1), .int .i64 x2, .int .i64 x3] 56)).drew.alloc (.cells #[.int .i64 4, .string (bs x1), .int .i64 x2, .int .i64 x3, .string ⟨#[]⟩, .int .i64 0, .int .i64 0, .int .i64 0, .string ⟨#[]⟩, .bool false] 95)) ((((Below.refl _ wr).alloc (Nat.le_refl _) _).drew).alloc (by simp [World.drew]) _) (enQ (⟨x1, x2, x3⟩ : Qn)) (wr.heap.size + 1) (fun i u hu => by
        have := cells10 (wr.alloc (.cells #[.string (bs x1), .int .i64 x2, .int .i64 x3] 56)).drew (ce (enQ (⟨x1, x2, x3⟩ : Qn)) false) 95 i u hu
        rw [show (wr.alloc (.cells #[.string (bs x1), .int .i64 x2, .int .i64 x3] 56)).drew.heap.size = wr.heap.size + 1 by simp [World.drew]] at this
        exact this) HE.out
      rw [hle] at hrun k2 hS2
      have HRUN := Lib.hid hrun
      have HS2 := Lib.hid hS2
      have k3 := kf 2
      have n1 : N + 1 < wr.heap.size := by have := HS.out.size; omega
      have n2 : N + 1 < wr.heap.size + 1 := by omega
      clear hrun hS2 kf hle hx hbb
      go_wp2_with fail
      go_region_law (refine step_app_run rfl (.tmp 30) (.tmp 33) 60 60 rfl rfl rfl HRUN.out ?_)
      all_goals
        go_wp2_with fail
        go_roundg (cq - (j + 1))
        case rel => exact ⟨j + 1, .slice b9 (le + 1) c9, by omega, by go_num, Lib.hid (by rw [HX.out, ← List.append_assoc]; exact HS2.out)⟩
        case measure => omega
    have HST := Lib.hid (show ShA w wr N i0 f0 (.slice qa cq qc) (.slice aa ca ac) (.slice na cn nc) (.slice ra cr rc) va (([] : List En) ++ lq.map enQ) by
      have h := HS.out
      rwa [List.take_of_length_le (by have := HLEN.out; omega)] at h)
    obtain ⟨y0, y1, y2, y3, y4, y5⟩ := HS.out.x.six
    clear HS hj
    go_wp2_with fail
    clear y0 y1 y2 y3 y4 y5
    go_loopg [41] ca (fun kx s wr => ∃ (j : Nat) (va : Value), j + kx = ca ∧ s = .int .i64 j ∧ Hid (ShA w wr N i0 f0 (.slice qa cq qc) (.slice aa ca ac) (.slice na cn nc) (.slice ra cr rc) va (lq.map enQ ++ (lan.take j).map (enR 2))))
    case atStart => exact ⟨0, _, by omega, rfl, Lib.hid (by simpa using HST.out)⟩
    case round =>
      clear HST
      obtain ⟨j, va, hj, rfl, HS⟩ := hrel
      by_cases hlt : j < ca
      · have hjl : j < lan.length := by have := HLEN.out; omega
        obtain ⟨bb, off, c0, hv, hbb, hat⟩ := SR.at_ (HA0.out wr HS.out.bel) j hjl
        injection hv with hv hv2 hv3
        clear hv2
        subst hv; subst hv3
        obtain ⟨x, hx⟩ : ∃ x, lan[j] = x := ⟨_, rfl⟩
        rw [hx] at hat
        have HX := Lib.hid (show (lan.take (j + 1)).map (enR 2) = (lan.take j).map (enR 2) ++ [(enR 2) x] by rw [List.take_succ_eq_append_getElem hjl, hx, List.map_append]; rfl)
        obtain ⟨x1, x2, x3, x4, x5⟩ := x
        obtain ⟨d1, d2, d3, d4, d5⟩ := hat
        simp only at d1 d2 d3 d4 d5
        obtain ⟨sb, sc, rfl⟩ := HS.out.shape
        have HE := Lib.hid (show (lq.map enQ ++ (lan.take j).map (enR 2)).length + 1 ≤ 1000000 by have := HLEN.out; have h2 := List.length_take_le j lan; simp only [List.length_append, List.length_map, List.length_nil]; omega)
        obtain ⟨le, hle⟩ : ∃ k, (lq.map enQ ++ (lan.take j).map (enR 2)).length = k := ⟨_, rfl⟩
        have e2 : wr.cell? ⟨N + 1, 2, none⟩ = some (.slice sb le sc) := by rw [← hle]; exact HS.out.s.c 2 (by simp)
        obtain ⟨b9, c9, W2, hrun, k2, kf, hS2⟩ := HS.out.app (W := (wr.alloc (.cells #[.string (bs x1), .int .i64 x2, .int .i64 x3, .int .i64 x4, .string (bs x5)] 52)).drew.alloc (.cells #[.int .i64 2, .string ⟨#[]⟩, .int .i64 0, .int .i64 0, .string (bs x1), .int .i64 x2, .int .i64 x3, .int .i64 x4, .string (bs x5), .bool false] 95)) ((((Below.refl _ wr).alloc (Nat.le_refl _) _).drew).alloc (by simp [World.drew]) _) ((enR 2) (⟨x1, x2, x3, x4, x5⟩ : Rc)) (wr.heap.size + 1) (fun i u hu => by
          have := cells10 (wr.alloc (.cells #[.string (bs x1), .int .i64 x2, .int .i64 x3, .int .i64 x4, .string (bs x5)] 52)).drew (ce ((enR 2) (⟨x1, x2, x3, x4, x5⟩ : Rc)) false) 95 i u hu
          rw [show (wr.alloc (.cells #[.string (bs x1), .int .i64 x2, .int .i64 x3, .int .i64 x4, .string (bs x5)] 52)).drew.heap.size = wr.heap.size + 1 by simp [World.drew]] at this
          exact this) HE.out
        rw [hle] at hrun k2 hS2
        have HRUN := Lib.hid hrun
        have HS2 := Lib.hid hS2
        have k3 := kf 2
        have n1 : N + 1 < wr.heap.size := by have := HS.out.size; omega
        have n2 : N + 1 < wr.heap.size + 1 := by omega
        clear hrun hS2 kf hle hx hbb
        go_wp2_with fail
        go_region_law (refine step_app_run rfl (.tmp 49) (.tmp 52) 60 60 rfl rfl rfl HRUN.out ?_)
        all_goals
          go_wp2_with fail
          go_roundg (ca - (j + 1))
          case rel => exact ⟨j + 1, .slice b9 (le + 1) c9, by omega, by go_num, Lib.hid (by rw [HX.out, ← List.append_assoc]; exact HS2.out)⟩
          case measure => omega
      have HST := Lib.hid (show ShA w wr N i0 f0 (.slice qa cq qc) (.slice aa ca ac) (.slice na cn nc) (.slice ra cr rc) va (lq.map enQ ++ lan.map (enR 2)) by
        have h := HS.out
        rwa [List.take_of_length_le (by have := HLEN.out; omega)] at h)
      obtain ⟨y0, y1, y2, y3, y4, y5⟩ := HS.out.x.six
      clear HS hj
      go_wp2_with fail
      clear y0 y1 y2 y3 y4 y5
      go_loopg [60] cn (fun kx s wr => ∃ (j : Nat) (va : Value), j + kx = cn ∧ s = .int .i64 j ∧ Hid (ShA w wr N i0 f0 (.slice qa cq qc) (.slice aa ca ac) (.slice na cn nc) (.slice ra cr rc) va ((lq.map enQ ++ lan.map (enR 2)) ++ (lns.take j).map (enR 1))))
      case atStart => exact ⟨0, _, by omega, rfl, Lib.hid (by simpa using HST.out)⟩
      case round =>
        clear HST
        obtain ⟨j, va, hj, rfl, HS⟩ := hrel
        by_cases hlt : j < cn
        · have hjl : j < lns.length := by have := HLEN.out; omega
          obtain ⟨bb, off, c0, hv, hbb, hat⟩ := SR.at_ (HN0.out wr HS.out.bel) j hjl
          injection hv with hv hv2 hv3
          clear hv2
          subst hv; subst hv3
          obtain ⟨x, hx⟩ : ∃ x, lns[j] = x := ⟨_, rfl⟩
          rw [hx] at hat
          have HX := Lib.hid (show (lns.take (j + 1)).map (enR 1) = (lns.take j).map (enR 1) ++ [(enR 1) x] by rw [List.take_succ_eq_append_getElem hjl, hx, List.map_append]; rfl)
          obtain ⟨x1, x2, x3, x4, x5⟩ := x
          obtain ⟨d1, d2, d3, d4, d5⟩ := hat
          simp only at d1 d2 d3 d4 d5
          obtain ⟨sb, sc, rfl⟩ := HS.out.shape
          have HE := Lib.hid (show ((lq.map enQ ++ lan.map (enR 2)) ++ (lns.take j).map (enR 1)).length + 1 ≤ 1000000 by have := HLEN.out; have h2 := List.length_take_le j lns; simp only [List.length_append, List.length_map, List.length_nil]; omega)
          obtain ⟨le, hle⟩ : ∃ k, ((lq.map enQ ++ lan.map (enR 2)) ++ (lns.take j).map (enR 1)).length = k := ⟨_, rfl⟩
          have e2 : wr.cell? ⟨N + 1, 2, none⟩ = some (.slice sb le sc) := by rw [← hle]; exact HS.out.s.c 2 (by simp)
          obtain ⟨b9, c9, W2, hrun, k2, kf, hS2⟩ := HS.out.app (W := (wr.alloc (.cells #[.string (bs x1), .int .i64 x2, .int .i64 x3, .int .i64 x4, .string (bs x5)] 52)).drew.alloc (.cells #[.int .i64 1, .string ⟨#[]⟩, .int .i64 0, .int .i64 0, .string (bs x1), .int .i64 x2, .int .i64 x3, .int .i64 x4, .string (bs x5), .bool false] 95)) ((((Below.refl _ wr).alloc (Nat.le_refl _) _).drew).alloc (by simp [World.drew]) _) ((enR 1) (⟨x1, x2, x3, x4, x5⟩ : Rc)) (wr.heap.size + 1) (fun i u hu => by
            have := cells10 (wr.alloc (.cells #[.string (bs x1), .int .i64 x2, .int .i64 x3, .int .i64 x4, .string (bs x5)] 52)).drew (ce ((enR 1) (⟨x1, x2, x3, x4, x5⟩ : Rc)) false) 95 i u hu
            rw [show (wr.alloc (.cells #[.string (bs x1), .int .i64 x2, .int .i64 x3, .int .i64 x4, .string (bs x5)] 52)).drew.heap.size = wr.heap.size + 1 by simp [World.drew]] at this
            exact this) HE.out
          rw [hle] at hrun k2 hS2
          have HRUN := Lib.hid hrun
          have HS2 := Lib.hid hS2
          have k3 := kf 2
          have n1 : N + 1 < wr.heap.size := by have := HS.out.size; omega
          have n2 : N + 1 < wr.heap.size + 1 := by omega
          clear hrun hS2 kf hle hx hbb
          go_wp2_with fail
          go_region_law (refine step_app_run rfl (.tmp 68) (.tmp 71) 60 60 rfl rfl rfl HRUN.out ?_)
          all_goals
            go_wp2_with fail
            go_roundg (cn - (j + 1))
            case rel => exact ⟨j + 1, .slice b9 (le + 1) c9, by omega, by go_num, Lib.hid (by rw [HX.out, ← List.append_assoc]; exact HS2.out)⟩
            case measure => omega
        have HST := Lib.hid (show ShA w wr N i0 f0 (.slice qa cq qc) (.slice aa ca ac) (.slice na cn nc) (.slice ra cr rc) va ((lq.map enQ ++ lan.map (enR 2)) ++ lns.map (enR 1)) by
          have h := HS.out
          rwa [List.take_of_length_le (by have := HLEN.out; omega)] at h)
        obtain ⟨y0, y1, y2, y3, y4, y5⟩ := HS.out.x.six
        clear HS hj
        go_wp2_with fail
        clear y0 y1 y2 y3 y4 y5
        go_loopg [79] cr (fun kx s wr => ∃ (j : Nat) (va : Value), j + kx = cr ∧ s = .int .i64 j ∧ Hid (ShA w wr N i0 f0 (.slice qa cq qc) (.slice aa ca ac) (.slice na cn nc) (.slice ra cr rc) va ((lq.map enQ ++ lan.map (enR 2) ++ lns.map (enR 1)) ++ (lar.take j).map enA)))
        case atStart => exact ⟨0, _, by omega, rfl, Lib.hid (by simpa using HST.out)⟩
        case round =>
          clear HST
          obtain ⟨j, va, hj, rfl, HS⟩ := hrel
          by_cases hlt : j < cr
          · have hjl : j < lar.length := by have := HLEN.out; omega
            obtain ⟨bb, off, c0, hv, hbb, hat⟩ := SR.at_ (HR0.out wr HS.out.bel) j hjl
            injection hv with hv hv2 hv3
            clear hv2
            subst hv; subst hv3
            obtain ⟨x, hx⟩ : ∃ x, lar[j] = x := ⟨_, rfl⟩
            rw [hx] at hat
            have HX := Lib.hid (show (lar.take (j + 1)).map enA = (lar.take j).map enA ++ [enA x] by rw [List.take_succ_eq_append_getElem hjl, hx, List.map_append]; rfl)
            obtain ⟨x1, x2, x3, x4, x5⟩ := x
            obtain ⟨d1, d2, d3, d4, d5⟩ := hat
            simp only at d1 d2 d3 d4 d5
            obtain ⟨sb, sc, rfl⟩ := HS.out.shape
            have HE := Lib.hid (show ((lq.map enQ ++ lan.map (enR 2) ++ lns.map (enR 1)) ++ (lar.take j).map enA).length + 1 ≤ 1000000 by have := HLEN.out; have h2 := List.length_take_le j lar; simp only [List.length_append, List.length_map, List.length_nil]; omega)
            obtain ⟨le, hle⟩ : ∃ k, ((lq.map enQ ++ lan.map (enR 2) ++ lns.map (enR 1)) ++ (lar.take j).map enA).length = k := ⟨_, rfl⟩
            have e2 : wr.cell? ⟨N + 1, 2, none⟩ = some (.slice sb le sc) := by rw [← hle]; exact HS.out.s.c 2 (by simp)
            obtain ⟨kx, hkx⟩ : ∃ k, arK (⟨x1, x2, x3, x4, x5⟩ : Rc) = k := ⟨_, rfl⟩
            have HADD := Lib.hid (fun wx : World => (show Calls Tryz.prog 56 #[.agg #[.string (bs x1), .int .i64 x2, .int .i64 x3, .int .i64 x4, .string (bs x5)]] wx (Tells wx (.agg #[.int .i64 kx, .string ⟨#[]⟩, .int .i64 0, .int .i64 0, .string (bs x1), .int .i64 x2, .int .i64 x3, .int .i64 x4, .string (bs x5), .bool false])) by have := additional_any wx (⟨x1, x2, x3, x4, x5⟩ : Rc); rw [hkx] at this; exact this))
            have HAPP := Lib.hid (fun (wc : World) (hb : Below (wr.alloc (.cells #[.string (bs x1), .int .i64 x2, .int .i64 x3, .int .i64 x4, .string (bs x5)] 52)).drew.heap.size (wr.alloc (.cells #[.string (bs x1), .int .i64 x2, .int .i64 x3, .int .i64 x4, .string (bs x5)] 52)).drew wc) => (show ∃ b9 c9 W2, (Builtin.append_ #[60, 60] 60 #[.slice sb le sc, .slice (some ⟨wc.heap.size, 0, none⟩) 1 1]).run Tryz.prog (wc.alloc (.cells #[.int .i64 kx, .string ⟨#[]⟩, .int .i64 0, .int .i64 0, .string (bs x1), .int .i64 x2, .int .i64 x3, .int .i64 x4, .string (bs x5), .bool false] 95)) = .ok (.slice b9 (le + 1) c9) W2 ∧
                W2.cell? ⟨N + 1, 2, none⟩ = some (.slice sb le sc) ∧ W2.frozen? ⟨N + 1, 2, none⟩ = false ∧ wc.cell? ⟨N + 1, 2, none⟩ = some (.slice sb le sc) ∧ N + 1 < wc.heap.size ∧ ShA w (W2.setCell ⟨N + 1, 2, none⟩ (.slice b9 (le + 1) c9)) N i0 f0 (.slice qa cq qc) (.slice aa ca ac) (.slice na cn nc) (.slice (some ⟨bb, off, none⟩) cr rc) (.slice b9 (le + 1) c9) ((lq.map enQ ++ lan.map (enR 2) ++ lns.map (enR 1)) ++ (lar.take j).map enA ++ [enA (⟨x1, x2, x3, x4, x5⟩ : Rc)]) from by
              have hb0 : Below wr.heap.size wr wc := bel_call (((Below.refl _ wr).alloc (Nat.le_refl _) _).drew) hb
              obtain ⟨b9, c9, W2, hrun, k2, kf, hS2⟩ := HS.out.app (W := wc.alloc (.cells #[.int .i64 kx, .string ⟨#[]⟩, .int .i64 0, .int .i64 0, .string (bs x1), .int .i64 x2, .int .i64 x3, .int .i64 x4, .string (bs x5), .bool false] 95)) (hb0.alloc hb0.size _) (enA (⟨x1, x2, x3, x4, x5⟩ : Rc)) wc.heap.size (fun i u hu => by
                have hc := cells10 wc (ce (enA (⟨x1, x2, x3, x4, x5⟩ : Rc)) false) 95 i u hu
                rw [show ce (enA (⟨x1, x2, x3, x4, x5⟩ : Rc)) false = [.int .i64 kx, .string ⟨#[]⟩, .int .i64 0, .int .i64 0, .string (bs x1), .int .i64 x2, .int .i64 x3, .int .i64 x4, .string (bs x5), .bool false] by rw [← hkx]; rfl] at hc
                exact hc) HE.out
              rw [hle] at hrun k2 hS2
              exact ⟨b9, c9, W2, hrun, k2, kf 2, (hb0.cell (p := ⟨N + 1, 2, none⟩) (by have := HS.out.size; show N + 1 < _; omega)).trans e2, by have := HS.out.size; have := hb0.size; omega, hS2⟩))
            have n1 : N + 1 < wr.heap.size := by have := HS.out.size; omega
            have n2 : N + 1 < wr.heap.size + 1 := by omega
            clear hle hx hbb hkx
            go_wp2_with fail
            go_region_law (first | (refine step_app_run rfl (.tmp 87) (.tmp 90) 60 60 rfl rfl rfl HRUN.out ?_) | (go_simp; go_at_call 56; refine (HADD.out _).mono ?_; rintro en wc ⟨rfl, hb⟩; obtain ⟨b9, c9, W2, hrun, k2, k3, k4, k5, hS2⟩ := HAPP.out wc hb; have HRUN := Lib.hid hrun; have HS2 := Lib.hid hS2; clear hrun hS2 hb))
            all_goals
              go_wp2_with fail
              go_roundg (cr - (j + 1))
              case rel => exact ⟨j + 1, .slice b9 (le + 1) c9, by omega, by go_num, Lib.hid (by rw [HX.out, ← List.append_assoc]; exact HS2.out)⟩
              case measure => omega
          have HST := Lib.hid (show ShA w wr N i0 f0 (.slice qa cq qc) (.slice aa ca ac) (.slice na cn nc) (.slice ra cr rc) va ((lq.map enQ ++ lan.map (enR 2) ++ lns.map (enR 1)) ++ lar.map enA) by
            have h := HS.out
            rwa [List.take_of_length_le (by have := HLEN.out; omega)] at h)
          obtain ⟨y0, y1, y2, y3, y4, y5⟩ := HS.out.x.six
          clear HS hj
          clear y0 y1 y2 y3 y4 y5
          obtain ⟨E, hE⟩ : ∃ E, lq.map enQ ++ lan.map (enR 2) ++ lns.map (enR 1) ++ lar.map enA = E := ⟨_, rfl⟩
          have HEE := Lib.hid (show ents ⟨i0, f0, lq, lan, lns, lar⟩ = E by rw [← hE]; unfold ents; simp)
          rw [hE] at HST
          clear hE
          obtain ⟨sb, sc, rfl⟩ := HST.out.shape
          obtain ⟨NE, hNE⟩ : ∃ k, E.length = k := ⟨_, rfl⟩
          have HNE := Lib.hid (show E.length = NE ∧ NE ≤ 100000 from ⟨hNE, by rw [← hNE, ← HEE.out]; exact HLEN.out.2.2.2.2.2.1⟩)
          have HAB := Lib.hid (fun h => row_some HST.out.own h)
          rw [hNE] at HST HAB
          have x2 : wr.cell? ⟨N + 1, 2, none⟩ = some (.slice sb NE sc) := HST.out.s.c 2 (by simp)
          rcases Nat.eq_zero_or_pos NE with h0 | h0
          · have x3 : wr.cell? ⟨N + 1, 3, none⟩ = some (.slice none 0 0) := HST.out.s.c 3 (by simp)
            subst h0
            clear hNE
            have HREV := Lib.hid (fun wx => rev0_any wx)
            have HSRT := Lib.hid (fun wx => sort0_any wx)
            unfold lessF at HSRT
            go_wp2_with fail
            refine wp_loop_rounds 1 ?_
            rw [rounds_succ]
            go_wp2_with fail
            refine (HREV.out _).mono ?_; rintro en w1 ⟨rfl, rfl⟩
            go_wp2_with fail
            refine (HSRT.out _).mono ?_; rintro en w1 ⟨rfl, rfl⟩
            go_wp2_with fail
            go_ret
            have hEn : E.length = 0 := HNE.out.1
            refine ⟨N + 1, N, [], rfl, by have := HLEN.out; omega, by have := HLEN.out; omega, by have := HST.out.size; omega, by omega, ⟨_, _, List.replicate E.length false, HST.out.s, by rw [HEE.out]; simp, ?_, by omega, .inl ⟨?_, rfl⟩⟩, ?_, by rw [HLEN.out.2.2.2.2.2.2.2]; exact HST.out.bel⟩
            · have := HST.out.own
              unfold OwnEn at this ⊢
              rw [HEE.out]
              exact this
            · rw [HEE.out]; exact hEn
            · rw [HEE.out, hEn]
              exact Mrg.nil _
          · obtain ⟨ab, hab⟩ := HAB.out h0
            clear HAB
            injection hab with hab _ _
            subst hab
            have HSO := Lib.hid (show ShO w wr N i0 f0 (.slice (some ⟨ab, 0, none⟩) NE sc) (.slice none 0 0) E ab [] from ⟨HST.out.bel, HST.out.s, HST.out.own, World.ownsRow_nil _ _ _ _, HST.out.size⟩)
            clear hNE HST
            go_wp2_with fail
            clear x2
            go_loopg [100] NE (fun kx s wr => ∃ (j : Nat) (vo : Value), j + kx = NE ∧ s = .int .i64 j ∧ Hid (ShO w wr N i0 f0 (.slice (some ⟨ab, 0, none⟩) NE sc) vo E ab (List.range j)))
            case atStart => exact ⟨0, _, by omega, rfl, HSO⟩
            case round =>
              clear HSO
              obtain ⟨j, vo, hj, rfl, HS⟩ := hrel
              obtain ⟨od, oc, rfl⟩ := HS.out.shape
              have HOB := Lib.hid (fun h => row_some HS.out.row h)
              rw [List.length_range] at HS HOB
              have e3 : wr.cell? ⟨N + 1, 3, none⟩ = some (.slice od j oc) := HS.out.s.c 3 (by simp)
              by_cases hlt : j < NE
              · have e2 : wr.cell? ⟨N + 1, 2, none⟩ = some (.slice (some ⟨ab, 0, none⟩) NE sc) := HS.out.s.c 2 (by simp)
                obtain ⟨b9, c9, W2, hrun, k2, k3, hS2⟩ := HS.out.app (W := wr.drew.alloc (.cells #[pe ab j] 97)) (((Below.refl _ wr).drew).alloc (Nat.le_refl _) _) j wr.heap.size (cells10 wr.drew [pe ab j] 97 0 _ rfl) (by rw [List.length_range]; have := HNE.out; omega)
                rw [List.length_range] at hrun hS2
                have HRUN := Lib.hid hrun
                have HS2 := Lib.hid hS2
                have n1 : N + 1 < wr.heap.size := by have := HS.out.size; omega
                unfold pe at HRUN
                have hNl : NE ≤ 100000 := HNE.out.2
                clear hrun hS2
                go_wp2_with fail
                go_region_law (refine step_app_run rfl (.tmp 107) (.tmp 114) 61 61 rfl rfl rfl HRUN.out ?_)
                all_goals
                  go_wp2_with fail
                  go_roundg (NE - (j + 1))
                  case rel => exact ⟨j + 1, .slice b9 (j + 1) c9, by omega, by go_num, Lib.hid (by rw [List.range_succ]; exact HS2.out)⟩
                  case measure => omega
              · obtain rfl : j = NE := by omega
                obtain ⟨g, hgg⟩ := HOB.out h0
                clear HOB
                injection hgg with hgg _ _
                subst hgg
                have hP : Pr wr (N + 2) ab g oc j (List.range j) := by have := HS.out.row; rw [List.length_range] at this; exact this
                have hE := HNE.out.1
                have hne : ¬ ab = g := fun e => row_apart HS.out.own HS.out.row (by decide) ab rfl (by rw [e]; rfl)
                have hpl := hP.lt
                have HREV := Lib.hid (revP_any hP (by have := HNE.out; omega) h0)
                go_wp2_with fail
                refine HREV.out.mono ?_; rintro en w1 ⟨rfl, l1, rfl, hp1, hs1⟩
                have hS1 := HS.out.s.aside (by simp) hs1 (by omega)
                have hO1 : OwnEn w1 (N + 2) (.slice (some ⟨ab, 0, none⟩) j sc) E (List.replicate E.length false) := row_aside HS.out.own hs1 (ownP_ne hne)
                have hB1 := below_aside HS.out.bel hs1 (fun k hk => ⟨by have := HS.out.size; omega, by omega⟩)
                have hK := OwnEn.kn (c := sc) (by rw [hE]; exact hO1) (by simp)
                rw [hE] at hK
                have HSRT := Lib.hid (sort_any hp1 (by have := HNE.out; omega) hK (fun x hx => by simpa using hx) (by unfold Dns; rw [List.pairwise_reverse]; exact List.pairwise_lt_range) hne)
                unfold lessF at HSRT
                have e4 : w1.cell? ⟨N + 1, 3, none⟩ = some (.slice (some ⟨g, 0, none⟩) j oc) := hS1.c 3 (by simp)
                have H1 := Lib.hid (And.intro hS1 (And.intro hO1 hB1))
                clear hS1 hO1 hB1 hK hp1 hs1 e3 hP
                go_wp2_with fail
                refine HSRT.out.mono ?_; rintro en w2 ⟨rfl, C, hC, hp2, hs2⟩
                have hS2 := H1.out.1.aside (by simp) hs2 (by omega)
                have hO2 : OwnEn w2 (N + 2) (.slice (some ⟨ab, 0, none⟩) j sc) E (List.replicate E.length false) := row_aside H1.out.2.1 hs2 (ownP_ne hne)
                have hB2 := below_aside H1.out.2.2 hs2 (fun k hk => ⟨by have := HS.out.size; have := HS.out.bel.size; have := H1.out.2.2.size; have := hpl; omega, by omega⟩)
                have HF := Lib.hid (And.intro hC (And.intro hp2 (And.intro hS2 (And.intro hO2 hB2))))
                clear hC hp2 hs2 hS2 hO2 hB2 e4
                go_wp2_with fail
                go_ret
                obtain ⟨hC, hp2, hS2, hO2, hB2⟩ := HF.out
                have hab := World.ownsRow.lt hO2 ab rfl
                refine ⟨N + 1, ab, C, rfl, by have := HLEN.out; omega, by have := HLEN.out; omega, hab.2, by omega, ⟨_, _, List.replicate E.length false, hS2, by rw [HEE.out]; simp, ?_, by omega, .inr ⟨sc, g, oc, ?_, ?_, ?_⟩⟩, ?_, by rw [HLEN.out.2.2.2.2.2.2.2]; exact hB2⟩
                · rw [HEE.out]; exact hO2
                · rw [HEE.out, hE]
                · rw [HEE.out, hE]
                · rw [HEE.out, hE]; exact hp2
                · rw [HEE.out, hE]; exact hC
end Go.Proofs.YteegekpanadmkaaGreat
