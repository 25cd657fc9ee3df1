/-
  The statement about packers: the walk.
-/
import Derived.Test.YthhfgbfipogppaaLb
import Derived.Test.YthhfgbfipogppaaKp
import Derived.Deep.RegionHeld3
namespace Go.Proofs.Ythhfgbfipogppaa
open Go.RowKit Go.Shelf
set_option linter.unusedVariables false

set_option maxRecDepth 100000 in
set_option maxHeartbeats 8000000 in
theorem packs_core {v : Value} {l : List AV} (w : World) (h : Ac w w.heap.size v l) (hc : longA l = false) : Calls Try.prog 4 #[v] w (Tells w (.bool true)) := by
  have HAW := Lib.hid awake_any
  have HN := Lib.hid new_any
  have HL := Lib.hid (fun wx (hb : Below w.heap.size w wx) => long_any (h.below hb (Nat.le_refl _)))
  rw [hc] at HL
  obtain ⟨hl60, hn400⟩ := longA_not hc
  have HN4 := Lib.hid hn400
  have HA := Lib.hid h
  obtain ⟨aa, ca, rfl, _⟩ := h
  have HB := Lib.hid (Below.refl w.heap.size w)
  clear hn400 hc
  go_enter Try.func4, Try.ntmps4
  go_wp2_with fail
  refine (HN.out _).mono ?_; rintro e w2 ⟨p, bm, rfl, hp1, hb1, hpk, hb⟩
  have hal := bel_alloc (Below.refl w2.heap.size w2) (.cells #[.slice none 0 0, .int .i64 0] 38)
  have HB2 := Lib.hid (bel_alloc (bel_call HB.out hb) (.cells #[.slice none 0 0, .int .i64 0] 38))
  have HPk0 := Lib.hid (hpk.later hal)
  have HRk0 := Lib.hid (show Rk (w2.alloc (.cells #[.slice none 0 0, .int .i64 0] 38)) (w2.heap.size + 1) w2.heap.size (.slice none 0 0) [] 0 from
    ⟨by simp [go_sem], by simp [go_sem], fun j => by simp [go_sem], OwnK.nil _ _, Nat.lt_succ_self _, by simp⟩)
  have Hne := Lib.hid (show p < w2.heap.size ∧ bm < w2.heap.size ∧ w.heap.size ≤ p ∧ w.heap.size ≤ bm ∧ w.heap.size ≤ w2.heap.size from ⟨hpk.lt, hpk.map.lt, Nat.le_trans HB.out.size hp1, Nat.le_trans HB.out.size hb1, (bel_call HB.out hb).size⟩)
  clear hb hp1 hb1 hpk hal HB
  go_wp2_with fail
  refine (HL.out _ HB2.out).mono ?_; rintro e w3 ⟨rfl, rfl⟩
  obtain ⟨q, hq⟩ : ∃ q, w2.heap.size = q := ⟨_, rfl⟩
  obtain ⟨W, hW⟩ : ∃ W, w2.alloc (.cells #[.slice none 0 0, .int .i64 0] 38) = W := ⟨_, rfl⟩
  rw [hW] at HB2 HPk0 HRk0 ⊢
  rw [hq] at HRk0 Hne ⊢
  clear hW hq HN
  go_wp2_with fail
  go_loopg [5] l.length (fun g v5 wr => ∃ (k : Nat) (K : List (List UInt8 × Nat)) (e : Nat) (vr : Value), k + g = l.length ∧ v5 = .int .i64 k ∧ K.length ≤ 127 * k ∧ e ≤ 66000 ∧ Hid (GoodK K) ∧ Hid (Pk wr p bm K e) ∧ Hid (Rk wr (q + 1) q vr K e) ∧ Hid (Below w.heap.size w wr))
  case atStart => exact ⟨0, [], 0, _, by omega, rfl, by simp, by omega, good_nil, HPk0, HRk0, HB2⟩
  case round =>
    obtain ⟨k, K, e, vr, hk, rfl, hKl, he66, HG, HPk, HRk, HB⟩ := hrel
    clear HPk0 HRk0 HB2
    by_cases hlt : k < l.length
    · obtain ⟨a0, c0, he0, hcc⟩ := HA.out
      obtain ⟨g0, off, rfl, hg0, hcell⟩ := hcc (by omega)
      injection he0 with he1 he2 he3
      subst he1
      have h400 := HN4.out k hlt
      have HD := Lib.hid (fun (wx : World) (hb : Below w.heap.size w wx) => show wx.cell? ⟨g0, off + k * 3, none⟩ = some (.string (bs l[k].1)) ∧ wx.cell? ⟨g0, off + k * 3 + 1, none⟩ = some (.int .i64 l[k].2.1) ∧ wx.cell? ⟨g0, off + k * 3 + 2, none⟩ = some (.bool l[k].2.2) from
        ⟨(hb.cell (p := ⟨g0, _, none⟩) hg0).trans (hcell k hlt).1, (hb.cell (p := ⟨g0, _, none⟩) hg0).trans (hcell k hlt).2.1, (hb.cell (p := ⟨g0, _, none⟩) hg0).trans (hcell k hlt).2.2⟩)
      clear he2 he3 hcc hcell
      obtain ⟨N, hN⟩ : ∃ N, l[k].1 = N := ⟨_, rfl⟩
      obtain ⟨A, hA⟩ : ∃ A, l[k].2.1 = A := ⟨_, rfl⟩
      obtain ⟨R, hR⟩ : ∃ R, l[k].2.2 = R := ⟨_, rfl⟩
      rw [hN] at h400 HD
      rw [hA, hR] at HD
      clear hN hA hR
      obtain ⟨d0, d1, d2⟩ := HD.out _ HB.out
      have HP := Lib.hid (fun wx => pick_any A 20000 wx (by decide) (by decide))
      have f1 := HRk.out.fin
      cases R
      · have hdX : Below wr.heap.size wr wr.drew := (Below.refl _ _).drew
        have HPkX := Lib.hid (HPk.out.later hdX)
        have HRkX := Lib.hid (HRk.out.later hdX)
        have HBX := Lib.hid (bel_call HB.out hdX)
        have HSX := Lib.hid (show wr.heap.size ≤ wr.drew.heap.size from hdX.size)
        have f1D := HRkX.out.fin
        clear hdX
        go_wp2_with fail
        go_region_held3 (fun wx => wx.cell? ⟨q, 1, none⟩ = some (.int .i64 e)) (first | exact f1 | exact f1D) (first | (go_at_call 17; refine (HP.out _).mono ?_; rintro e0 w3 ⟨q0, hq0, rfl, rfl⟩))
        go_wp2_with fail
        have HNm := Lib.hid (name_any HPkX.out HG.out (by omega) (by omega) ((e : Int) + q0) N (by omega))
        have HRN := Lib.hid (fun wx vx (h : Rk wx (q + 1) q vx K e) => rname_any h HG.out (by omega) ((e : Int) + q0) N (by omega))
        obtain ⟨g1, g2, g3⟩ := next_good HG.out he66 ((e : Int) + q0) N
        unfold NamePost at HNm
        unfold RNamePost at HRN
        obtain ⟨c, hc⟩ : ∃ c, pkE e ((e : Int) + q0) N = c := ⟨_, rfl⟩
        obtain ⟨L, hL⟩ : ∃ L, nameB K e ((e : Int) + q0) N = L := ⟨_, rfl⟩
        obtain ⟨K', hK'⟩ : ∃ K', nameK K e ((e : Int) + q0) N = K' := ⟨_, rfl⟩
        obtain ⟨e', he'⟩ : ∃ e', nameE K e ((e : Int) + q0) N = e' := ⟨_, rfl⟩
        rw [hK'] at g1 g2
        rw [he'] at g3
        simp only [hc, hL, hK', he'] at HNm HRN
        have HG' := Lib.hid g1
        have hK2 : K'.length ≤ 127 * (k + 1) := by omega
        have tcc : (c != c) = false := by simp
        have tkk : (((K'.length : Nat) : Int) != (K'.length : Nat)) = false := by simp
        clear g1 g2 hc hL hK' he'
        refine HNm.out.mono ?_; rintro e0 w4 ⟨va, rfl, hoA, hpk, has⟩
        obtain ⟨av, cv, rfl⟩ := hoA.shape
        have hne := Hne.out
        have HPk4 := Lib.hid hpk
        have HO4 := Lib.hid hoA
        have HRk4 := Lib.hid (HRkX.out.aside has (fun h => by omega) fun b hb h => by have := (HRkX.out.own.lt b hb).1; omega)
        have HB4 := Lib.hid (below_aside HBX.out has fun b hb => ⟨Nat.lt_of_lt_of_le hb HBX.out.size, by omega⟩)
        have HsA := Lib.hid has.size
        clear hne hpk hoA has HNm
        obtain ⟨j0, j1, j2⟩ := HD.out _ HB4.out
        go_wp2_with fail
        refine (HRN.out _ _ HRk4.out).mono ?_; rintro e0 w5 ⟨vb, vy, rfl, hsl, hrk, has⟩
        have hne := Hne.out
        have HPk5 := Lib.hid (HPk4.out.aside has (fun h => h.elim (fun h => by omega) fun h => by have := (HRk4.out.own.lt p h).1; omega) (fun h => h.elim (fun h => by omega) fun h => by have := (HRk4.out.own.lt bm h).1; omega))
        have HO5 := Lib.hid (HO4.out.aside has fun b hb h => h.elim (fun h => by have := (HO4.out.lt b hb).1; have := HRkX.out.lt; have := HRkX.out.size; have := HSX.out; omega) fun h => apart_BK HO4.out HRk4.out.own b hb h)
        have HB5 := Lib.hid (below_aside HB4.out has fun b hb => ⟨Nat.lt_of_lt_of_le hb HB4.out.size, fun h => h.elim (fun h => by omega) fun h => by have := (HRk4.out.own.lt b h).1; omega⟩)
        have hdr : Below w5.heap.size w5 w5.drew := (Below.refl _ _).drew
        have HSm := Lib.hid (same_any (HO5.out.below hdr).sl (hsl.later hdr))
        have HKn := Lib.hid (known_any (HPk5.out.later hdr))
        have HOv := Lib.hid (over_B (HO5.out.below hdr))
        have HPkD := Lib.hid (HPk5.out.later hdr)
        have HRkD := Lib.hid (hrk.later hdr)
        have HOD := Lib.hid (HO5.out.below hdr)
        have HBD := Lib.hid (bel_call HB5.out hdr)
        have HsD := Lib.hid (show wr.heap.size ≤ w4.heap.size ∧ w4.heap.size ≤ w5.drew.heap.size from ⟨Nat.le_trans HSX.out HsA.out, Nat.le_trans has.size hdr.size⟩)
        obtain ⟨ab, cb, rfl, _⟩ := hsl
        obtain ⟨ay, cy, rfl⟩ := hrk.own.shape
        have k0 := hrk.row
        simp only [iz_len] at HSm ⊢
        clear hne hrk has j0 j1 j2 hdr HPk4 HO4 HRk4 HB4 HPk5 HO5 HB5 HRN HPkX HBX
        go_wp2_with fail
        have kD := HRkD.out.row
        go_region_held3 (fun wx => wx.cell? ⟨q, 0, none⟩ = some (.slice ay K'.length cy)) (first | exact k0 | exact kD) (first | (go_at_call 20; refine HSm.out.mono ?_; rintro e0 wy ⟨rfl, rfl⟩) | (go_at_call 21; refine HKn.out.mono ?_; rintro e0 wy ⟨rfl, rfl⟩))
        go_wp2_with fail
        refine HOv.out.mono ?_; rintro e0 w7 ⟨rfl, has⟩
        have hne := Hne.out
        have hq1 := HRkX.out.size
        have HPk7 := Lib.hid (HPkD.out.aside has (fun h => by have := h.1; omega) (fun h => by have := h.1; omega))
        have HRk7 := Lib.hid (HRkD.out.aside has (fun h => by have := h.1; omega) (fun b hb h => apart_BK HOD.out HRkD.out.own b h.2 hb))
        have HB7 := Lib.hid (below_aside HBD.out has fun b hb => ⟨Nat.lt_of_lt_of_le hb HBD.out.size, fun h => by have := h.1; omega⟩)
        clear has hne hq1 k0 kD
        go_wp2_with fail
        go_roundg (l.length - (k + 1))
        case measure => omega
        case rel => exact ⟨k + 1, K', e', _, by omega, by go_num, hK2, g3, HG', HPk7, HRk7, HB7⟩
      · have HPkX := HPk
        have HRkX := HRk
        have HBX := HB
        have HSX := Lib.hid (Nat.le_refl wr.heap.size)
        go_wp2_with fail
        have HNm := Lib.hid (name_any HPkX.out HG.out (by omega) (by omega) A N (by omega))
        have HRN := Lib.hid (fun wx vx (h : Rk wx (q + 1) q vx K e) => rname_any h HG.out (by omega) A N (by omega))
        obtain ⟨g1, g2, g3⟩ := next_good HG.out he66 A N
        unfold NamePost at HNm
        unfold RNamePost at HRN
        obtain ⟨c, hc⟩ : ∃ c, pkE e A N = c := ⟨_, rfl⟩
        obtain ⟨L, hL⟩ : ∃ L, nameB K e A N = L := ⟨_, rfl⟩
        obtain ⟨K', hK'⟩ : ∃ K', nameK K e A N = K' := ⟨_, rfl⟩
        obtain ⟨e', he'⟩ : ∃ e', nameE K e A N = e' := ⟨_, rfl⟩
        rw [hK'] at g1 g2
        rw [he'] at g3
        simp only [hc, hL, hK', he'] at HNm HRN
        have HG' := Lib.hid g1
        have hK2 : K'.length ≤ 127 * (k + 1) := by omega
        have tcc : (c != c) = false := by simp
        have tkk : (((K'.length : Nat) : Int) != (K'.length : Nat)) = false := by simp
        clear g1 g2 hc hL hK' he'
        refine HNm.out.mono ?_; rintro e0 w4 ⟨va, rfl, hoA, hpk, has⟩
        obtain ⟨av, cv, rfl⟩ := hoA.shape
        have hne := Hne.out
        have HPk4 := Lib.hid hpk
        have HO4 := Lib.hid hoA
        have HRk4 := Lib.hid (HRkX.out.aside has (fun h => by omega) fun b hb h => by have := (HRkX.out.own.lt b hb).1; omega)
        have HB4 := Lib.hid (below_aside HBX.out has fun b hb => ⟨Nat.lt_of_lt_of_le hb HBX.out.size, by omega⟩)
        have HsA := Lib.hid has.size
        clear hne hpk hoA has HNm
        obtain ⟨j0, j1, j2⟩ := HD.out _ HB4.out
        go_wp2_with fail
        refine (HRN.out _ _ HRk4.out).mono ?_; rintro e0 w5 ⟨vb, vy, rfl, hsl, hrk, has⟩
        have hne := Hne.out
        have HPk5 := Lib.hid (HPk4.out.aside has (fun h => h.elim (fun h => by omega) fun h => by have := (HRk4.out.own.lt p h).1; omega) (fun h => h.elim (fun h => by omega) fun h => by have := (HRk4.out.own.lt bm h).1; omega))
        have HO5 := Lib.hid (HO4.out.aside has fun b hb h => h.elim (fun h => by have := (HO4.out.lt b hb).1; have := HRkX.out.lt; have := HRkX.out.size; have := HSX.out; omega) fun h => apart_BK HO4.out HRk4.out.own b hb h)
        have HB5 := Lib.hid (below_aside HB4.out has fun b hb => ⟨Nat.lt_of_lt_of_le hb HB4.out.size, fun h => h.elim (fun h => by omega) fun h => by have := (HRk4.out.own.lt b h).1; omega⟩)
        have hdr : Below w5.heap.size w5 w5.drew := (Below.refl _ _).drew
        have HSm := Lib.hid (same_any (HO5.out.below hdr).sl (hsl.later hdr))
        have HKn := Lib.hid (known_any (HPk5.out.later hdr))
        have HOv := Lib.hid (over_B (HO5.out.below hdr))
        have HPkD := Lib.hid (HPk5.out.later hdr)
        have HRkD := Lib.hid (hrk.later hdr)
        have HOD := Lib.hid (HO5.out.below hdr)
        have HBD := Lib.hid (bel_call HB5.out hdr)
        have HsD := Lib.hid (show wr.heap.size ≤ w4.heap.size ∧ w4.heap.size ≤ w5.drew.heap.size from ⟨Nat.le_trans HSX.out HsA.out, Nat.le_trans has.size hdr.size⟩)
        obtain ⟨ab, cb, rfl, _⟩ := hsl
        obtain ⟨ay, cy, rfl⟩ := hrk.own.shape
        have k0 := hrk.row
        simp only [iz_len] at HSm ⊢
        clear hne hrk has j0 j1 j2 hdr HPk4 HO4 HRk4 HB4 HPk5 HO5 HB5 HRN HPkX HBX
        go_wp2_with fail
        have kD := HRkD.out.row
        go_region_held3 (fun wx => wx.cell? ⟨q, 0, none⟩ = some (.slice ay K'.length cy)) (first | exact k0 | exact kD) (first | (go_at_call 20; refine HSm.out.mono ?_; rintro e0 wy ⟨rfl, rfl⟩) | (go_at_call 21; refine HKn.out.mono ?_; rintro e0 wy ⟨rfl, rfl⟩))
        go_wp2_with fail
        refine HOv.out.mono ?_; rintro e0 w7 ⟨rfl, has⟩
        have hne := Hne.out
        have hq1 := HRkX.out.size
        have HPk7 := Lib.hid (HPkD.out.aside has (fun h => by have := h.1; omega) (fun h => by have := h.1; omega))
        have HRk7 := Lib.hid (HRkD.out.aside has (fun h => by have := h.1; omega) (fun b hb h => apart_BK HOD.out HRkD.out.own b h.2 hb))
        have HB7 := Lib.hid (below_aside HBD.out has fun b hb => ⟨Nat.lt_of_lt_of_le hb HBD.out.size, fun h => by have := h.1; omega⟩)
        clear has hne hq1 k0 kD
        go_wp2_with fail
        go_roundg (l.length - (k + 1))
        case measure => omega
        case rel => exact ⟨k + 1, K', e', _, by omega, by go_num, hK2, g3, HG', HPk7, HRk7, HB7⟩
    · have hke : k = l.length := by omega
      have t1 : ¬ ((k : Int) < l.length) := by omega
      go_wp2_with fail
      refine (HAW.out _).mono ?_; rintro e0 w4 ⟨rfl, hb⟩
      have HB4 := Lib.hid (bel_call HB.out hb)
      clear hb
      go_wp2_with fail
      go_ret
      exact ⟨rfl, HB4.out⟩

/-- The statement. -/
theorem packs_any {v : Value} {l : List AV} (w : World) (h : Ac w w.heap.size v l) : Calls Try.prog 4 #[v] w (Tells w (.bool true)) := by
  by_cases hc : longA l = true
  · exact packs_long w h hc
  · exact packs_core w h (by simpa using hc)
end Go.Proofs.Ythhfgbfipogppaa
