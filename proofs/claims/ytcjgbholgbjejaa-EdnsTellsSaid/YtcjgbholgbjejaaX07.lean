/-
  A message without what it says besides says nothing: EdnsStrips.
-/
import Derived.Test.YtcjgbholgbjejaaX06
import Derived.Test.YtcjgbholgbjejaaX03
import Derived.Test.YtcjgbholgbjejaaX04
import Derived.Test.YtcjgbholgbjejaaX05
import Derived.Test.YtcjgbholgbjejaaX02
namespace Go.Proofs.Ytcjgbholgbjejaa
open Go.RowKit Go.Shelf
set_option linter.unusedVariables false
set_option linter.unusedSimpArgs false
set_option maxRecDepth 100000

theorem mild_of {most M : Nat} {m : Ms} (h : bigMs most M m = false) (h1 : most ≤ 800000) (h2 : M ≤ 900000) : Mild m ∧ m.q.length + m.an.length + m.ns.length + m.ar.length ≤ 800000 := by
  obtain ⟨k1, k2, k3, k4, k5⟩ := bigMs_no h
  exact ⟨⟨by omega, fun x hx => by have := k2 x hx; omega, fun x hx => by have := k3 x hx; omega, fun x hx => by have := k4 x hx; omega, fun x hx => by have := k5 x hx; omega⟩, by omega⟩

end Go.Proofs.Ytcjgbholgbjejaa

/-
  The document's own: how many records of a list are of the type, and those that are not: many, without.
-/
namespace Go.Proofs.Ytcjgbholgbjejaa
open Go.RowKit Go.Shelf
set_option linter.unusedVariables false
set_option linter.unusedSimpArgs false
set_option maxRecDepth 100000

set_option maxHeartbeats 1000000 in
theorem rmany_any {w : World} {hi : Nat} {u : Value} {l : List Rc} (h : SR w hi u l) (h1 : hi ≤ w.heap.size) (hl : l.length ≤ 900000) :
    Calls Try.prog 33 #[u] w (Tells w (.int .i64 (opL l).length)) := by
  have HX := Lib.hid h
  have HN := Lib.hid (Lst.len h)
  have HL := Lib.hid hl
  obtain ⟨a, c, rfl⟩ := Lst.shape h
  have HB0 := Lib.hid (Below.refl w.heap.size w)
  have HHI := Lib.hid h1
  obtain ⟨R, hR⟩ : ∃ r, (opL l).length = r := ⟨_, rfl⟩
  rw [hR]
  have HRR := Lib.hid hR
  clear h h1 hl hR
  go_enter Try.func33, Try.ntmps33
  go_wp2_with fail
  go_loopg [3, 4] l.length (fun g v3 v4 wr => ∃ k : Nat, k + g = l.length ∧ v4 = .int .i64 k ∧ (∃ n : Nat, v3 = .int .i64 n ∧ Hid (((l.take k).filter isO).length = n)) ∧ Hid (Below w.heap.size w wr))
  case atStart => exact ⟨0, by omega, rfl, ⟨0, rfl, by simp [Hid]⟩, HB0⟩
  case round =>
    clear HB0
    obtain ⟨k, hk, rfl, ⟨n, rfl, HA⟩, HB⟩ := hrel
    have hlen := HN.out
    have hnb : n ≤ 900000 := by rw [← HA.out]; exact Nat.le_trans (List.length_filter_le _ _) (Nat.le_trans (by rw [List.length_take]; omega) HL.out)
    by_cases hlt : k < l.length
    · obtain ⟨b, off, c2, he, hb, hc⟩ := HX.out.at_ k hlt
      injection he with he hn3 hc3
      clear hn3 hc3
      subst he
      obtain ⟨c0, c1, c2, c3, c4⟩ := hc.keep fun o => HB.out.cell (p := ⟨b, o, none⟩) (Nat.lt_of_lt_of_le hb HHI.out)
      have HTK := Lib.hid (show l.take (k + 1) = l.take k ++ [l[k]] by rw [List.take_add_one, List.getElem?_eq_getElem hlt]; rfl)
      obtain ⟨x, hx⟩ : ∃ x, l[k] = x := ⟨_, rfl⟩
      rw [hx] at c0 c1 c2 c3 c4 HTK
      clear hc hx hb
      by_cases hp : x.t = 41
      · have HA6 := Lib.hid (show ((l.take (k + 1)).filter isO).length = n + 1 by rw [HTK.out, List.filter_append, List.length_append, HA.out, List.filter_cons_of_pos (by simp [isO, hp])]; rfl)
        have t1 : (x.t == 41) = true := by simpa using hp
        clear HA HTK
        go_wp2_with fail
        go_roundg (l.length - (k + 1))
        case measure => omega
        case rel => exact ⟨k + 1, by omega, by go_num, ⟨n + 1, by go_num, HA6⟩, HB⟩
      · have HA6 := Lib.hid (show ((l.take (k + 1)).filter isO).length = n by rw [HTK.out, List.filter_append, List.length_append, HA.out, List.filter_cons_of_neg (by simp [isO, hp])]; rfl)
        have t1 : (x.t == 41) = false := by simpa using hp
        clear HA HTK
        go_wp2_with fail
        go_roundg (l.length - (k + 1))
        case measure => omega
        case rel => exact ⟨k + 1, by omega, by go_num, ⟨n, rfl, HA6⟩, HB⟩
    · have t1 : ¬ ((k : Int) < l.length) := by omega
      have hkl : l.take k = l := List.take_of_length_le (by omega)
      rw [hkl] at HA
      have hn2 : n = R := by rw [← HRR.out, ← HA.out]; rfl
      subst hn2
      clear hkl HA HRR
      go_wp2_with fail
      go_ret
      exact ⟨rfl, HB.out⟩

set_option maxHeartbeats 1000000 in
theorem rwithout_any {w : World} {hi : Nat} {u : Value} {l : List Rc} (h : SR w hi u l) (h1 : hi ≤ w.heap.size) (hl : l.length ≤ 900000) :
    Calls Try.prog 38 #[u] w (fun e w' => ∃ v, e = .returned v ∧ OwnRc w' w.heap.size v (noL l) ∧ Below w.heap.size w w') := by
  have HX := Lib.hid h
  have HN := Lib.hid (Lst.len h)
  have HL := Lib.hid hl
  obtain ⟨a, c, rfl⟩ := Lst.shape h
  obtain ⟨N, hN⟩ : ∃ N, w.heap.size = N := ⟨_, rfl⟩
  have HK0 := Lib.hid (show OwnRc w N (.slice none 0 0) [] from World.ownsRow_nil _ _ _ _)
  have HB0 := Lib.hid (show Below N w w from Below.refl _ _)
  have HHI := Lib.hid (show hi ≤ N by omega)
  clear h h1 hl
  go_enter Try.func38, Try.ntmps38
  go_wp2_with fail
  go_loopg [3, 4] l.length (fun g v3 v4 wr => ∃ k : Nat, k + g = l.length ∧ v4 = .int .i64 k ∧ Hid (OwnRc wr N v3 ((l.take k).filter fun x => !isO x)) ∧ Hid (Below N w wr) ∧ N ≤ wr.heap.size)
  case atStart => exact ⟨0, by omega, rfl, by simpa using HK0, HB0, by omega⟩
  case round =>
    clear HK0 HB0
    obtain ⟨k, hk, rfl, HK, HB, hsz⟩ := hrel
    have hlen := HN.out
    by_cases hlt : k < l.length
    · obtain ⟨b, off, c2, he, hb, hc⟩ := HX.out.at_ k hlt
      injection he with he hn3 hc3
      clear hn3 hc3
      subst he
      obtain ⟨c0, c1, c2, c3, c4⟩ := hc.keep fun o => HB.out.cell (p := ⟨b, o, none⟩) (Nat.lt_of_lt_of_le hb HHI.out)
      have HTK := Lib.hid (show l.take (k + 1) = l.take k ++ [l[k]] by rw [List.take_add_one, List.getElem?_eq_getElem hlt]; rfl)
      obtain ⟨x, hx⟩ : ∃ x, l[k] = x := ⟨_, rfl⟩
      rw [hx] at c0 c1 c2 c3 c4 HTK
      obtain ⟨L, hL⟩ : ∃ L, ((l.take k).filter fun x => !isO x) = L := ⟨_, rfl⟩
      rw [hL] at HK
      have HLL := Lib.hid (show L.length ≤ 900000 by rw [← hL]; exact Nat.le_trans (List.length_filter_le _ _) (Nat.le_trans (by rw [List.length_take]; omega) HL.out))
      have HTF := Lib.hid (show ((l.take (k + 1)).filter fun x => !isO x) = L ++ ([x].filter fun x => !isO x) by rw [HTK.out, List.filter_append, hL])
      clear hc hx hb hL HTK
      by_cases hp : x.t = 41
      · have hfe : ((l.take (k + 1)).filter fun x => !isO x) = L := by rw [HTF.out, List.filter_cons_of_neg (by simp [isO, hp]), List.filter_nil, List.append_nil]
        have HK6 := HK
        rw [← hfe] at HK6
        have t1 : (x.t != 41) = false := by simp [hp]
        have HSZ := Lib.hid hsz
        clear hfe HK HTF hsz
        go_wp2_with fail
        go_roundg (l.length - (k + 1))
        case measure => omega
        case rel => exact ⟨k + 1, by omega, by go_num, HK6, HB, HSZ.out⟩
      · have hone := sr_one wr x
        have hb4 : Below wr.heap.size wr (wr.alloc (.cells #[.string (bs x.n), .int .i64 x.t, .int .i64 x.c, .int .i64 x.l, .string (bs x.d)] 48)) := (Below.refl _ _).alloc (Nat.le_refl _) _
        have hsz4 : N ≤ (wr.alloc (.cells #[.string (bs x.n), .int .i64 x.t, .int .i64 x.c, .int .i64 x.l, .string (bs x.d)] 48)).heap.size := by simp; omega
        obtain ⟨a6, c6, w6, hr, hk6, ha6, _⟩ := run_appRc (row_below HK.out hb4) hone (by have := HLL.out; simp; omega) hsz4
        have hf : ((l.take (k + 1)).filter fun x => !isO x) = L ++ [x] := by rw [HTF.out, List.filter_cons_of_pos (by simp [isO, hp]), List.filter_nil]
        have HK6 := Lib.hid (show OwnRc w6 N (.slice a6 (L.length + 1) c6) ((l.take (k + 1)).filter fun x => !isO x) by rw [hf]; exact hk6)
        have hlow := World.ownsRow.lt HK.out
        have HB6 := Lib.hid (below_aside (HB.out.alloc (by omega) _) ha6 (fun k hk => ⟨by omega, fun hg => by have := (hlow _ hg).1; omega⟩))
        have HSZ := Lib.hid (Nat.le_trans hsz4 ha6.size)
        obtain ⟨av, cv, rfl⟩ := row_shape HK.out
        have HR := Lib.hid (show (Builtin.append_ #[23, 23] 23 #[.slice av L.length cv, _]).run Try.prog _ = .ok (.slice a6 (L.length + 1) c6) w6 from hr)
        have t1 : (x.t != 41) = true := by simpa using hp
        clear hone hb4 hsz4 hr hk6 ha6 hf HK HB hlow hsz HTF
        go_wp2_with (at_builtin; refine wpList_append_run (.tmp 17) (.tmp 22) 23 23 rfl rfl rfl rfl HR.out ?_)
        go_roundg (l.length - (k + 1))
        case measure => omega
        case rel => exact ⟨k + 1, by omega, by go_num, HK6, HB6, HSZ.out⟩
    · have t1 : ¬ ((k : Int) < l.length) := by omega
      have hkl : l.take k = l := List.take_of_length_le (by omega)
      rw [hkl] at HK
      clear hkl
      go_wp2_with fail
      go_ret
      exact ⟨_, rfl, by first | exact HK.out | (rw [hN]; exact HK.out), by first | exact HB.out | (rw [hN]; exact HB.out)⟩
end Go.Proofs.Ytcjgbholgbjejaa

/-
  The document's own Strip.
-/
namespace Go.Proofs.Ytcjgbholgbjejaa
open Go.RowKit Go.Shelf
set_option linter.unusedVariables false
set_option linter.unusedSimpArgs false
set_option maxRecDepth 100000

theorem Bm.put2 {w wr : World} {N : Nat} {i f : Int} {q a n r : Value} (h : Bm w wr N i f q a n r) (v : Value) : Bm w (wr.setCell ⟨N, 2, none⟩ v) N i f v a n r :=
  ⟨below_aside h.bel (bm_side _ _ _ _) (fun k hk => ⟨by have := h.size; omega, by omega⟩), h.x.set (o := 2) (by simp) v, h.z.other (a := ⟨N, 2, none⟩) (by show N ≠ N + 1; omega) _, Nat.le_trans h.size (bm_side wr N 2 v).size⟩

set_option maxHeartbeats 2000000 in
theorem rstrip_any {w : World} {hi : Nat} {u : Value} {m : Ms} (h : Mg w hi u m) (h1 : hi ≤ w.heap.size) (hm : Mild m) :
    Calls Try.prog 12 #[u] w (fun e w' => ∃ v, e = .returned v ∧ OwnM w' w.heap.size v (stM m) ∧ Below w.heap.size w w') := by
  obtain ⟨i0, f0, l, lan, lns, lar⟩ := m
  obtain ⟨q, a, n, r, rfl, hq, h2, h3, h4⟩ := h
  unfold stM
  have hl := hm.1
  simp only at hl hq h2 h3 h4 ⊢
  obtain ⟨N, hN⟩ : ∃ g, w.heap.size = g := ⟨_, rfl⟩
  have HCA := Lib.hid (fun wx (hb : Below N w wx) => rwithout_any (Lst.below h2 hb (by omega)) (Nat.le_trans (by omega : hi ≤ N) (by have := hb.size; omega)) (by omega))
  have HCN := Lib.hid (fun wx (hb : Below N w wx) => rwithout_any (Lst.below h3 hb (by omega)) (Nat.le_trans (by omega : hi ≤ N) (by have := hb.size; omega)) (by omega))
  have HCR := Lib.hid (fun wx (hb : Below N w wx) => rwithout_any (Lst.below h4 hb (by omega)) (Nat.le_trans (by omega : hi ≤ N) (by have := hb.size; omega)) (by omega))
  have HQ := Lib.hid (fun wx (hb : Below N w wx) => Lst.below hq hb (by omega : hi ≤ N))
  obtain ⟨xa, xc, rfl⟩ := Lst.shape hq
  obtain ⟨aa, ac, rfl⟩ := Lst.shape h2
  obtain ⟨na, nc, rfl⟩ := Lst.shape h3
  obtain ⟨ra, rc, rfl⟩ := Lst.shape h4
  obtain ⟨la, hla⟩ : ∃ i, lan.length = i := ⟨_, rfl⟩
  obtain ⟨ln, hln⟩ : ∃ i, lns.length = i := ⟨_, rfl⟩
  obtain ⟨lr, hlr⟩ : ∃ i, lar.length = i := ⟨_, rfl⟩
  rw [hla] at HCA
  rw [hln] at HCN
  rw [hlr] at HCR
  rw [hla, hln, hlr]
  have HL := Lib.hid (show l.length ≤ 900000 by omega)
  have hp := bm_start w i0 f0 (.slice xa l.length xc) (.slice aa la ac) (.slice na ln nc) (.slice ra lr rc) hN
  obtain ⟨W, hW⟩ : ∃ X, (w.alloc (.cells #[.int .i64 i0, .int .i64 f0, .slice xa l.length xc, .slice aa la ac, .slice na ln nc, .slice ra lr rc] 25)).alloc (.cells #[.int .i64 0, .int .i64 0, .slice none 0 0, .slice none 0 0, .slice none 0 0, .slice none 0 0] 25) = X := ⟨_, rfl⟩
  have hsz : W.heap.size = N + 2 := by rw [← hW]; simp [hN]
  rw [hW] at hp
  have ho := World.ownsRow_made (e := 50) (size := 3) (base := N + 2) W #[] 0 (by omega) (by decide) (by simp)
  have hbW : Below W.heap.size W (W.alloc (.cells #[] 50)) := (Below.refl _ _).alloc (Nat.le_refl _) _
  have hp1 := hp.later hbW
  rw [hsz] at ho
  obtain ⟨a2, c2, w2, hr2, ho2, ha2, _⟩ := run_appQn (show OwnQn (W.alloc (.cells #[] 50)) (N + 2) (.slice (some ⟨N + 2, 0, none⟩) 0 0) [] from ho) (HQ.out _ hp1.bel) (by have := HL.out; simp; omega) hp1.size
  have hlow := World.ownsRow.lt ho
  have hp2 : Bm w w2 N i0 f0 (.slice xa l.length xc) (.slice aa la ac) (.slice na ln nc) (.slice ra lr rc) :=
    ⟨below_aside hp1.bel ha2 (fun k hk => ⟨by have := hp1.size; omega, fun hg => by have := (hlow _ hg).1; omega⟩), hp1.x.aside (by simp) ha2 (fun hg => by simp [Value.ownBlock] at hg), hp1.z.aside (by simp) ha2 (fun hg => by simp [Value.ownBlock] at hg), Nat.le_trans hp1.size ha2.size⟩
  simp only [List.length_nil, Nat.zero_add, List.nil_append] at hr2 ho2
  have HR := Lib.hid hr2
  have HP2 := Lib.hid hp2
  have HO2 := Lib.hid ho2
  have x2 : W.cell? ⟨N, 2, none⟩ = some (.slice xa l.length xc) := hp.x.c 2 (by simp)
  obtain ⟨y0, y1, y2, y3, y4, y5⟩ := hp2.x.six
  have fy := hp2.x.fz
  clear hq h2 h3 h4 h1 hm hl hla hln hlr hp ho hbW hp1 hr2 ho2 ha2 hlow hp2
  go_enter Try.func12, Try.ntmps12
  go_wp2_with (at_builtin; refine wpList_append_run (.tmp 3) (.tmp 5) 22 22 rfl rfl rfl rfl HR.out ?_)
  have HP := Lib.hid (HP2.out.put2 (.slice a2 l.length c2))
  have HQ3 := Lib.hid (show OwnQn (w2.setCell ⟨N, 2, none⟩ (.slice a2 l.length c2)) (N + 2) (.slice a2 l.length c2) l from row_aside HO2.out (bm_side w2 N 2 _) (fun k hk => by have := (World.ownsRow.lt HO2.out k hk).1; omega))
  clear HR HP2 HO2 x2 y0 y1 y2 y3 y4 y5 fy
  obtain ⟨W3, hW3⟩ : ∃ X, w2.setCell ⟨N, 2, none⟩ (.slice a2 l.length c2) = X := ⟨_, rfl⟩
  rw [hW3] at HP HQ3 ⊢
  clear hW3 hsz hW
  refine (HCA.out _ HP.out.bel).mono ?_; rintro e w3 ⟨v, rfl, ho, hb⟩
  obtain ⟨ava, cva, rfl⟩ := row_shape ho
  have HA := Lib.hid (show OwnRc w3 (N + 2) _ _ from row_base ho HP.out.size)
  replace HQ3 := Lib.hid (show OwnQn w3 (N + 2) _ _ from row_below HQ3.out hb)
  replace HP := Lib.hid (HP.out.later hb)
  clear ho hb
  obtain ⟨y0, y1, y2, y3, y4, y5⟩ := HP.out.x.six
  have fy := HP.out.x.fz
  go_wp2_with fail
  have HPb := Lib.hid (HP.out.put3 (.slice ava (noL lan).length cva))
  replace HQ3 := Lib.hid (show OwnQn (w3.setCell ⟨N, 3, none⟩ (.slice ava (noL lan).length cva)) (N + 2) _ _ from row_aside HQ3.out (bm_side w3 N 3 _) (fun k hk => by have := (World.ownsRow.lt HQ3.out k hk).1; omega))
  replace HA := Lib.hid (show OwnRc (w3.setCell ⟨N, 3, none⟩ (.slice ava (noL lan).length cva)) (N + 2) _ _ from row_aside HA.out (bm_side w3 N 3 _) (fun k hk => by have := (World.ownsRow.lt HA.out k hk).1; omega))
  clear HP y0 y1 y2 y3 y4 y5 fy
  obtain ⟨W4, hW4⟩ : ∃ X, w3.setCell ⟨N, 3, none⟩ (.slice ava (noL lan).length cva) = X := ⟨_, rfl⟩
  rw [hW4] at HPb HQ3 HA ⊢
  clear hW4
  refine (HCN.out _ HPb.out.bel).mono ?_; rintro e w4 ⟨v, rfl, ho, hb⟩
  obtain ⟨avn, cvn, rfl⟩ := row_shape ho
  have HN2 := Lib.hid (show OwnRc w4 (N + 2) _ _ from row_base ho HPb.out.size)
  replace HQ3 := Lib.hid (show OwnQn w4 (N + 2) _ _ from row_below HQ3.out hb)
  replace HA := Lib.hid (show OwnRc w4 (N + 2) _ _ from row_below HA.out hb)
  have HP := Lib.hid (HPb.out.later hb)
  clear ho hb HPb
  obtain ⟨y0, y1, y2, y3, y4, y5⟩ := HP.out.x.six
  have fy := HP.out.x.fz
  go_wp2_with fail
  have HPb := Lib.hid (HP.out.put4 (.slice avn (noL lns).length cvn))
  replace HQ3 := Lib.hid (show OwnQn (w4.setCell ⟨N, 4, none⟩ (.slice avn (noL lns).length cvn)) (N + 2) _ _ from row_aside HQ3.out (bm_side w4 N 4 _) (fun k hk => by have := (World.ownsRow.lt HQ3.out k hk).1; omega))
  replace HA := Lib.hid (show OwnRc (w4.setCell ⟨N, 4, none⟩ (.slice avn (noL lns).length cvn)) (N + 2) _ _ from row_aside HA.out (bm_side w4 N 4 _) (fun k hk => by have := (World.ownsRow.lt HA.out k hk).1; omega))
  replace HN2 := Lib.hid (show OwnRc (w4.setCell ⟨N, 4, none⟩ (.slice avn (noL lns).length cvn)) (N + 2) _ _ from row_aside HN2.out (bm_side w4 N 4 _) (fun k hk => by have := (World.ownsRow.lt HN2.out k hk).1; omega))
  clear HP y0 y1 y2 y3 y4 y5 fy
  obtain ⟨W5, hW5⟩ : ∃ X, w4.setCell ⟨N, 4, none⟩ (.slice avn (noL lns).length cvn) = X := ⟨_, rfl⟩
  rw [hW5] at HPb HQ3 HA HN2 ⊢
  clear hW5
  refine (HCR.out _ HPb.out.bel).mono ?_; rintro e w5 ⟨v, rfl, ho, hb⟩
  obtain ⟨avr, cvr, rfl⟩ := row_shape ho
  have HR2 := Lib.hid (show OwnRc w5 (N + 2) _ _ from row_base ho HPb.out.size)
  replace HQ3 := Lib.hid (show OwnQn w5 (N + 2) _ _ from row_below HQ3.out hb)
  replace HA := Lib.hid (show OwnRc w5 (N + 2) _ _ from row_below HA.out hb)
  replace HN2 := Lib.hid (show OwnRc w5 (N + 2) _ _ from row_below HN2.out hb)
  have HP := Lib.hid (HPb.out.later hb)
  clear ho hb HPb
  have hp6 := HP.out.put5 (.slice avr (noL lar).length cvr)
  have hs5 := bm_side w5 N 5 (.slice avr (noL lar).length cvr)
  have HOM := Lib.hid (show OwnM (w5.setCell ⟨N, 5, none⟩ (.slice avr (noL lar).length cvr)) (N + 2) (.agg #[.int .i64 i0, .int .i64 f0, .slice a2 l.length c2, .slice ava (noL lan).length cva, .slice avn (noL lns).length cvn, .slice avr (noL lar).length cvr]) ⟨i0, f0, l, noL lan, noL lns, noL lar⟩ from
    ⟨_, _, _, _, rfl, row_aside HQ3.out hs5 (fun k hk => by have := (World.ownsRow.lt HQ3.out k hk).1; omega), row_aside HA.out hs5 (fun k hk => by have := (World.ownsRow.lt HA.out k hk).1; omega), row_aside HN2.out hs5 (fun k hk => by have := (World.ownsRow.lt HN2.out k hk).1; omega), row_aside HR2.out hs5 (fun k hk => by have := (World.ownsRow.lt HR2.out k hk).1; omega)⟩)
  have hfin := hp6.fin (.int .i64 i0) (.int .i64 f0) (.slice a2 l.length c2) (.slice ava (noL lan).length cva) (.slice avn (noL lns).length cvn) (.slice avr (noL lar).length cvr)
  have HF := Lib.hid (And.intro hfin.1 (HOM.out.aside hfin.2.2 (fun k hk => by omega)))
  obtain ⟨m0, m1, m2, m3, m4, m5⟩ := hfin.2.1.six
  have HM := Lib.hid (show _ ∧ _ ∧ _ ∧ _ ∧ _ ∧ _ from ⟨m0, m1, m2, m3, m4, m5⟩)
  unfold put6 at HF HM
  obtain ⟨y0, y1, y2, y3, y4, y5⟩ := HP.out.x.six
  have fy := HP.out.x.fz
  obtain ⟨z0, z1, z2, z3, z4, z5⟩ := HP.out.z.six
  have fz := HP.out.z.fz
  clear HP hp6 hs5 HOM hfin m0 m1 m2 m3 m4 m5 HQ3 HA HN2 HR2
  go_wp2_with fail
  clear z0 z1 z2 z3 z4 z5 fz y0 y1 y2 y3 y4 y5 fy
  obtain ⟨m0, m1, m2, m3, m4, m5⟩ := HM.out
  refine bodyPost_ret (v := .agg #[.int .i64 i0, .int .i64 f0, .slice a2 l.length c2, .slice ava (noL lan).length cva, .slice avn (noL lns).length cvn, .slice avr (noL lar).length cvr]) (by simp [results, Try.results12, go_sem, m0, m1, m2, m3, m4, m5]) rfl ⟨_, rfl, ?_, ?_⟩
  · first | exact HF.out.2.base (by omega) | (rw [hN]; exact HF.out.2.base (by omega))
  · first | exact HF.out.1 | (rw [hN]; exact HF.out.1)
end Go.Proofs.Ytcjgbholgbjejaa

/-
  The document's own options.
-/
namespace Go.Proofs.Ytcjgbholgbjejaa
open Go.RowKit Go.Shelf
set_option linter.unusedVariables false
set_option linter.unusedSimpArgs false
set_option maxRecDepth 100000

/-- What the document's three readings of an option tell, put together. -/
theorem otR_parts (b : List UInt8) (p : Nat) (hp : p < b.length) {I1 N2 K2 : Int} (h1 : getF 2 b.length p (p + 2) = I1) (h2 : getF 2 b.length I1 (nAt2 (iz b) I1.toNat) = N2) (h3 : getF 2 b.length I1 (I1 + 2) = K2) :
    (∀ x q, otR b p = .ok x q → getE 2 b.length p = 0 ∧ getE 2 b.length I1 = 0 ∧ bytE b.length K2 N2 = 0 ∧ getF 2 b.length p (nAt2 (iz b) (p : Int).toNat) = x.c ∧ bytL (iz b) K2 N2 = iz x.d ∧ bytF b.length K2 N2 = q) ∧
    (∀ a, otR b p = .bad a → ¬ (getE 2 b.length p = 0 ∧ getE 2 b.length I1 = 0 ∧ bytE b.length K2 N2 = 0)) := by
  by_cases c1 : b.length < p + 2
  · refine ⟨fun x q h => ?_, fun a _ hh => ?_⟩
    · unfold otR at h; rw [if_pos (by omega)] at h; cases h
    · have := hh.1
      unfold getE at this
      rw [if_neg (by omega), if_pos (by omega)] at this
      cases this
  · have e1 : I1 = p + 2 := by rw [← h1]; unfold getF; rw [if_pos (by omega)]
    subst e1
    by_cases c2 : b.length < p + 4
    · refine ⟨fun x q h => ?_, fun a _ hh => ?_⟩
      · unfold otR at h; rw [if_pos (by omega)] at h; cases h
      · have := hh.2.1
        unfold getE at this
        rw [if_neg (by omega), if_pos (by omega)] at this
        cases this
    · have e3 : K2 = p + 4 := by rw [← h3]; unfold getF; rw [if_pos (by omega)]; omega
      have e2 : N2 = n2 b (p + 2) := by rw [← h2]; unfold getF; rw [if_pos (by omega), show ((p : Int) + 2).toNat = p + 2 by omega, n2_at (by omega)]
      subst e3; subst e2
      obtain ⟨n, hn⟩ : ∃ n, n2 b (p + 2) = n := ⟨_, rfl⟩
      rw [hn]
      by_cases c3 : b.length < p + 4 + n
      · refine ⟨fun x q h => ?_, fun a _ hh => ?_⟩
        · unfold otR at h; rw [if_neg (by omega), hn, if_pos c3] at h; cases h
        · have := hh.2.2
          unfold bytE at this
          rw [if_neg (by omega), if_neg (by omega), if_pos (by omega)] at this
          cases this
      · refine ⟨fun x q h => ?_, fun a h => ?_⟩
        · unfold otR at h
          rw [if_neg (by omega), hn, if_neg c3] at h
          injection h with hx hq
          subst hx; subst hq
          refine ⟨by unfold getE; rw [if_neg (by omega), if_neg (by omega)], by unfold getE; rw [if_neg (by omega), if_neg (by omega)], by unfold bytE; rw [if_neg (by omega), if_neg (by omega), if_neg (by omega)], ?_, ?_, ?_⟩
          · unfold getF; rw [if_pos (by omega), Int.toNat_natCast, n2_at (by omega)]
          · unfold bytL; rw [iz_len, if_pos (by omega), show ((p : Int) + 4).toNat = p + 4 by omega, Int.toNat_natCast, iz_cut2]
          · unfold bytF; rw [if_pos (by omega)]; omega
        · unfold otR at h; rw [if_neg (by omega), hn, if_neg c3] at h; cases h

theorem otsR_step {b : List UInt8} {f p q : Nat} {x : Ot} (h : p < b.length) (hr : otR b p = .ok x q) : otsR b (f + 1) p = (x :: (otsR b f q).1, (otsR b f q).2) := by
  rw [otsR, if_neg (by omega), hr]

theorem so_one (w : World) (x : Ot) : SO (w.alloc (.cells #[.int .i64 x.c, .string (bs x.d)] 61)) (w.heap.size + 1) (.slice (some ⟨w.heap.size, 0, none⟩) 1 1) [x] :=
  ⟨_, 1, rfl, by simp, fun h => by simp at h, fun _ => ⟨w.heap.size, 0, rfl, by omega, fun i u hu => by
    have hc := cel_new2 w (.int .i64 x.c) (.string (bs x.d)) 61
    rw [Nat.zero_add]
    match i, hu with
    | 0, hu => rw [hc.c 0 (by simp)]; simpa [aco, co] using hu
    | 1, hu => rw [hc.c 1 (by simp)]; simpa [aco, co] using hu
    | i + 2, hu => simp [aco, co] at hu⟩⟩
theorem ownR_str {w : World} {B : Nat} {v : Value} {l : List UInt8} (h : OwnR w B v (iz l)) : (convert 67 9 v).run Try.prog w = .ok (.string (bs l)) w := by
  rw [conv_sl h.sl, str_iz]

/-- What the document's options tell of bytes. -/
def ROts (w : World) (d : List UInt8) (e : Ending) (w' : World) : Prop :=
  ∃ v, e = .returned (.tuple #[v, .bool (otsR d d.length 0).2]) ∧ ((otsR d d.length 0).2 = true → OwnO w' w.heap.size v (otsR d d.length 0).1) ∧ Below w.heap.size w w'

set_option maxHeartbeats 4000000 in
theorem roptions_any (d : List UInt8) (w : World) (hd : d.length ≤ 900000) : Calls Try.prog 34 #[.string (bs d)] w (ROts w d) := by
  unfold ROts
  obtain ⟨GL, hGL⟩ : ∃ x, (otsR d d.length 0).1 = x := ⟨_, rfl⟩
  obtain ⟨OKB, hOK⟩ : ∃ x, (otsR d d.length 0).2 = x := ⟨_, rfl⟩
  rw [hGL, hOK]
  have HGO := Lib.hid (show otsR d d.length 0 = (GL, OKB) by rw [← hGL, ← hOK])
  obtain ⟨N, hN⟩ : ∃ N, w.heap.size = N := ⟨_, rfl⟩
  obtain ⟨cap, W1, hconv, hob, hb1, hlt1⟩ := conv_B w d (by omega)
  rw [hN] at hconv hob hb1 hlt1
  obtain ⟨S1, hS1⟩ : ∃ x, W1.heap.size = x := ⟨_, rfl⟩
  have hsl := hob.sl
  rw [hS1] at hsl
  have HSL := Lib.hid (fun wx (hb : Below S1 W1 wx) => (⟨hsl.below hb (Nat.le_refl _), by have := hb.size; omega⟩ : Sl wx N S1 (.slice (some ⟨N, 0, none⟩) d.length cap) (iz d) ∧ S1 ≤ wx.heap.size))
  have HL := Lib.hid hd
  have HB1 := Lib.hid hb1
  have HNS := Lib.hid (show N < S1 by omega)
  have HK0 := Lib.hid (show OwnO W1 S1 (.slice none 0 0) [] from World.ownsRow_nil _ _ _ _)
  have HB0 := Lib.hid (show Below S1 W1 W1 from Below.refl _ _)
  clear hGL hOK hob hb1 hlt1 hsl hd
  go_enter Try.func34, Try.ntmps34
  go_wp2_with fail
  clear hconv
  go_loopg [5, 6] d.length (fun g v5 v6 wr => ∃ p fuel : Nat, ∃ L : List Ot, p + g = d.length ∧ v6 = .int .i64 p ∧ Hid (d.length ≤ p + fuel ∧ L.length ≤ p ∧ (GL, OKB) = (L ++ (otsR d fuel p).1, (otsR d fuel p).2)) ∧ Hid (OwnO wr S1 v5 L) ∧ Hid (Below S1 W1 wr))
  case atStart => exact ⟨0, d.length, [], by omega, by rfl, ⟨by omega, by simp, by rw [← HGO.out]; simp⟩, HK0, HB0⟩
  case round =>
    clear HK0 HB0
    obtain ⟨p, fuel, L, hp, rfl, HI, HK, HB⟩ := hrel
    by_cases hlt : p < d.length
    · obtain ⟨hf1, hf2, hf3⟩ := HI.out
      obtain ⟨f, rfl⟩ : ∃ f, fuel = f + 1 := ⟨fuel - 1, by omega⟩
      have hs0 := HSL.out wr HB.out
      have hl10 : (iz d).length ≤ 1000000 := by rw [iz_len]; have := HL.out; omega
      obtain ⟨N1, hN1⟩ : ∃ x, getF 2 d.length p (nAt2 (iz d) (p : Int).toNat) = x := ⟨_, rfl⟩
      obtain ⟨I1, hI1⟩ : ∃ x, getF 2 d.length p (p + 2) = x := ⟨_, rfl⟩
      obtain ⟨E1, hE1⟩ : ∃ x, getE 2 d.length p = x := ⟨_, rfl⟩
      obtain ⟨A1, hA1⟩ : ∃ x, getA 2 d.length p = x := ⟨_, rfl⟩
      obtain ⟨N2, hN2⟩ : ∃ x, getF 2 d.length I1 (nAt2 (iz d) I1.toNat) = x := ⟨_, rfl⟩
      obtain ⟨K2, hK2⟩ : ∃ x, getF 2 d.length I1 (I1 + 2) = x := ⟨_, rfl⟩
      obtain ⟨E2, hE2⟩ : ∃ x, getE 2 d.length I1 = x := ⟨_, rfl⟩
      obtain ⟨A2, hA2⟩ : ∃ x, getA 2 d.length I1 = x := ⟨_, rfl⟩
      obtain ⟨D3, hD3⟩ : ∃ x, bytL (iz d) K2 N2 = x := ⟨_, rfl⟩
      obtain ⟨X3, hX3⟩ : ∃ x, bytF d.length K2 N2 = x := ⟨_, rfl⟩
      obtain ⟨E3, hE3⟩ : ∃ x, bytE d.length K2 N2 = x := ⟨_, rfl⟩
      obtain ⟨A3, hA3⟩ : ∃ x, bytA d.length K2 N2 = x := ⟨_, rfl⟩
      have HPT := Lib.hid (otR_parts d p hlt hI1 hN2 hK2)
      rw [hN1, hE1, hE2, hE3, hD3, hX3] at HPT
      have HG1 := Lib.hid (by have h := rget16_any hs0.1 (iz_byte d) hl10 hs0.2 p; rw [iz_len, hN1, hI1, hE1, hA1] at h; exact h : Calls Try.prog 49 #[.slice (some ⟨N, 0, none⟩) d.length cap, .int .i64 p] wr (GetPost wr N1 I1 E1 A1))
      have HG2 := Lib.hid (fun wx (hb : Below S1 W1 wx) => (by have h := rget16_any (HSL.out wx hb).1 (iz_byte d) hl10 (HSL.out wx hb).2 I1; rw [iz_len, hN2, hK2, hE2, hA2] at h; exact h : Calls Try.prog 49 #[.slice (some ⟨N, 0, none⟩) d.length cap, .int .i64 I1] wx (GetPost wx N2 K2 E2 A2)))
      have HG3 := Lib.hid (fun wx (hb : Below S1 W1 wx) => (by have h := rbytes_any (HSL.out wx hb).1 hl10 (HSL.out wx hb).2 K2 N2; rw [iz_len, hD3, hX3, hE3, hA3] at h; exact h : Calls Try.prog 50 #[.slice (some ⟨N, 0, none⟩) d.length cap, .int .i64 K2, .int .i64 N2] wx (RBytesPost wx D3 X3 E3 A3)))
      have HF := Lib.hid (show d.length ≤ p + f + 1 ∧ L.length ≤ p ∧ (GL, OKB) = (L ++ (otsR d (f + 1) p).1, (otsR d (f + 1) p).2) from ⟨by omega, hf2, hf3⟩)
      have HSZ := Lib.hid (show S1 ≤ wr.heap.size from hs0.2)
      clear hf1 hf2 hf3 hs0 hl10 hN1 hI1 hE1 hA1 hN2 hK2 hE2 hA2 hD3 hX3 hE3 hA3 HI
      go_wp2_with fail
      refine HG1.out.mono ?_; rintro e w1 ⟨rfl, hb⟩
      obtain ⟨g1, hg1⟩ : ∃ g, w1.heap.size = g := ⟨_, rfl⟩
      have hba : Below w1.heap.size w1 (w1.alloc (.cells #[.int .i64 E1, .int .i64 A1] 76)) := (Below.refl _ _).alloc (Nat.le_refl _) _
      have hk1 := cel_new2 w1 (.int .i64 E1) (.int .i64 A1) 76
      rw [hg1] at hk1
      have HF1 := Lib.hid hk1
      have hsb := hb.size
      have hsa := hba.size
      replace HK := Lib.hid (show OwnO _ S1 _ _ from row_below (row_below HK.out hb) hba)
      replace HB := Lib.hid ((HB.out.trans (hb.mono HSZ.out)).trans (hba.mono (by have := HSZ.out; omega)))
      replace HSZ := Lib.hid (show S1 ≤ (w1.alloc (.cells #[.int .i64 E1, .int .i64 A1] 76)).heap.size by have := HSZ.out; omega)
      clear hb hba hk1 hsb hsa HG1
      go_wp2_with fail
      refine (HG2.out _ HB.out).mono ?_; rintro e w2 ⟨rfl, hb⟩
      obtain ⟨g2, hg2⟩ : ∃ g, w2.heap.size = g := ⟨_, rfl⟩
      have hba : Below w2.heap.size w2 (w2.alloc (.cells #[.int .i64 E2, .int .i64 A2] 76)) := (Below.refl _ _).alloc (Nat.le_refl _) _
      have hk1 := cel_new2 w2 (.int .i64 E2) (.int .i64 A2) 76
      rw [hg2] at hk1
      have HF2 := Lib.hid hk1
      have hsb := hb.size
      have hsa := hba.size
      replace HF1 := Lib.hid ((HF1.out.below (by simp) hb).below (by simp) hba)
      replace HK := Lib.hid (show OwnO _ S1 _ _ from row_below (row_below HK.out hb) hba)
      replace HB := Lib.hid ((HB.out.trans (hb.mono HSZ.out)).trans (hba.mono (by have := HSZ.out; omega)))
      replace HSZ := Lib.hid (show S1 ≤ (w2.alloc (.cells #[.int .i64 E2, .int .i64 A2] 76)).heap.size by have := HSZ.out; omega)
      clear hb hba hk1 hsb hsa HG2
      go_wp2_with fail
      refine (HG3.out _ HB.out).mono ?_; rintro e w3 ⟨dv, rfl, hdv, hb⟩
      obtain ⟨g3, hg3⟩ : ∃ g, w3.heap.size = g := ⟨_, rfl⟩
      have hba : Below w3.heap.size w3 (w3.alloc (.cells #[.int .i64 E3, .int .i64 A3] 76)) := (Below.refl _ _).alloc (Nat.le_refl _) _
      have hk1 := cel_new2 w3 (.int .i64 E3) (.int .i64 A3) 76
      rw [hg3] at hk1
      have hsb := hb.size
      have hsa := hba.size
      replace HF1 := Lib.hid ((HF1.out.below (by simp) hb).below (by simp) hba)
      replace HF2 := Lib.hid ((HF2.out.below (by simp) hb).below (by simp) hba)
      replace HK := Lib.hid (show OwnO _ S1 _ _ from row_below (row_below HK.out hb) hba)
      replace HB := Lib.hid ((HB.out.trans (hb.mono HSZ.out)).trans (hba.mono (by have := HSZ.out; omega)))
      have HDV := Lib.hid (show OwnR _ _ dv D3 from row_below hdv hba)
      have HSZ2 := Lib.hid (show S1 ≤ (w3.alloc (.cells #[.int .i64 E3, .int .i64 A3] 76)).heap.size by have := HSZ.out; omega)
      obtain ⟨m0, m1⟩ := HF1.out.two
      obtain ⟨n0, n1⟩ := HF2.out.two
      obtain ⟨q0, q1⟩ := hk1.two
      clear hb hba hk1 hsb hsa HG3 HSZ hdv HF1 HF2
      cases hr : otR d p with
      | bad a =>
        have hnot := HPT.out.2 a hr
        have hfin : (GL, OKB) = (L, false) := by rw [HF.out.2.2]; unfold otsR; rw [if_neg (by omega), hr]; simp
        injection hfin with hfa hfb
        subst hfa; subst hfb
        clear HPT HF HDV HSZ2
        by_cases z1 : E1 = 0
        · by_cases z2 : E2 = 0
          · have z3 : E3 ≠ 0 := fun h => hnot ⟨z1, z2, h⟩
            have t3 : (E3 != 0) = true := by simpa using z3
            subst z1; subst z2
            clear hnot z3
            go_wp2_with fail
            go_ret2
            exact ⟨_, rfl, (by intro h; cases h), by rw [hN]; exact HB1.out.trans (HB.out.mono (by have := HNS.out; omega))⟩
          · have t2 : (E2 != 0) = true := by simpa using z2
            subst z1
            clear hnot z2
            go_wp2_with fail
            go_ret2
            exact ⟨_, rfl, (by intro h; cases h), by rw [hN]; exact HB1.out.trans (HB.out.mono (by have := HNS.out; omega))⟩
        · have t2 : (E1 != 0) = true := by simpa using z1
          clear hnot z1
          go_wp2_with fail
          go_ret2
          exact ⟨_, rfl, (by intro h; cases h), by rw [hN]; exact HB1.out.trans (HB.out.mono (by have := HNS.out; omega))⟩
      | ok x q =>
        obtain ⟨rfl, rfl, rfl, hx1, hx2, hx3⟩ := HPT.out.1 x q hr
        have hq := otR_lt hr
        subst hx1; subst hx3
        rw [hx2] at HDV
        have HI6 := Lib.hid (show d.length ≤ q + f ∧ (L ++ [x]).length ≤ q ∧ (GL, OKB) = ((L ++ [x]) ++ (otsR d f q).1, (otsR d f q).2) from ⟨by have := HF.out.1; omega, by have := HF.out.2.1; simp; omega, by rw [HF.out.2.2, otsR_step hlt hr]; simp⟩)
        have HCV := Lib.hid (ownR_str HDV.out)
        have hone := so_one (w3.alloc (.cells #[.int .i64 0, .int .i64 A3] 76)) x
        have hb4 : Below (w3.alloc (.cells #[.int .i64 0, .int .i64 A3] 76)).heap.size (w3.alloc (.cells #[.int .i64 0, .int .i64 A3] 76)) ((w3.alloc (.cells #[.int .i64 0, .int .i64 A3] 76)).alloc (.cells #[.int .i64 x.c, .string (bs x.d)] 61)) := (Below.refl _ _).alloc (Nat.le_refl _) _
        have hlen := HF.out.2.1
        have hld := HL.out
        obtain ⟨a6, c6, w6, hr6, hk6, ha6, _⟩ := run_appOt (row_below HK.out hb4) hone (by simp; omega) (Nat.le_trans HSZ2.out hb4.size)
        have hlow := World.ownsRow.lt HK.out
        have HK6 := Lib.hid (show OwnO w6 S1 (.slice a6 (L.length + 1) c6) (L ++ [x]) from hk6)
        have HB6 := Lib.hid (below_aside (HB.out.trans (hb4.mono HSZ2.out)) ha6 (fun k hk => ⟨by have := HSZ2.out; have := hb4.size; have := HB.out.size; omega, fun hg => by have := (hlow _ hg).1; omega⟩))
        obtain ⟨av, cv, rfl⟩ := row_shape HK.out
        have HR := Lib.hid (show (Builtin.append_ #[28, 28] 28 #[.slice av L.length cv, _]).run Try.prog _ = .ok (.slice a6 (L.length + 1) c6) w6 from hr6)
        rw [World.size_alloc, hg3] at HR
        have HQ := Lib.hid hq
        have hcv := HCV.out
        clear hone hb4 hr6 hk6 ha6 hlow HK HB HDV HPT HF hq hr hlen hld HSZ2 HCV hx2
        go_wp2_with (at_builtin; refine wpList_append_run (.tmp 57) (.tmp 62) 28 28 rfl rfl rfl rfl HR.out ?_)
        go_roundg (d.length - q)
        case measure => have := HQ.out; omega
        case rel => exact ⟨q, f, L ++ [x], by have := HQ.out; omega, by go_num, HI6.out, HK6, HB6⟩
    · have t1 : ¬ ((p : Int) < d.length) := by omega
      have hfin : (GL, OKB) = (L, true) := by
        rw [HI.out.2.2]
        cases fuel with
        | zero => simp [otsR]
        | succ f => unfold otsR; rw [if_pos (by omega)]; simp
      injection hfin with hfa hfb
      subst hfa; subst hfb
      clear HI
      go_wp2_with fail
      go_ret2
      exact ⟨_, rfl, by first | exact row_base HK.out (Nat.le_of_lt HNS.out) | exact fun _ => row_base HK.out (Nat.le_of_lt HNS.out), by first | exact HB1.out.trans (HB.out.mono (by have := HNS.out; omega)) | (rw [hN]; exact HB1.out.trans (HB.out.mono (by have := HNS.out; omega)))⟩
end Go.Proofs.Ytcjgbholgbjejaa

/-
  The document's own Of.
-/
namespace Go.Proofs.Ytcjgbholgbjejaa
open Go.RowKit Go.Shelf
set_option linter.unusedVariables false
set_option linter.unusedSimpArgs false
set_option maxRecDepth 100000

theorem rshort9_any (n : Int) (b : Bool) (hb : decide (0 ≤ n ∧ n ≤ 65535) = b) (w : World) : Calls Try.prog 35 #[.int .i64 n] w fun e w' => e = .returned (.bool b) ∧ w = w' := by
  subst hb
  by_cases h0 : 0 ≤ n
  · by_cases h1 : n ≤ 65535
    · rw [decide_eq_true ⟨h0, h1⟩]
      go_enter Try.func35, Try.ntmps35
      go_wp2
      go_ret
      simp [h0, h1]
    · rw [decide_eq_false (fun h => h1 h.2)]
      have t1 : ¬ (n ≤ 65535) := h1
      go_enter Try.func35, Try.ntmps35
      go_wp2
      go_ret
      simp [h0, h1]
  · rw [decide_eq_false (fun h => h0 h.1)]
    have t1 : ¬ (0 ≤ n) := h0
    go_enter Try.func35, Try.ntmps35
    go_wp2
    go_ret
    simp [h0]
/-- The first record of the type is the only one. -/
theorem opL_first {l : List Rc} {k : Nat} {x : Rc} (hk : k < l.length) (h0 : (l.take k).filter isO = []) (h : opL l = [x]) (ht : isO l[k] = true) : l[k] = x := by
  have e : l = l.take k ++ (l[k] :: l.drop (k + 1)) := by rw [← List.drop_eq_getElem_cons hk, List.take_append_drop]
  unfold opL at h
  rw [e, List.filter_append, h0, List.nil_append, List.filter_cons_of_pos ht] at h
  injection h

set_option maxHeartbeats 4000000 in
theorem rof_any {w : World} {hi : Nat} {u : Value} {m : Ms} (h : Mg w hi u m) (h1 : hi ≤ w.heap.size) (hm : Mild m) :
    Calls Try.prog 10 #[u] w (OfPost w m) := by
  obtain ⟨i0, f0, l, lan, lns, lar⟩ := m
  obtain ⟨q, a, n, r, rfl, hq, h2, h3, h4⟩ := h
  have hl := hm.1
  have hmd := hm.2.2.2.2
  unfold OfPost
  rw [show ofM ⟨i0, f0, l, lan, lns, lar⟩ = ofL ((opL lan).length + (opL lns).length) (opL lar) from rfl]
  simp only at hl hmd hq h2 h3 h4 ⊢
  obtain ⟨N, hN⟩ : ∃ g, w.heap.size = g := ⟨_, rfl⟩
  have HCA := Lib.hid (fun wx (hb : Below N w wx) => rmany_any (Lst.below h2 hb (by omega)) (Nat.le_trans (by omega : hi ≤ N) (by have := hb.size; omega)) (by omega))
  have HCN := Lib.hid (fun wx (hb : Below N w wx) => rmany_any (Lst.below h3 hb (by omega)) (Nat.le_trans (by omega : hi ≤ N) (by have := hb.size; omega)) (by omega))
  have HCR := Lib.hid (fun wx (hb : Below N w wx) => rmany_any (Lst.below h4 hb (by omega)) (Nat.le_trans (by omega : hi ≤ N) (by have := hb.size; omega)) (by omega))
  have hoa := opL_len lan
  have hon := opL_len lns
  have hor := opL_len lar
  have HMD := Lib.hid (show ∀ x ∈ opL lar, x.d.length ≤ 900000 from fun x hx => (hmd x (opL_mem hx)).2)
  have HSR := Lib.hid (fun wx (hb : Below N w wx) => (Lst.below h4 hb (by omega) : SR wx hi r lar))
  have HHI := Lib.hid (show hi ≤ N by omega)
  obtain ⟨xa, xc, rfl⟩ := Lst.shape hq
  obtain ⟨aa, ac, rfl⟩ := Lst.shape h2
  obtain ⟨na, nc, rfl⟩ := Lst.shape h3
  obtain ⟨ra, rc, rfl⟩ := Lst.shape h4
  obtain ⟨la, hla⟩ : ∃ i, lan.length = i := ⟨_, rfl⟩
  obtain ⟨ln, hln⟩ : ∃ i, lns.length = i := ⟨_, rfl⟩
  obtain ⟨lr, hlr⟩ : ∃ i, lar.length = i := ⟨_, rfl⟩
  obtain ⟨lq, hlq⟩ : ∃ i, l.length = i := ⟨_, rfl⟩
  obtain ⟨kA, hkA⟩ : ∃ i, (opL lan).length = i := ⟨_, rfl⟩
  obtain ⟨kN, hkN⟩ : ∃ i, (opL lns).length = i := ⟨_, rfl⟩
  obtain ⟨kR, hkR⟩ : ∃ i, (opL lar).length = i := ⟨_, rfl⟩
  have HLR := Lib.hid hlr
  have HKR := Lib.hid hkR
  rw [hla, hkA] at HCA
  rw [hln, hkN] at HCN
  rw [hlr, hkR] at HCR
  rw [hkA, hkN]
  obtain ⟨RE, hRE⟩ : ∃ x, ofL (kA + kN) (opL lar) = x := ⟨_, rfl⟩
  rw [hRE, hla, hln, hlr, hlq]
  rw [hla, hkA] at hoa
  rw [hln, hkN] at hon
  rw [hlr, hkR] at hor
  rw [hla, hln, hlr, hlq] at hl
  have HB := Lib.hid (show kA ≤ 900000 ∧ kN ≤ 900000 ∧ kR ≤ 900000 ∧ lr ≤ 900000 by omega)
  have hw1 : IntKind.i64.wrap ((kR : Int) + kA) = (kR : Int) + kA := wr64 _ (by omega) (by omega)
  have hw2 : IntKind.i64.wrap ((kR : Int) + kA + kN) = (kR : Int) + kA + kN := wr64 _ (by omega) (by omega)
  have hw3 : IntKind.i64.wrap ((kA : Int) + kN) = (kA : Int) + kN := wr64 _ (by omega) (by omega)
  have HP := Lib.hid (of2_start w i0 f0 (.slice xa lq xc) (.slice aa la ac) (.slice na ln nc) (.slice ra lr rc) hN)
  obtain ⟨W, hW⟩ : ∃ X, (w.alloc (.cells #[.int .i64 i0, .int .i64 f0, .slice xa lq xc, .slice aa la ac, .slice na ln nc, .slice ra lr rc] 25)).alloc (.cells #[.int .i64 0, .int .i64 0, .int .i64 0, .bool false, .slice none 0 0] 30) = X := ⟨_, rfl⟩
  rw [hW] at HP
  have y5 := HP.out.x.c 5 (by simp)
  simp only [List.getElem_cons_succ, List.getElem_cons_zero] at y5
  clear hq h2 h3 h4 h1 hm hl hmd hla hln hlr hlq hoa hon hor hkA hkN hkR
  go_enter Try.func10, Try.ntmps10
  go_wp2_with fail
  refine (HCR.out _ HP.out.bel).mono ?_; rintro e w1 ⟨rfl, hb⟩
  replace HP := Lib.hid (HP.out.later hb)
  clear hb hW y5
  go_wp2_with fail
  replace HP := Lib.hid (HP.out.later (Below.refl _ _).drew)
  refine wp_region_held_drew (S := (fun wx => wx.cell? ⟨N, 3, none⟩ = some (.slice aa la ac) ∧ wx.cell? ⟨N, 4, none⟩ = some (.slice na ln nc))) (by kernel_rfl) ⟨HP.out.x.c 3 (by simp), HP.out.x.c 4 (by simp)⟩ (fun hHeld => ?_)
  refine wpAnyH_take (i := 0) (oi := { dst := some 13, op := Op.move (Operand.tmp 5), type := 3, pos := "ref.go:75", after := #[], guard := none }) (v := ?_) rfl (by kernel_rfl) (by kernel_rfl) (by kernel_rfl) (fun _ _ _ h => h) (Or.inl ⟨by rfl, ?_⟩) (by assumption) ?_
  rotate_left 1
  · intro w hSw; (try dsimp only at hSw); go_simp; try (with_reducible rfl)
  try simp only [Act.put, List.setIfInBounds_toArray, List.set_cons_zero, List.set_cons_succ]
  refine wpAnyH_take (i := 1) (oi := { dst := some 14, op := Op.fieldAddr 25 (Operand.tmp 1) 3, type := 0, pos := "ref.go:75", after := #[], guard := none }) (v := ?_) rfl (by kernel_rfl) (by kernel_rfl) (by kernel_rfl) (fun _ _ _ h => h) (Or.inl ⟨by rfl, ?_⟩) (by assumption) ?_
  rotate_left 1
  · intro w hSw; (try dsimp only at hSw); go_simp; try (with_reducible rfl)
  try simp only [Act.put, List.setIfInBounds_toArray, List.set_cons_zero, List.set_cons_succ]
  refine wpAnyH_take (i := 2) (oi := { dst := some 15, op := Op.load 23 (Operand.tmp 14), type := 23, pos := "ref.go:75", after := #[{ on := 1, ground := Ground.data }], guard := none }) (v := ?_) rfl (by kernel_rfl) (by kernel_rfl) (by kernel_rfl) (fun _ _ _ h => h) (Or.inl ⟨by rfl, ?_⟩) (by assumption) ?_
  rotate_left 1
  · intro w hSw; (try dsimp only at hSw); go_simp; try (with_reducible rfl)
  try simp only [Act.put, List.setIfInBounds_toArray, List.set_cons_zero, List.set_cons_succ]
  refine wpAnyH_take (i := 5) (oi := { dst := some 18, op := Op.fieldAddr 25 (Operand.tmp 1) 4, type := 0, pos := "ref.go:75", after := #[], guard := none }) (v := ?_) rfl (by kernel_rfl) (by kernel_rfl) (by kernel_rfl) (fun _ _ _ h => h) (Or.inl ⟨by rfl, ?_⟩) (by assumption) ?_
  rotate_left 1
  · intro w hSw; (try dsimp only at hSw); go_simp; try (with_reducible rfl)
  try simp only [Act.put, List.setIfInBounds_toArray, List.set_cons_zero, List.set_cons_succ]
  refine wpAnyH_take (i := 6) (oi := { dst := some 19, op := Op.load 23 (Operand.tmp 18), type := 23, pos := "ref.go:75", after := #[{ on := 5, ground := Ground.data }], guard := none }) (v := ?_) rfl (by kernel_rfl) (by kernel_rfl) (by kernel_rfl) (fun _ _ _ h => h) (Or.inl ⟨by rfl, ?_⟩) (by assumption) ?_
  rotate_left 1
  · intro w hSw; (try dsimp only at hSw); go_simp; try (with_reducible rfl)
  try simp only [Act.put, List.setIfInBounds_toArray, List.set_cons_zero, List.set_cons_succ]
  refine wpAnyH_ready (rs := [3]) (by kernel_rfl) (by simp) ?_
  refine AllReadyH.cons (o := { dst := some 16, op := Op.call { callee := Callee.value (Operand.func 33), args := #[Operand.tmp 15], argTypes := #[23] }, type := 3, pos := "ref.go:75", after := #[{ on := 2, ground := Ground.data }], guard := none }) rfl (fun K hK => ?_) (AllReadyH.nil)
  go_simp
  refine (HCA.out _ HP.out.bel).mono ?_; rintro e w2 ⟨rfl, hb⟩
  replace HP := Lib.hid (HP.out.later hb)
  clear hb
  try go_wp2_with fail
  refine hK.out _ _ ⟨HP.out.x.c 3 (by simp), HP.out.x.c 4 (by simp)⟩ (fun hHeld => ?_)
  clear hK K
  try simp only [Act.put, List.setIfInBounds_toArray, List.set_cons_zero, List.set_cons_succ]
  refine wpAnyH_take (i := 4) (oi := { dst := some 17, op := Op.binOp BinOp.add 3 (Operand.tmp 13) (Operand.tmp 16) 3, type := 3, pos := "ref.go:75", after := #[{ on := 0, ground := Ground.data }, { on := 3, ground := Ground.data }], guard := none }) (v := ?_) rfl (by kernel_rfl) (by kernel_rfl) (by kernel_rfl) (fun _ _ _ h => h) (Or.inl ⟨by rfl, ?_⟩) (by assumption) ?_
  rotate_left 1
  · intro w hSw; (try dsimp only at hSw); go_simp; try (with_reducible rfl)
  try simp only [Act.put, List.setIfInBounds_toArray, List.set_cons_zero, List.set_cons_succ]
  refine wpAnyH_ready (rs := [7]) (by kernel_rfl) (by simp) ?_
  refine AllReadyH.cons (o := { dst := some 20, op := Op.call { callee := Callee.value (Operand.func 33), args := #[Operand.tmp 19], argTypes := #[23] }, type := 3, pos := "ref.go:75", after := #[{ on := 6, ground := Ground.data }, { on := 3, ground := Ground.chain }], guard := none }) rfl (fun K hK => ?_) (AllReadyH.nil)
  go_simp
  refine (HCN.out _ HP.out.bel).mono ?_; rintro e w3 ⟨rfl, hb⟩
  replace HP := Lib.hid (HP.out.later hb)
  clear hb
  try go_wp2_with fail
  refine hK.out _ _ ⟨HP.out.x.c 3 (by simp), HP.out.x.c 4 (by simp)⟩ (fun hHeld => ?_)
  clear hK K
  try simp only [Act.put, List.setIfInBounds_toArray, List.set_cons_zero, List.set_cons_succ]
  refine wpAnyH_take (i := 8) (oi := { dst := some 21, op := Op.binOp BinOp.add 3 (Operand.tmp 17) (Operand.tmp 20) 3, type := 3, pos := "ref.go:75", after := #[{ on := 4, ground := Ground.data }, { on := 7, ground := Ground.data }], guard := none }) (v := ?_) rfl (by kernel_rfl) (by kernel_rfl) (by kernel_rfl) (fun _ _ _ h => h) (Or.inl ⟨by rfl, ?_⟩) (by assumption) ?_
  rotate_left 1
  · intro w hSw; (try dsimp only at hSw); go_simp; try (with_reducible rfl)
  try simp only [Act.put, List.setIfInBounds_toArray, List.set_cons_zero, List.set_cons_succ]
  refine wpAnyH_take (i := 9) (oi := { dst := some 22, op := Op.binOp BinOp.eql 3 (Operand.tmp 21) (Operand.const (Value.int IntKind.i64 0)) 3, type := 4, pos := "ref.go:75", after := #[{ on := 8, ground := Ground.data }], guard := none }) (v := ?_) rfl (by kernel_rfl) (by kernel_rfl) (by kernel_rfl) (fun _ _ _ h => h) (Or.inl ⟨by rfl, ?_⟩) (by assumption) ?_
  rotate_left 1
  · intro w hSw; (try dsimp only at hSw); go_simp; try (with_reducible rfl)
  try simp only [Act.put, List.setIfInBounds_toArray, List.set_cons_zero, List.set_cons_succ]
  refine wpAnyH_done (by kernel_rfl) ?_ _
  clear hHeld
  obtain ⟨z0, z1, z2, z3, z4⟩ := HP.out.z.five
  have fz := HP.out.z.fz
  by_cases hA : kR + kA + kN = 0
  · have e1 : ((kR : Int) + kA + kN == 0) = true := by simp; omega
    have hl0 : opL lar = [] := List.length_eq_zero_iff.mp (by rw [HKR.out]; omega)
    rw [hl0, show kA + kN = 0 by omega, ofL_none] at hRE
    subst hRE
    clear hA hl0
    go_wp2_with fail
    have hk := HP.out.fin (.int .i64 0) (.int .i64 0) (.int .i64 0) (.bool false) (.slice none 0 0)
    obtain ⟨m0, m1, m2, m3, m4⟩ := hk.2.1.five
    have hbF := hk.1
    unfold put5 at m0 m1 m2 m3 m4 hbF
    clear z0 z1 z2 z3 z4 fz
    refine bodyPost_ret (v := .tuple #[.agg #[.int .i64 0, .int .i64 0, .int .i64 0, .bool false, .slice none 0 0], .bool false, .int .i64 0]) (by simp [results, Try.results10, go_sem, m0, m1, m2, m3, m4]) rfl ⟨_, rfl, egw_zero _ _, by first | exact hbF | (rw [hN]; exact hbF)⟩
  · have e1 : ((kR : Int) + kA + kN == 0) = false := by simp; omega
    by_cases hC : kR = 1
    · have e2 : ((kR : Int) != 1) = false := by simp; omega
      clear z0 z1 z2 z3 z4 fz
      go_wp2_with fail
      replace HP := Lib.hid (HP.out.later (Below.refl _ _).drew)
      refine wp_region_held_drew (S := (fun wx => wx.cell? ⟨N, 3, none⟩ = some (.slice aa la ac) ∧ wx.cell? ⟨N, 4, none⟩ = some (.slice na ln nc))) (by kernel_rfl) ⟨HP.out.x.c 3 (by simp), HP.out.x.c 4 (by simp)⟩ (fun hHeld => ?_)
      refine wpAnyH_take (i := 0) (oi := { dst := some 24, op := Op.move (Operand.tmp 5), type := 3, pos := "ref.go:78", after := #[], guard := none }) (v := ?_) rfl (by kernel_rfl) (by kernel_rfl) (by kernel_rfl) (fun _ _ _ h => h) (Or.inl ⟨by rfl, ?_⟩) (by assumption) ?_
      rotate_left 1
      · intro w hSw; (try dsimp only at hSw); go_simp; try (with_reducible rfl)
      try simp only [Act.put, List.setIfInBounds_toArray, List.set_cons_zero, List.set_cons_succ]
      refine wpAnyH_take (i := 1) (oi := { dst := some 25, op := Op.binOp BinOp.neq 3 (Operand.tmp 24) (Operand.const (Value.int IntKind.i64 1)) 3, type := 4, pos := "ref.go:78", after := #[{ on := 0, ground := Ground.data }], guard := none }) (v := ?_) rfl (by kernel_rfl) (by kernel_rfl) (by kernel_rfl) (fun _ _ _ h => h) (Or.inl ⟨by rfl, ?_⟩) (by assumption) ?_
      rotate_left 1
      · intro w hSw; (try dsimp only at hSw); go_simp; try (with_reducible rfl)
      try simp only [Act.put, List.setIfInBounds_toArray, List.set_cons_zero, List.set_cons_succ]
      refine wpAnyH_take (i := 2) (oi := { dst := some 26, op := Op.move (Operand.tmp 25), type := 4, pos := "ref.go:78", after := #[{ on := 1, ground := Ground.data }], guard := none }) (v := ?_) rfl (by kernel_rfl) (by kernel_rfl) (by kernel_rfl) (fun _ _ _ h => h) (Or.inl ⟨by rfl, ?_⟩) (by assumption) ?_
      rotate_left 1
      · intro w hSw; (try dsimp only at hSw); go_simp; try (with_reducible rfl)
      try simp only [Act.put, List.setIfInBounds_toArray, List.set_cons_zero, List.set_cons_succ]
      refine wpAnyH_take (i := 3) (oi := { dst := some 27, op := Op.fieldAddr 25 (Operand.tmp 1) 3, type := 0, pos := "ref.go:78", after := #[{ on := 2, ground := Ground.guard }], guard := some (2, false) }) (v := ?_) rfl (by kernel_rfl) (by kernel_rfl) (by kernel_rfl) (fun _ _ _ h => h) (Or.inl ⟨by rfl, ?_⟩) (by assumption) ?_
      rotate_left 1
      · intro w hSw; (try dsimp only at hSw); go_simp; try (with_reducible rfl)
      try simp only [Act.put, List.setIfInBounds_toArray, List.set_cons_zero, List.set_cons_succ]
      refine wpAnyH_take (i := 4) (oi := { dst := some 28, op := Op.load 23 (Operand.tmp 27), type := 23, pos := "ref.go:78", after := #[{ on := 3, ground := Ground.data }, { on := 2, ground := Ground.guard }], guard := some (2, false) }) (v := ?_) rfl (by kernel_rfl) (by kernel_rfl) (by kernel_rfl) (fun _ _ _ h => h) (Or.inl ⟨by rfl, ?_⟩) (by assumption) ?_
      rotate_left 1
      · intro w hSw; (try dsimp only at hSw); go_simp; try (with_reducible rfl)
      try simp only [Act.put, List.setIfInBounds_toArray, List.set_cons_zero, List.set_cons_succ]
      refine wpAnyH_take (i := 6) (oi := { dst := some 30, op := Op.fieldAddr 25 (Operand.tmp 1) 4, type := 0, pos := "ref.go:78", after := #[{ on := 2, ground := Ground.guard }], guard := some (2, false) }) (v := ?_) rfl (by kernel_rfl) (by kernel_rfl) (by kernel_rfl) (fun _ _ _ h => h) (Or.inl ⟨by rfl, ?_⟩) (by assumption) ?_
      rotate_left 1
      · intro w hSw; (try dsimp only at hSw); go_simp; try (with_reducible rfl)
      try simp only [Act.put, List.setIfInBounds_toArray, List.set_cons_zero, List.set_cons_succ]
      refine wpAnyH_take (i := 7) (oi := { dst := some 31, op := Op.load 23 (Operand.tmp 30), type := 23, pos := "ref.go:78", after := #[{ on := 6, ground := Ground.data }, { on := 2, ground := Ground.guard }], guard := some (2, false) }) (v := ?_) rfl (by kernel_rfl) (by kernel_rfl) (by kernel_rfl) (fun _ _ _ h => h) (Or.inl ⟨by rfl, ?_⟩) (by assumption) ?_
      rotate_left 1
      · intro w hSw; (try dsimp only at hSw); go_simp; try (with_reducible rfl)
      try simp only [Act.put, List.setIfInBounds_toArray, List.set_cons_zero, List.set_cons_succ]
      refine wpAnyH_ready (rs := [5]) (by kernel_rfl) (by simp) ?_
      refine AllReadyH.cons (o := { dst := some 29, op := Op.call { callee := Callee.value (Operand.func 33), args := #[Operand.tmp 28], argTypes := #[23] }, type := 3, pos := "ref.go:78", after := #[{ on := 4, ground := Ground.data }, { on := 2, ground := Ground.chain }, { on := 2, ground := Ground.guard }], guard := some (2, false) }) rfl (fun K hK => ?_) (AllReadyH.nil)
      go_simp
      refine (HCA.out _ HP.out.bel).mono ?_; rintro e w4 ⟨rfl, hb⟩
      replace HP := Lib.hid (HP.out.later hb)
      clear hb
      try go_wp2_with fail
      refine hK.out _ _ ⟨HP.out.x.c 3 (by simp), HP.out.x.c 4 (by simp)⟩ (fun hHeld => ?_)
      clear hK K
      try simp only [Act.put, List.setIfInBounds_toArray, List.set_cons_zero, List.set_cons_succ]
      refine wpAnyH_ready (rs := [8]) (by kernel_rfl) (by simp) ?_
      refine AllReadyH.cons (o := { dst := some 32, op := Op.call { callee := Callee.value (Operand.func 33), args := #[Operand.tmp 31], argTypes := #[23] }, type := 3, pos := "ref.go:78", after := #[{ on := 7, ground := Ground.data }, { on := 5, ground := Ground.chain }, { on := 2, ground := Ground.guard }], guard := some (2, false) }) rfl (fun K hK => ?_) (AllReadyH.nil)
      go_simp
      refine (HCN.out _ HP.out.bel).mono ?_; rintro e w5 ⟨rfl, hb⟩
      replace HP := Lib.hid (HP.out.later hb)
      clear hb
      try go_wp2_with fail
      refine hK.out _ _ ⟨HP.out.x.c 3 (by simp), HP.out.x.c 4 (by simp)⟩ (fun hHeld => ?_)
      clear hK K
      try simp only [Act.put, List.setIfInBounds_toArray, List.set_cons_zero, List.set_cons_succ]
      refine wpAnyH_take (i := 9) (oi := { dst := some 33, op := Op.binOp BinOp.add 3 (Operand.tmp 29) (Operand.tmp 32) 3, type := 3, pos := "ref.go:78", after := #[{ on := 5, ground := Ground.data }, { on := 8, ground := Ground.data }, { on := 2, ground := Ground.guard }], guard := some (2, false) }) (v := ?_) rfl (by kernel_rfl) (by kernel_rfl) (by kernel_rfl) (fun _ _ _ h => h) (Or.inl ⟨by rfl, ?_⟩) (by assumption) ?_
      rotate_left 1
      · intro w hSw; (try dsimp only at hSw); go_simp; try (with_reducible rfl)
      try simp only [Act.put, List.setIfInBounds_toArray, List.set_cons_zero, List.set_cons_succ]
      refine wpAnyH_take (i := 10) (oi := { dst := some 34, op := Op.binOp BinOp.gtr 3 (Operand.tmp 33) (Operand.const (Value.int IntKind.i64 0)) 3, type := 4, pos := "ref.go:78", after := #[{ on := 9, ground := Ground.data }, { on := 2, ground := Ground.guard }], guard := some (2, false) }) (v := ?_) rfl (by kernel_rfl) (by kernel_rfl) (by kernel_rfl) (fun _ _ _ h => h) (Or.inl ⟨by rfl, ?_⟩) (by assumption) ?_
      rotate_left 1
      · intro w hSw; (try dsimp only at hSw); go_simp; try (with_reducible rfl)
      try simp only [Act.put, List.setIfInBounds_toArray, List.set_cons_zero, List.set_cons_succ]
      refine wpAnyH_take (i := 11) (oi := { dst := some 35, op := Op.pick (Operand.tmp 26) (Operand.const (Value.bool true)) (Operand.tmp 34), type := 4, pos := "ref.go:78", after := #[{ on := 2, ground := Ground.data }, { on := 10, ground := Ground.data }], guard := none }) (v := ?_) rfl (by kernel_rfl) (by kernel_rfl) (by kernel_rfl) (fun _ _ _ h => h) (Or.inl ⟨by rfl, ?_⟩) (by assumption) ?_
      rotate_left 1
      · intro w hSw; (try dsimp only at hSw); go_simp; try (with_reducible rfl)
      try simp only [Act.put, List.setIfInBounds_toArray, List.set_cons_zero, List.set_cons_succ]
      refine wpAnyH_done (by kernel_rfl) ?_ _
      clear hHeld
      obtain ⟨z0, z1, z2, z3, z4⟩ := HP.out.z.five
      have fz := HP.out.z.fz
      by_cases hz : kA + kN = 0
      · have e3 : decide ((0 : Int) < (kA : Int) + kN) = false := by simp; omega
        have e4 : ¬ ((0 : Int) < (kA : Int) + kN) := by omega
        obtain ⟨x, hx⟩ : ∃ x, opL lar = [x] := List.length_eq_one_iff.mp (by rw [HKR.out]; exact hC)
        rw [hz, hx, ofL_one] at hRE
        have HXX := Lib.hid hx
        have HXD := Lib.hid (HMD.out x (by rw [hx]; simp))
        have HRE := Lib.hid hRE
        have y5 := HP.out.x.c 5 (by simp)
        simp only [List.getElem_cons_succ, List.getElem_cons_zero] at y5
        clear z0 z1 z2 z3 z4 fz hz hA hx hRE
        subst hC
        go_wp2_with fail
        clear y5
        go_loopg [6] lr (fun g v6 wr => ∃ k : Nat, k + g = lr ∧ v6 = .int .i64 k ∧ Hid ((lar.take k).filter isO = []) ∧ Hid (Of2 w wr N i0 f0 (.slice xa lq xc) (.slice aa la ac) (.slice na ln nc) (.slice ra lr rc)))
        case atStart => exact ⟨0, by omega, rfl, by simp [Hid], HP⟩
        case round =>
          clear HP
          obtain ⟨k, hk, rfl, HA, HP⟩ := hrel
          have hlen : lr ≤ 900000 := HB.out.2.2.2
          have y5 := HP.out.x.c 5 (by simp)
          simp only [List.getElem_cons_succ, List.getElem_cons_zero] at y5
          by_cases hlt : k < lr
          · have hkl : k < lar.length := by rw [HLR.out]; exact hlt
            obtain ⟨b, off, c2, he, hb, hc⟩ := SR.at_ (HSR.out _ HP.out.bel) k hkl
            injection he with he hn3 hc3
            clear hn3 hc3
            subst he
            obtain ⟨c0, c1, c2, c3, c4⟩ := hc
            obtain ⟨y, hy⟩ : ∃ y, lar[k] = y := ⟨_, rfl⟩
            have HTK := Lib.hid (show lar.take (k + 1) = lar.take k ++ [y] by rw [List.take_add_one, List.getElem?_eq_getElem hkl, hy]; rfl)
            have HFX := Lib.hid (fun (ht : isO y = true) => (by rw [← hy]; exact opL_first hkl HA.out HXX.out (by rw [hy]; exact ht) : y = x))
            rw [hy] at c0 c1 c2 c3 c4
            obtain ⟨g, hg⟩ : ∃ g, wr.heap.size = g := ⟨_, rfl⟩
            have hba : Below wr.heap.size wr (wr.alloc (.cells #[.string (bs y.n), .int .i64 y.t, .int .i64 y.c, .int .i64 y.l, .string (bs y.d)] 48)) := (Below.refl _ _).alloc (Nat.le_refl _) _
            have hq := cel_new wr (.string (bs y.n)) (.int .i64 y.t) (.int .i64 y.c) (.int .i64 y.l) (.string (bs y.d)) 48
            rw [hg] at hq
            have HQ := Lib.hid hq
            have HP7 := Lib.hid (HP.out.later hba)
            clear hkl hb hy hba hq HP
            by_cases hp : y.t = 41
            · have hyx := HFX.out (by simp [isO, hp])
              subst hyx
              have t1 : (y.t != 41) = false := by simp [hp]
              have HPT := Lib.hid hp
              clear HFX HTK HA hp
              go_wp2_with fail
              refine (roptions_any y.d _ HXD.out).mono ?_; rintro e w7 ⟨v, rfl, hown, hb⟩
              replace HQ := Lib.hid (HQ.out.below (by simp) hb)
              have HOW := Lib.hid (fun h => row_base (hown h) HP7.out.size)
              have HP := Lib.hid (HP7.out.later hb)
              obtain ⟨yn, yt, yc, yl, yd⟩ := y
              simp only at HPT HQ HOW HXD ⊢
              have hp := HPT.out
              subst hp
              obtain ⟨OL, hOL⟩ : ∃ o, (otsR yd yd.length 0).1 = o := ⟨_, rfl⟩
              obtain ⟨OKB, hOK⟩ : ∃ o, (otsR yd yd.length 0).2 = o := ⟨_, rfl⟩
              have HRC := Lib.hid (show recR ⟨yn, 41, yc, yl, yd⟩ = if yn = [0] ∧ (0 ≤ yc ∧ yc ≤ 65535) ∧ (0 ≤ yl ∧ yl ≤ 2147483647) ∧ OKB = true then (⟨yc, yl / 16777216, yl / 65536 % 256, decide (yl / 32768 % 2 = 1), OL⟩, 0) else (ed0, 4) by rw [← hOL, ← hOK]; rfl)
              rw [hOK, hOL] at HOW
              rw [hOK]
              obtain ⟨BC, hBC⟩ : ∃ B, decide (0 ≤ yc ∧ yc ≤ 65535) = B := ⟨_, rfl⟩
              have HSH := Lib.hid (fun wx => rshort9_any yc BC hBC wx)
              obtain ⟨q0, q1, q2, q3, q4⟩ := HQ.out.five
              obtain ⟨z0, z1, z2, z3, z4⟩ := HP.out.z.five
              have fz := HP.out.z.fz
              clear hown hb HP7 HQ hOL hOK y5 c0 c1 c2 c3 c4 t1 HXX HXD
              by_cases hn : yn = [0]
              · subst hn
                have hlst : (bs [0]).toList = [0] := bs_list [0]
                cases BC with
                | false =>
                  have hrr : recR ⟨[0], 41, yc, yl, yd⟩ = (ed0, 4) := by rw [HRC.out, if_neg]; rintro ⟨_, h, _⟩; simp [h] at hBC
                  have hry : RE = (ed0, false, 4) := by rw [← HRE.out, hrr]; rfl
                  subst hry
                  clear hrr HRE
                  clear HRC HOW
                  go_wp2_with fail
                  refine (HSH.out _).mono ?_; rintro e w8 ⟨rfl, rfl⟩
                  go_wp2_with fail
                  have hk := HP.out.fin (.int .i64 0) (.int .i64 0) (.int .i64 0) (.bool false) (.slice none 0 0)
                  obtain ⟨m0, m1, m2, m3, m4⟩ := hk.2.1.five
                  have hbF := hk.1
                  unfold put5 at m0 m1 m2 m3 m4 hbF
                  clear z0 z1 z2 z3 z4 fz
                  refine bodyPost_ret (v := .tuple #[.agg #[.int .i64 0, .int .i64 0, .int .i64 0, .bool false, .slice none 0 0], .bool false, .int .i64 4]) (by simp [results, Try.results10, go_sem, m0, m1, m2, m3, m4]) rfl ⟨_, rfl, egw_zero _ _, by first | exact hbF | (rw [hN]; exact hbF)⟩
                | true =>
                  have hyc : 0 ≤ yc ∧ yc ≤ 65535 := by simpa using hBC
                  by_cases hl0 : yl < 0
                  · have hrr : recR ⟨[0], 41, yc, yl, yd⟩ = (ed0, 4) := by rw [HRC.out, if_neg]; rintro ⟨_, _, h, _⟩; omega
                    have hry : RE = (ed0, false, 4) := by rw [← HRE.out, hrr]; rfl
                    have u1 : decide (yl < 0) = true := by simp [hl0]
                    subst hry
                    clear hrr HRE
                    clear HRC HOW
                    go_wp2_with fail
                    refine (HSH.out _).mono ?_; rintro e w8 ⟨rfl, rfl⟩
                    go_wp2_with fail
                    have hk := HP.out.fin (.int .i64 0) (.int .i64 0) (.int .i64 0) (.bool false) (.slice none 0 0)
                    obtain ⟨m0, m1, m2, m3, m4⟩ := hk.2.1.five
                    have hbF := hk.1
                    unfold put5 at m0 m1 m2 m3 m4 hbF
                    clear z0 z1 z2 z3 z4 fz
                    refine bodyPost_ret (v := .tuple #[.agg #[.int .i64 0, .int .i64 0, .int .i64 0, .bool false, .slice none 0 0], .bool false, .int .i64 4]) (by simp [results, Try.results10, go_sem, m0, m1, m2, m3, m4]) rfl ⟨_, rfl, egw_zero _ _, by first | exact hbF | (rw [hN]; exact hbF)⟩
                  · have u1 : decide (yl < 0) = false := by simp; omega
                    by_cases hl1 : 2147483648 ≤ yl
                    · have hrr : recR ⟨[0], 41, yc, yl, yd⟩ = (ed0, 4) := by rw [HRC.out, if_neg]; rintro ⟨_, _, h, _⟩; omega
                      have hry : RE = (ed0, false, 4) := by rw [← HRE.out, hrr]; rfl
                      have u2 : decide (2147483648 ≤ yl) = true := by simp [hl1]
                      subst hry
                      clear hrr HRE
                      clear HRC HOW
                      go_wp2_with fail
                      refine (HSH.out _).mono ?_; rintro e w8 ⟨rfl, rfl⟩
                      go_wp2_with fail
                      have hk := HP.out.fin (.int .i64 0) (.int .i64 0) (.int .i64 0) (.bool false) (.slice none 0 0)
                      obtain ⟨m0, m1, m2, m3, m4⟩ := hk.2.1.five
                      have hbF := hk.1
                      unfold put5 at m0 m1 m2 m3 m4 hbF
                      clear z0 z1 z2 z3 z4 fz
                      refine bodyPost_ret (v := .tuple #[.agg #[.int .i64 0, .int .i64 0, .int .i64 0, .bool false, .slice none 0 0], .bool false, .int .i64 4]) (by simp [results, Try.results10, go_sem, m0, m1, m2, m3, m4]) rfl ⟨_, rfl, egw_zero _ _, by first | exact hbF | (rw [hN]; exact hbF)⟩
                    · have u2 : decide (2147483648 ≤ yl) = false := by simp; omega
                      cases OKB with
                      | false =>
                        have hrr : recR ⟨[0], 41, yc, yl, yd⟩ = (ed0, 4) := by rw [HRC.out, if_neg]; rintro ⟨_, _, _, h⟩; cases h
                        have hry : RE = (ed0, false, 4) := by rw [← HRE.out, hrr]; rfl
                        subst hry
                        clear hrr HRE
                        clear HRC HOW
                        go_wp2_with fail
                        refine (HSH.out _).mono ?_; rintro e w8 ⟨rfl, rfl⟩
                        go_wp2_with fail
                        have hk := HP.out.fin (.int .i64 0) (.int .i64 0) (.int .i64 0) (.bool false) (.slice none 0 0)
                        obtain ⟨m0, m1, m2, m3, m4⟩ := hk.2.1.five
                        have hbF := hk.1
                        unfold put5 at m0 m1 m2 m3 m4 hbF
                        clear z0 z1 z2 z3 z4 fz
                        refine bodyPost_ret (v := .tuple #[.agg #[.int .i64 0, .int .i64 0, .int .i64 0, .bool false, .slice none 0 0], .bool false, .int .i64 4]) (by simp [results, Try.results10, go_sem, m0, m1, m2, m3, m4]) rfl ⟨_, rfl, egw_zero _ _, by first | exact hbF | (rw [hN]; exact hbF)⟩
                      | true =>
                        have hrr := HRC.out
                        rw [if_pos ⟨rfl, hyc, ⟨by omega, by omega⟩, rfl⟩] at hrr
                        have hry : RE = (⟨yc, yl / 16777216, yl / 65536 % 256, decide (yl / 32768 % 2 = 1), OL⟩, true, 0) := by rw [← HRE.out, hrr]; rfl
                        subst hry
                        clear hrr HRE
                        have hov := HOW.out rfl
                        obtain ⟨oa, oc, rfl⟩ := row_shape hov
                        have ha1 := i64_and255 (yl / 65536)
                        have HVV := Lib.hid hov
                        clear HRC HOW hov
                        go_wp2_with fail
                        refine (HSH.out _).mono ?_; rintro e w8 ⟨rfl, rfl⟩
                        go_wp2_with fail
                        have hk := HP.out.fin (.int .i64 yc) (.int .i64 (yl / 16777216)) (.int .i64 (yl / 65536 % 256)) (.bool (yl / 32768 % 2 == 1)) (.slice oa OL.length oc)
                        obtain ⟨m0, m1, m2, m3, m4⟩ := hk.2.1.five
                        have hbF := hk.1
                        have hvF : OwnO _ N _ _ := row_base (row_aside HVV.out hk.2.2 (fun k hk hg => by have := (World.ownsRow.lt HVV.out k hk).1; omega)) (show N ≤ N + 2 by omega)
                        unfold put5 at m0 m1 m2 m3 m4 hbF hvF
                        clear z0 z1 z2 z3 z4 fz
                        refine bodyPost_ret (v := .tuple #[.agg #[.int .i64 yc, .int .i64 (yl / 16777216), .int .i64 (yl / 65536 % 256), .bool (yl / 32768 % 2 == 1), .slice oa OL.length oc], .bool true, .int .i64 0]) (by simp [results, Try.results10, go_sem, m0, m1, m2, m3, m4]) rfl ⟨_, rfl, ⟨_, rfl, hvF⟩, by first | exact hbF | (rw [hN]; exact hbF)⟩
              · have hlst : ((bs yn).toList == [0]) = false := by rw [bs_list]; simpa using hn
                have hrr : recR ⟨yn, 41, yc, yl, yd⟩ = (ed0, 4) := by rw [HRC.out, if_neg]; rintro ⟨h, _⟩; exact hn h
                have hry : RE = (ed0, false, 4) := by rw [← HRE.out, hrr]; rfl
                subst hry
                clear hrr HRE
                clear HRC HOW
                go_wp2_with fail
                have hk := HP.out.fin (.int .i64 0) (.int .i64 0) (.int .i64 0) (.bool false) (.slice none 0 0)
                obtain ⟨m0, m1, m2, m3, m4⟩ := hk.2.1.five
                have hbF := hk.1
                unfold put5 at m0 m1 m2 m3 m4 hbF
                clear z0 z1 z2 z3 z4 fz
                refine bodyPost_ret (v := .tuple #[.agg #[.int .i64 0, .int .i64 0, .int .i64 0, .bool false, .slice none 0 0], .bool false, .int .i64 4]) (by simp [results, Try.results10, go_sem, m0, m1, m2, m3, m4]) rfl ⟨_, rfl, egw_zero _ _, by first | exact hbF | (rw [hN]; exact hbF)⟩
            · have t1 : (y.t != 41) = true := by simpa using hp
              have HA6 := Lib.hid (show (lar.take (k + 1)).filter isO = [] by rw [HTK.out, List.filter_append, HA.out, List.filter_cons_of_neg (by simp [isO, hp])]; rfl)
              clear HFX HTK HA HQ
              go_wp2_with fail
              go_roundg (lr - (k + 1))
              case measure => omega
              case rel => exact ⟨k + 1, by omega, by go_num, HA6, HP7⟩
          · exfalso
            have hkl : lar.take k = lar := List.take_of_length_le (by rw [HLR.out]; omega)
            have h0 := HA.out
            rw [hkl] at h0
            have h1 := HXX.out
            unfold opL at h1
            rw [h0] at h1
            cases h1
      · have e3 : decide ((0 : Int) < (kA : Int) + kN) = true := by simp; omega
        have e4 : (0 : Int) < (kA : Int) + kN := by omega
        rw [ofL_bad (fun h => hz h.1) (fun h => hz h.1)] at hRE
        subst hRE
        clear hz hA
        go_wp2_with fail
        have hk := HP.out.fin (.int .i64 0) (.int .i64 0) (.int .i64 0) (.bool false) (.slice none 0 0)
        obtain ⟨m0, m1, m2, m3, m4⟩ := hk.2.1.five
        have hbF := hk.1
        unfold put5 at m0 m1 m2 m3 m4 hbF
        clear z0 z1 z2 z3 z4 fz
        refine bodyPost_ret (v := .tuple #[.agg #[.int .i64 0, .int .i64 0, .int .i64 0, .bool false, .slice none 0 0], .bool false, .int .i64 4]) (by simp [results, Try.results10, go_sem, m0, m1, m2, m3, m4]) rfl ⟨_, rfl, egw_zero _ _, by first | exact hbF | (rw [hN]; exact hbF)⟩
    · have e2 : ((kR : Int) != 1) = true := by simp; omega
      rw [ofL_bad (fun h => hA (by have := HKR.out; rw [h.2] at this; simp at this; omega)) (fun h => hC (by rw [← HKR.out]; exact h.2))] at hRE
      subst hRE
      clear hA hC
      clear z0 z1 z2 z3 z4 fz
      go_wp2_with fail
      try replace HP := Lib.hid (HP.out.later (Below.refl _ _).drew)
      refine wp_region_held_drew (S := (fun wx => wx.cell? ⟨N, 3, none⟩ = some (.slice aa la ac) ∧ wx.cell? ⟨N, 4, none⟩ = some (.slice na ln nc))) (by kernel_rfl) ⟨HP.out.x.c 3 (by simp), HP.out.x.c 4 (by simp)⟩ (fun hHeld => ?_)
      refine wpAnyH_take (i := 0) (oi := { dst := some 24, op := Op.move (Operand.tmp 5), type := 3, pos := "ref.go:78", after := #[], guard := none }) (v := ?_) rfl (by kernel_rfl) (by kernel_rfl) (by kernel_rfl) (fun _ _ _ h => h) (Or.inl ⟨by rfl, ?_⟩) (by assumption) ?_
      rotate_left 1
      · intro w hSw; (try dsimp only at hSw); go_simp; try (with_reducible rfl)
      try simp only [Act.put, List.setIfInBounds_toArray, List.set_cons_zero, List.set_cons_succ]
      refine wpAnyH_take (i := 1) (oi := { dst := some 25, op := Op.binOp BinOp.neq 3 (Operand.tmp 24) (Operand.const (Value.int IntKind.i64 1)) 3, type := 4, pos := "ref.go:78", after := #[{ on := 0, ground := Ground.data }], guard := none }) (v := ?_) rfl (by kernel_rfl) (by kernel_rfl) (by kernel_rfl) (fun _ _ _ h => h) (Or.inl ⟨by rfl, ?_⟩) (by assumption) ?_
      rotate_left 1
      · intro w hSw; (try dsimp only at hSw); go_simp; try (with_reducible rfl)
      try simp only [Act.put, List.setIfInBounds_toArray, List.set_cons_zero, List.set_cons_succ]
      refine wpAnyH_take (i := 2) (oi := { dst := some 26, op := Op.move (Operand.tmp 25), type := 4, pos := "ref.go:78", after := #[{ on := 1, ground := Ground.data }], guard := none }) (v := ?_) rfl (by kernel_rfl) (by kernel_rfl) (by kernel_rfl) (fun _ _ _ h => h) (Or.inl ⟨by rfl, ?_⟩) (by assumption) ?_
      rotate_left 1
      · intro w hSw; (try dsimp only at hSw); go_simp; try (with_reducible rfl)
      try simp only [Act.put, List.setIfInBounds_toArray, List.set_cons_zero, List.set_cons_succ]
      refine wpAnyH_take (i := 3) (oi := { dst := some 27, op := Op.fieldAddr 25 (Operand.tmp 1) 3, type := 0, pos := "ref.go:78", after := #[{ on := 2, ground := Ground.guard }], guard := some (2, false) }) (v := undef) rfl (by kernel_rfl) (by kernel_rfl) (by kernel_rfl) (fun _ _ _ h => h) (Or.inr ⟨by rfl, rfl⟩) (by assumption) ?_
      try simp only [Act.put, List.setIfInBounds_toArray, List.set_cons_zero, List.set_cons_succ]
      refine wpAnyH_take (i := 4) (oi := { dst := some 28, op := Op.load 23 (Operand.tmp 27), type := 23, pos := "ref.go:78", after := #[{ on := 3, ground := Ground.data }, { on := 2, ground := Ground.guard }], guard := some (2, false) }) (v := undef) rfl (by kernel_rfl) (by kernel_rfl) (by kernel_rfl) (fun _ _ _ h => h) (Or.inr ⟨by rfl, rfl⟩) (by assumption) ?_
      try simp only [Act.put, List.setIfInBounds_toArray, List.set_cons_zero, List.set_cons_succ]
      refine wpAnyH_take (i := 5) (oi := { dst := some 29, op := Op.call { callee := Callee.value (Operand.func 33), args := #[Operand.tmp 28], argTypes := #[23] }, type := 3, pos := "ref.go:78", after := #[{ on := 4, ground := Ground.data }, { on := 2, ground := Ground.chain }, { on := 2, ground := Ground.guard }], guard := some (2, false) }) (v := undef) rfl (by kernel_rfl) (by kernel_rfl) (by kernel_rfl) (fun _ _ _ h => h) (Or.inr ⟨by rfl, rfl⟩) (by assumption) ?_
      try simp only [Act.put, List.setIfInBounds_toArray, List.set_cons_zero, List.set_cons_succ]
      refine wpAnyH_take (i := 6) (oi := { dst := some 30, op := Op.fieldAddr 25 (Operand.tmp 1) 4, type := 0, pos := "ref.go:78", after := #[{ on := 2, ground := Ground.guard }], guard := some (2, false) }) (v := undef) rfl (by kernel_rfl) (by kernel_rfl) (by kernel_rfl) (fun _ _ _ h => h) (Or.inr ⟨by rfl, rfl⟩) (by assumption) ?_
      try simp only [Act.put, List.setIfInBounds_toArray, List.set_cons_zero, List.set_cons_succ]
      refine wpAnyH_take (i := 7) (oi := { dst := some 31, op := Op.load 23 (Operand.tmp 30), type := 23, pos := "ref.go:78", after := #[{ on := 6, ground := Ground.data }, { on := 2, ground := Ground.guard }], guard := some (2, false) }) (v := undef) rfl (by kernel_rfl) (by kernel_rfl) (by kernel_rfl) (fun _ _ _ h => h) (Or.inr ⟨by rfl, rfl⟩) (by assumption) ?_
      try simp only [Act.put, List.setIfInBounds_toArray, List.set_cons_zero, List.set_cons_succ]
      refine wpAnyH_take (i := 8) (oi := { dst := some 32, op := Op.call { callee := Callee.value (Operand.func 33), args := #[Operand.tmp 31], argTypes := #[23] }, type := 3, pos := "ref.go:78", after := #[{ on := 7, ground := Ground.data }, { on := 5, ground := Ground.chain }, { on := 2, ground := Ground.guard }], guard := some (2, false) }) (v := undef) rfl (by kernel_rfl) (by kernel_rfl) (by kernel_rfl) (fun _ _ _ h => h) (Or.inr ⟨by rfl, rfl⟩) (by assumption) ?_
      try simp only [Act.put, List.setIfInBounds_toArray, List.set_cons_zero, List.set_cons_succ]
      refine wpAnyH_take (i := 9) (oi := { dst := some 33, op := Op.binOp BinOp.add 3 (Operand.tmp 29) (Operand.tmp 32) 3, type := 3, pos := "ref.go:78", after := #[{ on := 5, ground := Ground.data }, { on := 8, ground := Ground.data }, { on := 2, ground := Ground.guard }], guard := some (2, false) }) (v := undef) rfl (by kernel_rfl) (by kernel_rfl) (by kernel_rfl) (fun _ _ _ h => h) (Or.inr ⟨by rfl, rfl⟩) (by assumption) ?_
      try simp only [Act.put, List.setIfInBounds_toArray, List.set_cons_zero, List.set_cons_succ]
      refine wpAnyH_take (i := 10) (oi := { dst := some 34, op := Op.binOp BinOp.gtr 3 (Operand.tmp 33) (Operand.const (Value.int IntKind.i64 0)) 3, type := 4, pos := "ref.go:78", after := #[{ on := 9, ground := Ground.data }, { on := 2, ground := Ground.guard }], guard := some (2, false) }) (v := undef) rfl (by kernel_rfl) (by kernel_rfl) (by kernel_rfl) (fun _ _ _ h => h) (Or.inr ⟨by rfl, rfl⟩) (by assumption) ?_
      try simp only [Act.put, List.setIfInBounds_toArray, List.set_cons_zero, List.set_cons_succ]
      refine wpAnyH_take (i := 11) (oi := { dst := some 35, op := Op.pick (Operand.tmp 26) (Operand.const (Value.bool true)) (Operand.tmp 34), type := 4, pos := "ref.go:78", after := #[{ on := 2, ground := Ground.data }, { on := 10, ground := Ground.data }], guard := none }) (v := ?_) rfl (by kernel_rfl) (by kernel_rfl) (by kernel_rfl) (fun _ _ _ h => h) (Or.inl ⟨by rfl, ?_⟩) (by assumption) ?_
      rotate_left 1
      · intro w hSw; (try dsimp only at hSw); go_simp; try (with_reducible rfl)
      try simp only [Act.put, List.setIfInBounds_toArray, List.set_cons_zero, List.set_cons_succ]
      refine wpAnyH_done (by kernel_rfl) ?_ _
      clear hHeld
      obtain ⟨WD, hWD⟩ : ∃ X, w3.drew = X := ⟨_, rfl⟩
      rw [hWD] at HP ⊢
      clear hWD
      obtain ⟨z0, z1, z2, z3, z4⟩ := HP.out.z.five
      have fz := HP.out.z.fz
      go_wp2_with fail
      have hk := HP.out.fin (.int .i64 0) (.int .i64 0) (.int .i64 0) (.bool false) (.slice none 0 0)
      obtain ⟨m0, m1, m2, m3, m4⟩ := hk.2.1.five
      have hbF := hk.1
      unfold put5 at m0 m1 m2 m3 m4 hbF
      clear z0 z1 z2 z3 z4 fz
      refine bodyPost_ret (v := .tuple #[.agg #[.int .i64 0, .int .i64 0, .int .i64 0, .bool false, .slice none 0 0], .bool false, .int .i64 4]) (by simp [results, Try.results10, go_sem, m0, m1, m2, m3, m4]) rfl ⟨_, rfl, egw_zero _ _, by first | exact hbF | (rw [hN]; exact hbF)⟩
end Go.Proofs.Ytcjgbholgbjejaa

/-
  The document's own Code, Room.
-/
namespace Go.Proofs.Ytcjgbholgbjejaa
open Go.RowKit Go.Shelf
set_option linter.unusedVariables false
set_option linter.unusedSimpArgs false
set_option maxRecDepth 100000

theorem recR_ed0 (x : Rc) (h : (recR x).2 ≠ 0) : (recR x).1 = ed0 := by
  unfold recR at h ⊢
  split
  · rename_i hc
    rw [if_pos hc] at h
    exact absurd rfl h
  · rfl
theorem ofL_ed0 (s : Nat) (L : List Rc) (h : (ofL s L).2.1 = false) : (ofL s L).1 = ed0 := by
  match s, L with
  | 0, [] => rfl
  | 0, [x] => rw [ofL_one] at h ⊢; exact recR_ed0 x (by simpa using h)
  | 0, _ :: _ :: _ => rw [ofL_bad (by simp) (by simp)]
  | n + 1, _ => rw [ofL_bad (by simp) (by simp)]
theorem ofM_ed0 (m : Ms) : (ofM m).2.1 = false → (ofM m).1 = ed0 := ofL_ed0 _ _

set_option maxHeartbeats 2000000 in
theorem rcode9_any {w : World} {hi : Nat} {u : Value} {m : Ms} (h : Mg w hi u m) (h1 : hi ≤ w.heap.size) (hm : Mild m) :
    Calls Try.prog 16 #[u] w (Tells w (.int .i64 (codM m))) := by
  have hb0 := ofM_bnd m
  have hmg := h
  obtain ⟨q, a, n, r, rfl, hq, h2, h3, h4⟩ := h
  obtain ⟨xa, xc, rfl⟩ := Lst.shape hq
  obtain ⟨aa, ac, rfl⟩ := Lst.shape h2
  obtain ⟨na, nc, rfl⟩ := Lst.shape h3
  obtain ⟨ra, rc, rfl⟩ := Lst.shape h4
  obtain ⟨i0, hi0⟩ : ∃ i, m.id = i := ⟨_, rfl⟩
  obtain ⟨f0, hf0⟩ : ∃ i, m.fl = i := ⟨_, rfl⟩
  obtain ⟨lq, hlq⟩ : ∃ i, m.q.length = i := ⟨_, rfl⟩
  obtain ⟨la, hla⟩ : ∃ i, m.an.length = i := ⟨_, rfl⟩
  obtain ⟨ln, hln⟩ : ∃ i, m.ns.length = i := ⟨_, rfl⟩
  obtain ⟨lr, hlr⟩ : ∃ i, m.ar.length = i := ⟨_, rfl⟩
  rw [hi0, hf0, hlq, hla, hln, hlr] at hmg ⊢
  have hb1 : Below w.heap.size w (w.alloc (.cells #[.int .i64 i0, .int .i64 f0, .slice xa lq xc, .slice aa la ac, .slice na ln nc, .slice ra lr rc] 25)) := (Below.refl _ _).alloc (Nat.le_refl _) _
  have HOF := Lib.hid (rof_any (hmg.below hb1 h1) (Nat.le_trans h1 hb1.size) hm)
  unfold OfPost at HOF
  unfold codM
  rw [hf0]
  obtain ⟨E, hE⟩ : ∃ x, ofM m = x := ⟨_, rfl⟩
  obtain ⟨e, is, er⟩ := E
  have hed := ofM_ed0 m
  rw [hE] at HOF hb0 hed ⊢
  simp only at HOF hb0 hed ⊢
  have HED := Lib.hid hed
  clear hed
  have HB1 := Lib.hid hb1
  obtain ⟨N, hN⟩ : ∃ N, w.heap.size = N := ⟨_, rfl⟩
  have hx := cel_new6 w (.int .i64 i0) (.int .i64 f0) (.slice xa lq xc) (.slice aa la ac) (.slice na ln nc) (.slice ra lr rc) 25
  rw [hN] at hx
  have HX := Lib.hid hx
  have HBD := Lib.hid hb0
  clear h2 h3 h4 hq h1 hm hmg hb1 hx hb0 hi0 hf0 hlq hla hln hlr hE
  go_enter Try.func16, Try.ntmps16
  go_wp2_with fail
  refine HOF.out.mono ?_; rintro ee w2 ⟨v, rfl, hv, hb⟩
  obtain ⟨o, rfl, hso⟩ := hv
  obtain ⟨oa, oc, rfl⟩ := row_shape hso
  replace HX := Lib.hid (HX.out.below (by simp) hb)
  replace HB1 := Lib.hid (bel_call HB1.out hb)
  obtain ⟨g, hg⟩ : ∃ g, w2.heap.size = g := ⟨_, rfl⟩
  have hba : Below w2.heap.size w2 (w2.alloc (.cells #[.int .i64 e.s, .int .i64 e.x, .int .i64 e.v, .bool e.b, .slice oa e.o.length oc] 30)) := (Below.refl _ _).alloc (Nat.le_refl _) _
  have hbox := cel_new w2 (.int .i64 e.s) (.int .i64 e.x) (.int .i64 e.v) (.bool e.b) (.slice oa e.o.length oc) 30
  rw [hg] at hbox
  have hxc := HX.out.below (by simp) hba
  have HB3 := Lib.hid (bel_call HB1.out hba)
  have x1 : (w2.alloc (.cells #[.int .i64 e.s, .int .i64 e.x, .int .i64 e.v, .bool e.b, .slice oa e.o.length oc] 30)).cell? ⟨N, 1, none⟩ = some (.int .i64 f0) := hxc.c 1 (by simp)
  have y1 : (w2.alloc (.cells #[.int .i64 e.s, .int .i64 e.x, .int .i64 e.v, .bool e.b, .slice oa e.o.length oc] 30)).cell? ⟨g, 1, none⟩ = some (.int .i64 e.x) := hbox.c 1 (by simp)
  have HC := Lib.hid (fun wx => rcode_any f0 wx)
  unfold cdF at HC
  obtain ⟨X, hX⟩ : ∃ X, e.x = X := ⟨_, rfl⟩
  obtain ⟨F, hF⟩ : ∃ F, f0 % 16 = F := ⟨_, rfl⟩
  have hbx := HBD.out.1
  rw [hX] at hbx
  rw [hF] at HC
  have hw1 : IntKind.i64.wrap (16 * X) = 16 * X := wr64 _ (by omega) (by omega)
  have hw2 : IntKind.i64.wrap (16 * X + F) = 16 * X + F := wr64 _ (by omega) (by omega)
  rw [hX] at y1
  have hxw : wrap64 (16 * X) = 16 * X := IntWalk.wrap64_in _ ⟨by omega, by omega⟩
  have hxw2 : wrap64 (16 * X + F) = 16 * X + F := IntWalk.wrap64_in _ ⟨by omega, by omega⟩
  have HF := Lib.hid hF
  have HXX := Lib.hid hX
  clear hb hso hba hbox hxc HX HBD hF hX
  have HB4 := Lib.hid (fun n => below_drewN HB3.out n)
  cases is with
  | true =>
    go_wp2_with fail
    go_quiet ((go_at_call 41; exact Calls.quiet_of_same ((HC.out _).mono fun _ _ h => ⟨h.1, h.2.symm⟩)))
    go_wp2_with fail
    go_ret
    exact ⟨by rw [HF.out, HXX.out]; simp [hxw, hxw2]; omega, HB4.out _⟩
  | false =>
    have hx0 : X = 0 := by rw [← HXX.out, HED.out rfl]; rfl
    subst hx0
    go_wp2_with fail
    refine (HC.out _).mono ?_; rintro ee w3 ⟨rfl, rfl⟩
    go_wp2_with fail
    go_ret
    exact ⟨by rw [HF.out, HXX.out]; simp, by first | exact HB3.out | exact HB4.out _⟩

set_option maxHeartbeats 2000000 in
theorem rroom9_any {w : World} {hi : Nat} {u : Value} {m : Ms} (h : Mg w hi u m) (h1 : hi ≤ w.heap.size) (hm : Mild m) :
    Calls Try.prog 18 #[u] w (Tells w (.int .i64 (roM m))) := by
  have hb0 := ofM_bnd m
  have hmg := h
  obtain ⟨q, a, n, r, rfl, hq, h2, h3, h4⟩ := h
  obtain ⟨xa, xc, rfl⟩ := Lst.shape hq
  obtain ⟨aa, ac, rfl⟩ := Lst.shape h2
  obtain ⟨na, nc, rfl⟩ := Lst.shape h3
  obtain ⟨ra, rc, rfl⟩ := Lst.shape h4
  obtain ⟨i0, hi0⟩ : ∃ i, m.id = i := ⟨_, rfl⟩
  obtain ⟨f0, hf0⟩ : ∃ i, m.fl = i := ⟨_, rfl⟩
  obtain ⟨lq, hlq⟩ : ∃ i, m.q.length = i := ⟨_, rfl⟩
  obtain ⟨la, hla⟩ : ∃ i, m.an.length = i := ⟨_, rfl⟩
  obtain ⟨ln, hln⟩ : ∃ i, m.ns.length = i := ⟨_, rfl⟩
  obtain ⟨lr, hlr⟩ : ∃ i, m.ar.length = i := ⟨_, rfl⟩
  rw [hi0, hf0, hlq, hla, hln, hlr] at hmg ⊢
  have hb1 : Below w.heap.size w (w.alloc (.cells #[.int .i64 i0, .int .i64 f0, .slice xa lq xc, .slice aa la ac, .slice na ln nc, .slice ra lr rc] 25)) := (Below.refl _ _).alloc (Nat.le_refl _) _
  have HOF := Lib.hid (rof_any (hmg.below hb1 h1) (Nat.le_trans h1 hb1.size) hm)
  unfold OfPost at HOF
  unfold roM
  obtain ⟨E, hE⟩ : ∃ x, ofM m = x := ⟨_, rfl⟩
  obtain ⟨e, is, er⟩ := E
  have hed := ofM_ed0 m
  rw [hE] at HOF hb0 hed ⊢
  simp only at HOF hb0 hed ⊢
  have HED := Lib.hid hed
  clear hed
  obtain ⟨R, hR⟩ : ∃ R, (if 512 ≤ e.s then e.s else 512) = R := ⟨_, rfl⟩
  rw [hR]
  have HB1 := Lib.hid hb1
  obtain ⟨N, hN⟩ : ∃ N, w.heap.size = N := ⟨_, rfl⟩
  have hx := cel_new6 w (.int .i64 i0) (.int .i64 f0) (.slice xa lq xc) (.slice aa la ac) (.slice na ln nc) (.slice ra lr rc) 25
  rw [hN] at hx
  have HX := Lib.hid hx
  have HBD := Lib.hid hb0
  clear h2 h3 h4 hq h1 hm hmg hb1 hx hb0 hi0 hf0 hlq hla hln hlr hE
  go_enter Try.func18, Try.ntmps18
  go_wp2_with fail
  refine HOF.out.mono ?_; rintro ee w2 ⟨v, rfl, hv, hb⟩
  obtain ⟨o, rfl, hso⟩ := hv
  obtain ⟨oa, oc, rfl⟩ := row_shape hso
  replace HX := Lib.hid (HX.out.below (by simp) hb)
  replace HB1 := Lib.hid (bel_call HB1.out hb)
  obtain ⟨g, hg⟩ : ∃ g, w2.heap.size = g := ⟨_, rfl⟩
  have hba : Below w2.heap.size w2 (w2.alloc (.cells #[.int .i64 e.s, .int .i64 e.x, .int .i64 e.v, .bool e.b, .slice oa e.o.length oc] 30)) := (Below.refl _ _).alloc (Nat.le_refl _) _
  have hbox := cel_new w2 (.int .i64 e.s) (.int .i64 e.x) (.int .i64 e.v) (.bool e.b) (.slice oa e.o.length oc) 30
  rw [hg] at hbox
  have hxc := HX.out.below (by simp) hba
  have HB3 := Lib.hid (bel_call HB1.out hba)
  have y1 : (w2.alloc (.cells #[.int .i64 e.s, .int .i64 e.x, .int .i64 e.v, .bool e.b, .slice oa e.o.length oc] 30)).cell? ⟨g, 0, none⟩ = some (.int .i64 e.s) := hbox.c 0 (by simp)
  obtain ⟨S, hS⟩ : ∃ X, e.s = X := ⟨_, rfl⟩
  have hbs := HBD.out.2
  rw [hS] at hbs y1 hR ⊢
  have HR := Lib.hid hR
  rw [hS] at HB3
  clear hb hso hba hbox hxc HX HBD hR
  cases is with
  | true =>
    go_wp2_with fail
    go_ret
    exact ⟨by rw [← HR.out]; simp; split <;> omega, HB3.out⟩
  | false =>
    have hs0 : S = 0 := by rw [← hS, HED.out rfl]; rfl
    subst hs0
    go_wp2_with fail
    go_ret
    exact ⟨by rw [← HR.out]; simp, HB3.out⟩
end Go.Proofs.Ytcjgbholgbjejaa

/-
  A bare answer is written over: OverMessage.
-/
namespace Go.Proofs.Ytcjgbholgbjejaa
open Go.RowKit Go.Shelf
set_option linter.unusedVariables false
set_option linter.unusedSimpArgs false
set_option maxRecDepth 100000

/-- A row of the call's own, as cells. -/
theorem row_cel {w : World} {B k n g c : Nat} {e : TypeId} {xs : List Value} {m : Nat} (h : w.ownsRow B e k (.slice (some ⟨g, 0, none⟩) m c) n xs) : Cel w g xs := by
  have hc := fun j u hu => World.ownsRow.cells h (g := g) rfl j u hu
  rcases h.2 with ⟨h2, _⟩ | ⟨g', cap, cur, h2, _, hb, _⟩
  · simp at h2
  · injection h2 with h2 _ _
    injection h2 with h2
    injection h2 with h2 _ _
    subst h2
    refine ⟨fun j hj => ?_, fun j => ?_⟩
    · have := hc j xs[j] (List.getElem?_eq_getElem hj)
      rwa [WideShapes.add_plain, Nat.zero_add] at this
    · simp [World.frozen?, hb]

theorem row_how {w : World} {B k n : Nat} {e : TypeId} {a : Option Addr} {m c : Nat} {xs : List Value} (h : w.ownsRow B e k (.slice a m c) n xs) : (a = none ∧ n = 0 ∧ m = 0) ∨ ∃ g, a = some ⟨g, 0, none⟩ ∧ m = n := by
  rcases h.2 with ⟨h2, h0⟩ | ⟨g, cap, cur, h2, _⟩
  · injection h2 with h2 h3 _
    exact .inl ⟨h2, h0, h3⟩
  · injection h2 with h2 h3 _
    exact .inr ⟨g, h2, h3⟩

end Go.Proofs.Ytcjgbholgbjejaa
