/-
  The records that are not of the type; whether records are the first ones of others.
-/
import Derived.Test.YteegekpanadmkaaGreatV06
import Derived.Test.YteegekpanadmkaaGreatV10
import Derived.Test.YteegekpanadmkaaGreatV15
import Derived.Test.YteegekpanadmkaaGreatV11
import Derived.SizedLaws
namespace Go.Proofs.YteegekpanadmkaaGreat
open Go.RowKit Go.Shelf
set_option linter.unusedVariables false
set_option linter.unusedSimpArgs false
set_option maxRecDepth 100000

set_option maxHeartbeats 2000000 in
theorem others10_any {w : World} {hi : Nat} {u : Value} {l : List Rc} (h : SR w hi u l) (h1 : hi ≤ w.heap.size) (hl : l.length ≤ 100000) :
    Calls Tryz.prog 21 #[u] w (fun e w' => ∃ v, e = .returned v ∧ OwnRc w' w.heap.size v (l.filter nO) ∧ Below w.heap.size w w') := by
  have HX := Lib.hid h
  have HN := Lib.hid (Lst.len h)
  have HL := Lib.hid hl
  obtain ⟨a, c, rfl⟩ := Lst.shape h
  obtain ⟨N, hN⟩ : ∃ N, w.heap.size = N := ⟨_, rfl⟩
  have HB0 := Lib.hid (show Below N w w from Below.refl _ _)
  have HHI := Lib.hid (show hi ≤ N by omega)
  have HK0 := Lib.hid (show OwnRc w N (.slice none 0 0) [] from World.ownsRow_nil _ _ _ _)
  clear h h1 hl
  go_enter Tryz.func21, Tryz.ntmps21
  go_wp2_with fail
  go_loopg [3, 4] l.length (fun g v5 v12 wr => ∃ k : Nat, k + g = l.length ∧ v12 = .int .i64 k ∧ Hid (OwnRc wr N v5 ((l.take k).filter nO)) ∧ Hid (Below N w wr) ∧ N ≤ wr.heap.size)
  case atStart => exact ⟨0, by omega, rfl, by simpa using HK0, HB0, by omega⟩
  case round =>
    clear HK0 HB0
    obtain ⟨k, hk, rfl, HK, HB, hsz⟩ := hrel
    have hlen := HN.out
    have hlen2 := HL.out
    by_cases hlt : k < l.length
    · obtain ⟨b, off, c2, he, hb, hc⟩ := HX.out.at_ k hlt
      injection he with he hn3 hc3
      clear hn3 hc3
      subst he
      obtain ⟨c0, c1, c2, c3, c4⟩ := hc.keep fun o => HB.out.cell (p := ⟨b, o, none⟩) (Nat.lt_of_lt_of_le hb HHI.out)
      have HTK := Lib.hid (show l.take (k + 1) = l.take k ++ [l[k]] by rw [List.take_add_one, List.getElem?_eq_getElem hlt]; rfl)
      obtain ⟨x, hx⟩ : ∃ x, l[k] = x := ⟨_, rfl⟩
      rw [hx] at c0 c1 c2 c3 c4 HTK
      obtain ⟨L, hL⟩ : ∃ L, (l.take k).filter nO = L := ⟨_, rfl⟩
      rw [hL] at HK
      have HLL := Lib.hid (show L.length ≤ 100000 by rw [← hL]; exact Nat.le_trans (List.length_filter_le _ _) (Nat.le_trans (by rw [List.length_take]; omega) HL.out))
      have HTF := Lib.hid (show (l.take (k + 1)).filter nO = L ++ [x].filter nO by rw [HTK.out, List.filter_append, hL])
      clear hc hx hb hL
      by_cases hp : x.t = 41
      · have hno : nO x = false := by unfold nO isO; simp [hp]
        have hfe : (l.take (k + 1)).filter nO = L := by rw [HTF.out, List.filter_cons_of_neg (by simp [hno]), List.filter_nil, List.append_nil]
        rw [← hfe] at HK
        rw [hp] at c1
        clear hfe hno
        have HSZ := Lib.hid hsz
        go_wp2_with fail
        go_roundg (l.length - (k + 1))
        case measure => omega
        case rel => exact ⟨k + 1, by omega, by go_num, HK, HB, HSZ.out⟩
      · have hno : nO x = true := by unfold nO isO; simp [hp]
        have t1 : (x.t != 41) = true := by simpa using hp
        have hone := sr_one wr x
        have hb4 : Below wr.heap.size wr (wr.alloc (.cells #[.string (bs x.n), .int .i64 x.t, .int .i64 x.c, .int .i64 x.l, .string (bs x.d)] 52)) := (Below.refl _ _).alloc (Nat.le_refl _) _
        have hsz4 : N ≤ (wr.alloc (.cells #[.string (bs x.n), .int .i64 x.t, .int .i64 x.c, .int .i64 x.l, .string (bs x.d)] 52)).heap.size := by simp; omega
        obtain ⟨a6, c6, w6, hr, hk6, ha6, _⟩ := run_appRc (row_below HK.out hb4) hone (by have := HLL.out; rw [List.length_singleton]; omega) hsz4
        have hf : (l.take (k + 1)).filter nO = L ++ [x] := by rw [HTF.out, List.filter_cons_of_pos (by simp [hno]), List.filter_nil]
        have HK6 := Lib.hid (show OwnRc w6 N (.slice a6 (L.length + 1) c6) ((l.take (k + 1)).filter nO) by rw [hf]; exact hk6)
        have hlr := World.ownsRow.lt (row_below HK.out hb4)
        have HB6 := Lib.hid (below_aside (HB.out.alloc (by omega) _) ha6 (fun k hk => ⟨by simp; omega, fun he => by have := (hlr k he).1; omega⟩))
        have HSZ := Lib.hid (Nat.le_trans hsz4 ha6.size)
        obtain ⟨av, cv, rfl⟩ := row_shape HK.out
        have HR := Lib.hid hr
        clear hone hb4 hsz4 hr hk6 ha6 hf HK HB hlr hno
        go_wp2_with (at_builtin; refine wpList_append_run (.tmp 17) (.tmp 22) 23 23 rfl rfl rfl rfl HR.out ?_)
        go_roundg (l.length - (k + 1))
        case measure => omega
        case rel => exact ⟨k + 1, by omega, by go_num, HK6, HB6, HSZ.out⟩
    · have t1 : ¬ ((k : Int) < l.length) := by omega
      have hkl : l.take k = l := List.take_of_length_le (by omega)
      rw [hkl] at HK
      clear hkl
      go_wp2_with fail
      go_ret
      exact ⟨_, rfl, by first | exact HK.out | (rw [hN]; exact HK.out), by first | exact HB.out | (rw [hN]; exact HB.out)⟩

end Go.Proofs.YteegekpanadmkaaGreat

/-
  The least TTL is one that a record has, and none has a lesser one: TrimLeast.
-/
namespace Go.Proofs.YteegekpanadmkaaGreat
open Go.RowKit Go.Shelf
set_option linter.unusedVariables false
set_option linter.unusedSimpArgs false
set_option maxRecDepth 100000

theorem mild_of10 {most M : Nat} {m : Ms} (h : bigMs most M m = false) (h1 : most ≤ 800000) (h2 : M ≤ 900000) : Mild m := by
  obtain ⟨k1, k2, k3, k4, k5⟩ := bigMs_no h
  exact ⟨by omega, fun x hx => by have := k2 x hx; omega, fun x hx => by have := k3 x hx; omega, fun x hx => by have := k4 x hx; omega, fun x hx => by have := k5 x hx; omega⟩
theorem noL_noL (l : List Rc) : noL (noL l) = noL l := by
  unfold noL
  rw [List.filter_filter]
  congr 1
  funext x
  simp
theorem noL_filt (m : Ms) : noL m.an ++ noL m.ns ++ noL m.ar = (m.an ++ m.ns ++ m.ar).filter nO := by
  rw [List.filter_append, List.filter_append]
  rfl
theorem leastA_st (m : Ms) : leastA (stM m) = leastA m := by
  have e : noL (stM m).an ++ noL (stM m).ns ++ noL (stM m).ar = noL m.an ++ noL m.ns ++ noL m.ar := by
    show noL (noL m.an) ++ noL (noL m.ns) ++ noL (noL m.ar) = _
    rw [noL_noL, noL_noL, noL_noL]
  unfold leastA
  rw [e]
def leastF : List Rc → Int × Bool
  | [] => (0, false)
  | x :: t => ((minR x (x :: t)).l, true)
theorem leastA_is {m : Ms} {F : List Rc} (h : (m.an ++ m.ns ++ m.ar).filter nO = F) : (F = [] → leastA m = (0, false)) ∧ (∀ x ∈ F, (leastA m).2 = true ∧ (leastA m).1 ≤ x.l) ∧ (F.any (fun x => x.l == (leastA m).1)) = (leastA m).2 := by
  have e : leastA m = leastF F := by
    rw [← h, ← noL_filt]
    unfold leastA leastF
    rfl
  rw [e]
  clear h e
  cases F with
  | nil => exact ⟨fun _ => rfl, by simp, rfl⟩
  | cons x t =>
    refine ⟨fun h => by simp at h, fun y hy => ⟨rfl, (minR_le x (x :: t)).2 y hy⟩, ?_⟩
    show (x :: t).any (fun y => y.l == (minR x (x :: t)).l) = true
    rw [List.any_eq_true]
    rcases minR_mem x (x :: t) with h1 | h1
    · exact ⟨x, List.mem_cons_self .., by rw [h1]; simp⟩
    · exact ⟨_, h1, by simp⟩
theorem any_take {F : List Rc} {L : Int} {k : Nat} (h : k < F.length) : (F.take (k + 1)).any (fun x => x.l == L) = ((F.take k).any (fun x => x.l == L) || (F[k].l == L)) := by
  rw [List.take_succ_eq_append_getElem h, List.any_append]
  simp

set_option maxHeartbeats 16000000 in
theorem leastL_any {w : World} {u : Value} {m : Ms} (h : Mg w w.heap.size u m) : Calls Tryz.prog 6 #[u] w (Tells w (.bool true)) := by
  have HAw := Lib.hid (fun wx => awake10_any wx)
  obtain ⟨q, a, n, r, rfl, hq, ha, hn, hr⟩ := h
  obtain ⟨qa, qc, rfl⟩ := Lst.shape hq
  obtain ⟨aa, ac, rfl⟩ := Lst.shape ha
  obtain ⟨na, nc, rfl⟩ := Lst.shape hn
  obtain ⟨ra, rc, rfl⟩ := Lst.shape hr
  have hm : Mg w w.heap.size (.agg #[.int .i64 m.id, .int .i64 m.fl, .slice qa m.q.length qc, .slice aa m.an.length ac, .slice na m.ns.length nc, .slice ra m.ar.length rc]) m := ⟨_, _, _, _, rfl, hq, ha, hn, hr⟩
  obtain ⟨i0, hi0⟩ : ∃ i, m.id = i := ⟨_, rfl⟩
  obtain ⟨f0, hf0⟩ : ∃ i, m.fl = i := ⟨_, rfl⟩
  obtain ⟨lq, hlq⟩ : ∃ i, m.q.length = i := ⟨_, rfl⟩
  obtain ⟨la, hla⟩ : ∃ i, m.an.length = i := ⟨_, rfl⟩
  obtain ⟨ln, hln⟩ : ∃ i, m.ns.length = i := ⟨_, rfl⟩
  obtain ⟨lr, hlr⟩ : ∃ i, m.ar.length = i := ⟨_, rfl⟩
  obtain ⟨R, hR⟩ : ∃ r, bigMs 60 3000 m = r := ⟨_, rfl⟩
  rw [hi0, hf0, hlq, hla, hln, hlr] at hm ⊢
  obtain ⟨N, hN⟩ : ∃ N, w.heap.size = N := ⟨_, rfl⟩
  obtain ⟨W1, hW1⟩ : ∃ X, w.alloc (.cells #[.int .i64 i0, .int .i64 f0, .slice qa lq qc, .slice aa la ac, .slice na ln nc, .slice ra lr rc] 25) = X := ⟨_, rfl⟩
  have hb1 : Below w.heap.size w W1 := by rw [← hW1]; exact (Below.refl _ _).alloc (Nat.le_refl _) _
  have hx := cel_new6 w (.int .i64 i0) (.int .i64 f0) (.slice qa lq qc) (.slice aa la ac) (.slice na ln nc) (.slice ra lr rc) 25
  rw [hN, hW1] at hx
  have HM := Lib.hid (And.intro (hm.later hb1) (And.intro hx hb1))
  have HRE := Lib.hid hR
  have HV := Lib.hid (And.intro hi0 (And.intro hf0 (And.intro hlq (And.intro hla (And.intro hln hlr)))))
  clear hm hq ha hn hr hi0 hf0 hlq hla hln hlr hb1 hx hR
  go_enter Tryz.func6, Tryz.ntmps6
  go_wp2_with fail
  clear hW1 hN
  refine (HAw.out W1).mono ?_; rintro e w2 ⟨rfl, hb⟩
  have hx2 := HM.out.2.1.below (by simp) hb
  have HB2 := Lib.hid (And.intro (HM.out.1.later hb) (And.intro hx2 (HM.out.2.2.trans (hb.mono HM.out.2.2.size))))
  obtain ⟨x0, x1, x2, x3, x4, x5⟩ := hx2.six
  have HBG := Lib.hid (big10_any HB2.out.1)
  rw [HRE.out] at HBG
  clear hb hx2 HM
  go_wp2_with fail
  refine HBG.out.mono ?_; rintro e w3 ⟨rfl, hb⟩
  have hx2 := HB2.out.2.1.below (by simp) hb
  have HB3 := Lib.hid (And.intro (HB2.out.1.later hb) (And.intro hx2 (HB2.out.2.2.trans (hb.mono HB2.out.2.2.size))))
  clear x0 x1 x2 x3 x4 x5
  obtain ⟨x0, x1, x2, x3, x4, x5⟩ := hx2.six
  clear hb hx2 HB2
  rcases R with _ | _
  · have hmild := mild_of10 HRE.out (by decide) (by decide)
    have h60 := (bigMs_no HRE.out).1
    have HLE := Lib.hid (leastT_any HB3.out.1 (Nat.le_refl _) hmild)
    obtain ⟨L, hL⟩ : ∃ L, (leastA m).1 = L := ⟨_, rfl⟩
    obtain ⟨I, hI⟩ : ∃ I, (leastA m).2 = I := ⟨_, rfl⟩
    rw [hL, hI] at HLE
    have HMI := Lib.hid hmild
    have h60b : lq + la + ln + lr ≤ 60 := by have := HV.out; omega
    clear hmild h60
    go_wp2_with fail
    refine HLE.out.mono ?_; rintro e w4 ⟨rfl, hb⟩
    have HB4 := Lib.hid (And.intro (HB3.out.1.later hb) (And.intro (HB3.out.2.1.below (by simp) hb) (HB3.out.2.2.trans (hb.mono HB3.out.2.2.size))))
    clear x0 x1 x2 x3 x4 x5 hb HLE HB3 HBG
    have HSS := Lib.hid (fun (wx : World) (hb : Below w4.heap.size w4 wx) => (show wx.cell? ⟨N, 3, none⟩ = some (.slice aa la ac) ∧ wx.cell? ⟨N, 4, none⟩ = some (.slice na ln nc) ∧ wx.cell? ⟨N, 5, none⟩ = some (.slice ra lr rc) from by
      have hx := HB4.out.2.1.below (by simp) hb
      exact ⟨hx.c 3 (by simp), hx.c 4 (by simp), hx.c 5 (by simp)⟩))
    have HSR := Lib.hid (fun (wx : World) (hb : Below w4.heap.size w4 wx) => (show SR wx wx.heap.size (.slice aa la ac) m.an ∧ SR wx wx.heap.size (.slice na ln nc) m.ns ∧ SR wx wx.heap.size (.slice ra lr rc) m.ar from by
      obtain ⟨q, a, n, r, he, hq, ha, hn, hr⟩ := HB4.out.1.later hb
      injection he with he
      simp only [Array.mk.injEq, List.cons.injEq, and_true] at he
      obtain ⟨_, _, _, rfl, rfl, rfl⟩ := he
      exact ⟨ha, hn, hr⟩))
    obtain ⟨F, hF⟩ : ∃ F, (m.an ++ m.ns ++ m.ar).filter nO = F := ⟨_, rfl⟩
    obtain ⟨n, hn⟩ : ∃ n, F.length = n := ⟨_, rfl⟩
    have hn6 : n ≤ 60 := by rw [← hn, ← hF]; have := HV.out; exact Nat.le_trans (List.length_filter_le _ _) (by simp only [List.length_append]; omega)
    have hfa := leastA_is hF
    rw [hL, hI] at hfa
    have HFA := Lib.hid (And.intro hfa (And.intro hL hI))
    have HNF := Lib.hid hn
    have HFF := Lib.hid hF
    obtain ⟨G, hG⟩ : ∃ G, w4.heap.size = G := ⟨_, rfl⟩
    have HGG := Lib.hid hG
    clear hfa hL hI hn hF
    go_wp2_with fail
    refine wp_region_held_drew (S := (fun wx => wx.cell? ⟨N, 3, none⟩ = some (.slice aa la ac) ∧ wx.cell? ⟨N, 4, none⟩ = some (.slice na ln nc) ∧ wx.cell? ⟨N, 5, none⟩ = some (.slice ra lr rc))) (by kernel_rfl) (HSS.out _ (Below.refl _ _).drew) (fun hHeld => ?_)
    refine wpAnyH_take (i := 1) (oi := { dst := some 21, op := Op.fieldAddr 25 (Operand.tmp 1) 3, type := 0, pos := "outright.go:106", after := #[], guard := none }) (v := ?_) rfl (by kernel_rfl) (by kernel_rfl) (by kernel_rfl) (fun _ _ _ h => h) (Or.inl ⟨by rfl, ?_⟩) (by assumption) ?_
    rotate_left 1
    · intro w hSw; clear hSw; go_simp; try (with_reducible rfl)
    try simp only [Act.put, List.setIfInBounds_toArray, List.set_cons_zero, List.set_cons_succ]
    refine wpAnyH_take (i := 2) (oi := { dst := some 22, op := Op.load 23 (Operand.tmp 21), type := 23, pos := "outright.go:106", after := #[{ on := 1, ground := Ground.data }], guard := none }) (v := ?_) rfl (by kernel_rfl) (by kernel_rfl) (by kernel_rfl) (fun _ _ _ h => h) (Or.inl ⟨by rfl, ?_⟩) (by assumption) ?_
    rotate_left 1
    · intro w hSw; have hSw1 := hSw.1; clear hSw; have hSw := hSw1; clear hSw1; (try dsimp only at hSw); go_simp; try (with_reducible rfl)
    try simp only [Act.put, List.setIfInBounds_toArray, List.set_cons_zero, List.set_cons_succ]
    refine wpAnyH_take (i := 4) (oi := { dst := some 24, op := Op.fieldAddr 25 (Operand.tmp 1) 4, type := 0, pos := "outright.go:106", after := #[], guard := none }) (v := ?_) rfl (by kernel_rfl) (by kernel_rfl) (by kernel_rfl) (fun _ _ _ h => h) (Or.inl ⟨by rfl, ?_⟩) (by assumption) ?_
    rotate_left 1
    · intro w hSw; clear hSw; go_simp; try (with_reducible rfl)
    try simp only [Act.put, List.setIfInBounds_toArray, List.set_cons_zero, List.set_cons_succ]
    refine wpAnyH_take (i := 5) (oi := { dst := some 25, op := Op.load 23 (Operand.tmp 24), type := 23, pos := "outright.go:106", after := #[{ on := 4, ground := Ground.data }], guard := none }) (v := ?_) rfl (by kernel_rfl) (by kernel_rfl) (by kernel_rfl) (fun _ _ _ h => h) (Or.inl ⟨by rfl, ?_⟩) (by assumption) ?_
    rotate_left 1
    · intro w hSw; have hSw1 := hSw.2.1; clear hSw; have hSw := hSw1; clear hSw1; (try dsimp only at hSw); go_simp; try (with_reducible rfl)
    try simp only [Act.put, List.setIfInBounds_toArray, List.set_cons_zero, List.set_cons_succ]
    refine wpAnyH_take (i := 7) (oi := { dst := some 27, op := Op.fieldAddr 25 (Operand.tmp 1) 5, type := 0, pos := "outright.go:106", after := #[], guard := none }) (v := ?_) rfl (by kernel_rfl) (by kernel_rfl) (by kernel_rfl) (fun _ _ _ h => h) (Or.inl ⟨by rfl, ?_⟩) (by assumption) ?_
    rotate_left 1
    · intro w hSw; clear hSw; go_simp; try (with_reducible rfl)
    try simp only [Act.put, List.setIfInBounds_toArray, List.set_cons_zero, List.set_cons_succ]
    refine wpAnyH_take (i := 8) (oi := { dst := some 28, op := Op.load 23 (Operand.tmp 27), type := 23, pos := "outright.go:106", after := #[{ on := 7, ground := Ground.data }], guard := none }) (v := ?_) rfl (by kernel_rfl) (by kernel_rfl) (by kernel_rfl) (fun _ _ _ h => h) (Or.inl ⟨by rfl, ?_⟩) (by assumption) ?_
    rotate_left 1
    · intro w hSw; have hSw1 := hSw.2.2; clear hSw; have hSw := hSw1; clear hSw1; (try dsimp only at hSw); go_simp; try (with_reducible rfl)
    try simp only [Act.put, List.setIfInBounds_toArray, List.set_cons_zero, List.set_cons_succ]
    refine wpAnyH_ready (rs := [0]) (by kernel_rfl) (by simp) ?_
    refine AllReadyH.cons (o := { dst := some 20, op := Op.buildSlice 23 0 #[], type := 23, pos := "outright.go:106", after := #[], guard := none }) rfl (fun K hK => ?_) (AllReadyH.nil)
    go_simp
    obtain ⟨W0, hW0⟩ : ∃ X, (w4.alloc (.cells #[] 52)).drew = X := ⟨_, rfl⟩
    have HB0 := Lib.hid (show Below w4.heap.size w4 W0 by rw [← hW0]; exact ((Below.refl _ w4).alloc (Nat.le_refl _) _).drew)
    have HO0 := Lib.hid (show OwnRc W0 G (.slice (some ⟨G, 0, none⟩) 0 0) [] by rw [← hW0, ← HGG.out]; exact ⟨rfl, .inr ⟨w4.heap.size, 0, #[], rfl, Nat.le_refl _, heap_alloc_new w4 _, Nat.le_refl _, by unfold maxLen; omega, rfl, rfl⟩⟩)
    rw [hW0]
    clear hW0
    refine hK.out _ _ (HSS.out _ HB0.out) (fun hHeld => ?_)
    clear hK K
    try simp only [Act.put, List.setIfInBounds_toArray, List.set_cons_zero, List.set_cons_succ]
    refine wpAnyH_ready (rs := [3]) (by kernel_rfl) (by simp) ?_
    refine AllReadyH.cons (o := { dst := some 23, op := Op.call { callee := Callee.builtin Builtin.append, args := #[Operand.tmp 20, Operand.tmp 22], argTypes := #[23, 23] }, type := 23, pos := "outright.go:106", after := #[{ on := 0, ground := Ground.data }, { on := 2, ground := Ground.data }], guard := none }) rfl (fun K hK => ?_) (AllReadyH.nil)
    obtain ⟨a1, c1, w1x, hr, ho, ha, _⟩ := run_appRc HO0.out (HSR.out _ HB0.out).1 (by have := HV.out; (try simp only [List.length_append, List.length_nil]); omega) (by have := HB0.out.size; have := HGG.out; omega)
    rw [HV.out.2.2.2.1, List.length_nil, Nat.zero_add] at hr ho
    rw [List.nil_append] at ho
    have HR1 := Lib.hid hr
    have hlo := World.ownsRow.lt HO0.out
    have HO1 := Lib.hid ho
    have HB1 := Lib.hid (below_aside HB0.out ha (fun k hk => ⟨by have := HB0.out.size; omega, fun he => by have := (hlo k he).1; have := HGG.out; omega⟩))
    clear hr ho ha hlo
    refine oper_app_run (.tmp 20) (.tmp 22) 23 23 rfl rfl rfl rfl HR1.out ?_
    refine hK.out _ _ (HSS.out _ HB1.out) (fun hHeld => ?_)
    clear hK K
    try simp only [Act.put, List.setIfInBounds_toArray, List.set_cons_zero, List.set_cons_succ]
    refine wpAnyH_ready (rs := [6]) (by kernel_rfl) (by simp) ?_
    refine AllReadyH.cons (o := { dst := some 26, op := Op.call { callee := Callee.builtin Builtin.append, args := #[Operand.tmp 23, Operand.tmp 25], argTypes := #[23, 23] }, type := 23, pos := "outright.go:106", after := #[{ on := 3, ground := Ground.data }, { on := 5, ground := Ground.data }, { on := 3, ground := Ground.chain }], guard := none }) rfl (fun K hK => ?_) (AllReadyH.nil)
    obtain ⟨a2, c2, w2x, hr, ho, ha, _⟩ := run_appRc HO1.out (HSR.out _ HB1.out).2.1 (by have := HV.out; (try simp only [List.length_append, List.length_nil]); omega) (by have := HB1.out.size; have := HGG.out; omega)
    rw [HV.out.2.2.2.1, HV.out.2.2.2.2.1] at hr ho
    obtain ⟨s2, hs2⟩ : ∃ s, la + ln = s := ⟨_, rfl⟩
    rw [hs2] at hr ho
    have HS2 := Lib.hid hs2
    clear hs2
    have HR2 := Lib.hid hr
    have hlo := World.ownsRow.lt HO1.out
    have HO2 := Lib.hid ho
    have HB2 := Lib.hid (below_aside HB1.out ha (fun k hk => ⟨by have := HB1.out.size; omega, fun he => by have := (hlo k he).1; have := HGG.out; omega⟩))
    clear hr ho ha hlo
    refine oper_app_run (.tmp 23) (.tmp 25) 23 23 rfl rfl rfl rfl HR2.out ?_
    refine hK.out _ _ (HSS.out _ HB2.out) (fun hHeld => ?_)
    clear hK K
    try simp only [Act.put, List.setIfInBounds_toArray, List.set_cons_zero, List.set_cons_succ]
    refine wpAnyH_ready (rs := [9]) (by kernel_rfl) (by simp) ?_
    refine AllReadyH.cons (o := { dst := some 29, op := Op.call { callee := Callee.builtin Builtin.append, args := #[Operand.tmp 26, Operand.tmp 28], argTypes := #[23, 23] }, type := 23, pos := "outright.go:106", after := #[{ on := 6, ground := Ground.data }, { on := 8, ground := Ground.data }, { on := 6, ground := Ground.chain }], guard := none }) rfl (fun K hK => ?_) (AllReadyH.nil)
    obtain ⟨a3, c3, w3x, hr, ho, ha, _⟩ := run_appRc HO2.out (HSR.out _ HB2.out).2.2 (by have := HV.out; (try simp only [List.length_append, List.length_nil]); omega) (by have := HB2.out.size; have := HGG.out; omega)
    rw [HV.out.2.2.2.2.2, List.length_append, HV.out.2.2.2.1, HV.out.2.2.2.2.1, HS2.out] at hr ho
    obtain ⟨s3, hs3⟩ : ∃ s, s2 + lr = s := ⟨_, rfl⟩
    rw [hs3] at hr ho
    have HS3 := Lib.hid hs3
    clear hs3
    have HR3 := Lib.hid hr
    have hlo := World.ownsRow.lt HO2.out
    have HO3 := Lib.hid ho
    have HB3 := Lib.hid (below_aside HB2.out ha (fun k hk => ⟨by have := HB2.out.size; omega, fun he => by have := (hlo k he).1; have := HGG.out; omega⟩))
    clear hr ho ha hlo
    refine oper_app_run (.tmp 26) (.tmp 28) 23 23 rfl rfl rfl rfl HR3.out ?_
    refine hK.out _ _ (HSS.out _ HB3.out) (fun hHeld => ?_)
    clear hK K
    try simp only [Act.put, List.setIfInBounds_toArray, List.set_cons_zero, List.set_cons_succ]
    refine wpAnyH_ready (rs := [10]) (by kernel_rfl) (by simp) ?_
    refine AllReadyH.cons (o := { dst := some 30, op := Op.call { callee := Callee.value (Operand.func 21), args := #[Operand.tmp 29], argTypes := #[23] }, type := 23, pos := "outright.go:106", after := #[{ on := 9, ground := Ground.data }, { on := 9, ground := Ground.chain }], guard := none }) rfl (fun K hK => ?_) (AllReadyH.nil)
    go_simp
    have hoth := others10_any (w := w3x) (u := .slice a3 s3 c3) (l := m.an ++ m.ns ++ m.ar) (Lst.own HO3.out (by have := HV.out; simp only [List.length_append]; omega)) (Nat.le_refl _) (by have := HV.out; simp only [List.length_append]; omega)
    refine hoth.mono ?_; rintro e0 w9 ⟨v9, rfl, ho, hb⟩
    obtain ⟨a9, c9, rfl⟩ := row_shape ho
    rw [HFF.out, HNF.out]
    have HO9 := Lib.hid (show Lst w9 w9.heap.size (.slice a9 n c9) n (acr F) by have h := Lst.own ho (by rw [HFF.out, HNF.out]; omega); rw [HFF.out, HNF.out] at h; exact h)
    have HB9 := Lib.hid (HB3.out.trans (hb.mono HB3.out.size))
    clear ho hb hoth
    refine hK.out _ _ (HSS.out _ HB9.out) (fun hHeld => ?_)
    clear hK K
    try simp only [Act.put, List.setIfInBounds_toArray, List.set_cons_zero, List.set_cons_succ]
    refine wpAnyH_take (i := 11) (oi := { dst := some 6, op := Op.assign (Operand.tmp 30), type := 23, pos := "outright.go:106", after := #[{ on := 10, ground := Ground.data }, { on := 10, ground := Ground.chain }, { on := 0, ground := Ground.phase }, { on := 1, ground := Ground.phase }, { on := 2, ground := Ground.phase }, { on := 3, ground := Ground.phase }, { on := 4, ground := Ground.phase }, { on := 5, ground := Ground.phase }, { on := 6, ground := Ground.phase }, { on := 7, ground := Ground.phase }, { on := 8, ground := Ground.phase }, { on := 9, ground := Ground.phase }, { on := 10, ground := Ground.phase }], guard := none }) (v := ?_) rfl (by kernel_rfl) (by kernel_rfl) (by kernel_rfl) (fun _ _ _ h => h) (Or.inl ⟨by rfl, ?_⟩) (by assumption) ?_
    rotate_left 1
    · intro w hSw; clear hSw; go_simp; try (with_reducible rfl)
    try simp only [Act.put, List.setIfInBounds_toArray, List.set_cons_zero, List.set_cons_succ]
    refine wpAnyH_done (by kernel_rfl) ?_ _
    clear hHeld
    clear hG
    have HR := Lib.hid (show SR w9 w9.heap.size (.slice a9 F.length c9) F by rw [HNF.out]; unfold SR; rw [HNF.out]; exact HO9.out)
    clear HO9 HO0 HO1 HO2 HO3 HB0 HB1 HB2 HB3 HSS HSR
    have h0any : ((F.take 0).any fun x => x.l == L) = false := rfl
    go_wp2_with fail
    go_loopg [7, 8] n (fun g v7 v8 wr => ∃ (k : Nat) (b : Bool), k + g = n ∧ v8 = .int .i64 k ∧ v7 = .bool b ∧ Hid (((F.take k).any fun x => x.l == L) = b) ∧ w9 = wr)
    case atStart => exact ⟨0, false, by omega, rfl, rfl, h0any, rfl⟩
    case round =>
      obtain ⟨k, b, hg, rfl, rfl, HBO, rfl⟩ := hrel
      by_cases hlt : k < n
      · have hlt2 : k < F.length := by rw [HNF.out]; exact hlt
        obtain ⟨bb, off, cc, he, hbb, hc⟩ := HR.out.at_ k hlt2
        rw [HNF.out] at he
        injection he with he hn3 hc3
        clear hn3 hc3
        subst he
        have HAT := Lib.hid (any_take (L := L) hlt2)
        obtain ⟨hi1, hle⟩ := HFA.out.1.2.1 F[k] (List.getElem_mem hlt2)
        subst hi1
        obtain ⟨x, hx⟩ : ∃ x, F[k] = x := ⟨_, rfl⟩
        rw [hx, HBO.out] at HAT
        rw [hx] at hc hle
        obtain ⟨c0, c1, c2, c3, c4⟩ := hc
        have hkn : (k : Int) < (n : Int) := by omega
        have tl : decide (x.l < L) = false := by simp; omega
        have tlp : ¬ x.l < L := by omega
        clear hx hle c0 c1 c2 c4 hbb hlt2
        cases b with
        | true =>
          go_wp2_with fail
          go_roundg (n - (k + 1))
          case measure => omega
          case rel => exact ⟨k + 1, true, by omega, by go_num, rfl, Lib.hid (by rw [HAT.out]; rfl), rfl⟩
        | false =>
          by_cases hxl : x.l = L
          · have te : (x.l == L) = true := by simpa using hxl
            have HTE := Lib.hid te
            clear hxl
            go_wp2_with fail
            go_roundg (n - (k + 1))
            case measure => omega
            case rel => exact ⟨k + 1, true, by omega, by go_num, rfl, Lib.hid (by rw [HAT.out, HTE.out]; rfl), rfl⟩
          · have te : (x.l == L) = false := by simpa using hxl
            have HTE := Lib.hid te
            clear hxl
            go_wp2_with fail
            go_roundg (n - (k + 1))
            case measure => omega
            case rel => exact ⟨k + 1, false, by omega, by go_num, rfl, Lib.hid (by rw [HAT.out, HTE.out]; rfl), rfl⟩
      · have hke : k = n := by omega
        subst hke
        have hbI : b = I := by rw [← HBO.out, List.take_of_length_le (Nat.le_of_eq HNF.out)]; exact HFA.out.1.2.2
        subst hbI
        have t1 : ¬ ((k : Int) < (k : Int)) := by omega
        have HST := Lib.hid (strip_any (HB4.out.1.later HB9.out) (Nat.le_refl _) HMI.out)
        have HX9 := Lib.hid (HB4.out.2.1.below (by simp) HB9.out)
        obtain ⟨x0, x1, x2, x3, x4, x5⟩ := HX9.out.six
        clear HBO
        go_wp2_with fail
        refine HST.out.mono ?_; rintro e wa ⟨v, rfl, ho, hb⟩
        have HL2 := Lib.hid (leastT_any (ho.mg HMI.out.st.1) (Nat.le_refl _) HMI.out.st)
        rw [leastA_st, HFA.out.2.1, HFA.out.2.2] at HL2
        have HBA := Lib.hid (HB9.out.trans (hb.mono HB9.out.size))
        clear x0 x1 x2 x3 x4 x5 ho hb HST
        go_wp2_with fail
        refine HL2.out.mono ?_; rintro e wb ⟨rfl, hb⟩
        have HBB := Lib.hid (HB4.out.2.2.trans ((HBA.out.trans (hb.mono HBA.out.size)).mono HB4.out.2.2.size))
        clear hb HL2 HBA
        go_wp2_with fail
        go_ret
        exact ⟨by simp, HBB.out⟩
  · go_wp2_with fail
    go_ret
    exact ⟨rfl, HB3.out.2.2⟩
end Go.Proofs.YteegekpanadmkaaGreat

/-
  Messages that came in.
-/
namespace Go.Proofs.YteegekpanadmkaaGreat
open Go.RowKit Go.Shelf
set_option linter.unusedVariables false
set_option linter.unusedSimpArgs false
set_option maxRecDepth 100000

theorem flat_of {α : Type} {f : α → List Value} {k : Nat} (hf : ∀ x, (f x).length = k) : ∀ (l : List α) (i : Nat) (u : Value), (l.flatMap f)[i]? = some u → ∃ j r, ∃ h : j < l.length, i = j * k + r ∧ (f l[j])[r]? = some u
  | [], i, u, h => by simp at h
  | x :: l, i, u, h => by
    rw [List.flatMap_cons] at h
    by_cases hi : i < k
    · rw [List.getElem?_append_left (by rw [hf]; exact hi)] at h
      exact ⟨0, i, by simp, by omega, h⟩
    · rw [List.getElem?_append_right (by rw [hf]; omega), hf] at h
      obtain ⟨j, r, h1, h2, h3⟩ := flat_of hf l _ u h
      exact ⟨j + 1, r, by simpa using h1, by rw [Nat.add_mul]; omega, h3⟩

def IsQs (w : World) (a : Option Addr) (len cap : Nat) : Prop :=
  (a = none ∧ len = 0 ∧ cap = 0) ∨ ∃ x, a = some x ∧ ∀ i, i < len → ∃ (s : ByteArray) (t c : Int), w.cell? (x.add (i * 3)) = some (.string s) ∧ w.cell? (x.add (i * 3 + 1)) = some (.int .i64 t) ∧ w.cell? (x.add (i * 3 + 2)) = some (.int .i64 c)
def IsRs (w : World) (a : Option Addr) (len cap : Nat) : Prop :=
  (a = none ∧ len = 0 ∧ cap = 0) ∨ ∃ x, a = some x ∧ ∀ i, i < len → ∃ (s : ByteArray) (t c l : Int) (d : ByteArray), w.cell? (x.add (i * 5)) = some (.string s) ∧ w.cell? (x.add (i * 5 + 1)) = some (.int .i64 t) ∧ w.cell? (x.add (i * 5 + 2)) = some (.int .i64 c) ∧ w.cell? (x.add (i * 5 + 3)) = some (.int .i64 l) ∧ w.cell? (x.add (i * 5 + 4)) = some (.string d)

theorem cells_qn : Tryz.prog.cellsOf 56 = 3 := by kernel_rfl
theorem cells_msg : Tryz.prog.cellsOf 25 = 6 := by kernel_rfl
theorem cells_sqn : Tryz.prog.cellsOf 22 = 1 := by kernel_rfl
theorem cells_src : Tryz.prog.cellsOf 23 = 1 := by kernel_rfl
theorem bytes_qn : Tryz.prog.bytesOf 56 = 32 := by kernel_rfl
theorem bytes_rc : Tryz.prog.bytesOf 52 = 56 := by kernel_rfl

theorem open_qn {H : Type} {enc : TypeId × Value → H} {w : World} {base fuel : Nat} {spare : Nat → Bool} {held : Bool} {cs : List Value} {x : DataW H × List MemPlace}
    (h : DataW.trod enc Tryz.prog w base spare held fuel 56 cs = some x) (hl : cs.length = 3) : ∃ (s : ByteArray) (t c : Int), cs = [.string s, .int .i64 t, .int .i64 c] := by
  cases fuel with
  | zero => simp [DataW.trod] at h
  | succ fuel =>
    obtain ⟨xs, k, _, _, _, h9, h10⟩ := DataW.trod_struct Tryz.underlying56 h
    match cs, hl with
    | [v0, v1, v2], _ =>
      have g0 := h10 0 _ rfl
      have g1 := h10 1 _ rfl
      have g2 := h10 2 _ rfl
      match xs, h9 with
      | [y0, y1, y2], _ =>
        simp [cellsC_str, cellsC_int] at g0 g1 g2
        obtain ⟨s, k0, _, _⟩ := DataW.trod_string Tryz.underlying9 g0
        obtain ⟨t, k1, _, _⟩ := DataW.trod_int Tryz.underlying3 g1
        obtain ⟨c, k2, _, _⟩ := DataW.trod_int Tryz.underlying3 g2
        injection k0 with k0 _
        injection k1 with k1 _
        injection k2 with k2 _
        subst k0; subst k1; subst k2
        exact ⟨s, t, c, rfl⟩

theorem open_qs {H : Type} {enc : TypeId × Value → H} {w : World} {base fuel : Nat} {spare : Nat → Bool} {held : Bool} {cs : List Value} {x : DataW H × List MemPlace}
    (h : DataW.trod enc Tryz.prog w base spare held fuel 22 cs = some x) (hw : ∀ n ∈ x.1.weights Tryz.prog 22, n ≤ reachBytes) :
    ∃ a len cap, cs = [.slice a len cap] ∧ IsQs w a len cap ∧ len ≤ 140737488351232 := by
  rcases Deep.open_slice Tryz.underlying22 h with ⟨h1, _⟩ | ⟨b, l, c, m, n, D, Pl, h1, _, h2, _, h3, h5, h4⟩
  · exact ⟨none, 0, 0, h1, .inl ⟨rfl, rfl, rfl⟩, by omega⟩
  · have hm : l ≤ m := by rw [h3]; split <;> omega
    refine ⟨some b, l, c, h1, .inr ⟨b, rfl, fun i hi => ?_⟩, ?_⟩
    · obtain ⟨cs', h6, h7⟩ := h4 i (by omega)
      rw [cells_qn] at h6
      obtain ⟨_, h8, h9⟩ := World.cells?_some h6
      obtain ⟨s, t, c, rfl⟩ := open_qn h7 h8
      have c0 := h9 0 (by omega)
      have c1 := h9 1 (by omega)
      have c2 := h9 2 (by omega)
      rw [Deep.add_add] at c0 c1 c2
      exact ⟨s, t, c, by simpa using c0, by simpa using c1, by simpa using c2⟩
    · have := hw ((l + (m - l)) * 32) (by rw [h5]; simp [DataW.weights, Tryz.underlying22, bytes_qn])
      unfold reachBytes at this
      omega
theorem open_rs {H : Type} {enc : TypeId × Value → H} {w : World} {base fuel : Nat} {spare : Nat → Bool} {held : Bool} {cs : List Value} {x : DataW H × List MemPlace}
    (h : DataW.trod enc Tryz.prog w base spare held fuel 23 cs = some x) (hw : ∀ n ∈ x.1.weights Tryz.prog 23, n ≤ reachBytes) :
    ∃ a len cap, cs = [.slice a len cap] ∧ IsRs w a len cap ∧ len ≤ 140737488351232 := by
  rcases Deep.open_slice Tryz.underlying23 h with ⟨h1, _⟩ | ⟨b, l, c, m, n, D, Pl, h1, _, h2, _, h3, h5, h4⟩
  · exact ⟨none, 0, 0, h1, .inl ⟨rfl, rfl, rfl⟩, by omega⟩
  · have hm : l ≤ m := by rw [h3]; split <;> omega
    refine ⟨some b, l, c, h1, .inr ⟨b, rfl, fun i hi => ?_⟩, ?_⟩
    · obtain ⟨cs', h6, h7⟩ := h4 i (by omega)
      rw [cells_rec] at h6
      obtain ⟨_, h8, h9⟩ := World.cells?_some h6
      obtain ⟨s, t, c, tl, d, rfl⟩ := open_rec h7 h8
      have c0 := h9 0 (by omega)
      have c1 := h9 1 (by omega)
      have c2 := h9 2 (by omega)
      have c3 := h9 3 (by omega)
      have c4 := h9 4 (by omega)
      rw [Deep.add_add] at c0 c1 c2 c3 c4
      exact ⟨s, t, c, tl, d, by simpa using c0, by simpa using c1, by simpa using c2, by simpa using c3, by simpa using c4⟩
    · have := hw ((l + (m - l)) * 56) (by rw [h5]; simp [DataW.weights, Tryz.underlying23, bytes_rc])
      unfold reachBytes at this
      omega

theorem qs_of {w : World} {a : Option Addr} {len cap : Nat} (h : IsQs w a len cap) (hl : len ≤ 140737488351232) : ∃ l : List Qn, SQ w w.heap.size (.slice a len cap) l := by
  rcases h with ⟨rfl, rfl, rfl⟩ | ⟨x, rfl, hx⟩
  · exact ⟨[], Lst.nil _ _⟩
  · have hch : ∀ n, n ≤ len → ∃ l : List Qn, l.length = n ∧ ∀ i (h : i < l.length), w.cell? (x.add (i * 3)) = some (.string (bs l[i].n)) ∧ w.cell? (x.add (i * 3 + 1)) = some (.int .i64 l[i].t) ∧ w.cell? (x.add (i * 3 + 2)) = some (.int .i64 l[i].c) := by
      intro n
      induction n with
      | zero => intro _; exact ⟨[], rfl, fun i h => by simp at h⟩
      | succ n ih =>
        intro hn
        obtain ⟨l, h1, h2⟩ := ih (by omega)
        obtain ⟨s, t, c, c0, c1, c2⟩ := hx n (by omega)
        refine ⟨l ++ [⟨s.data.toList, t, c⟩], by simp [h1], fun i hi => ?_⟩
        rw [List.length_append, List.length_singleton] at hi
        by_cases e : i < l.length
        · rw [List.getElem_append_left e]; exact h2 i e
        · have : i = l.length := by omega
          subst this
          rw [List.getElem_append_right (Nat.le_refl _)]
          simp only [Nat.sub_self, List.getElem_cons_zero]
          rw [h1, ← bs_eta]
          exact ⟨c0, c1, c2⟩
    obtain ⟨l, h1, h2⟩ := hch len (Nat.le_refl _)
    refine ⟨l, some x, cap, by rw [h1], by omega, fun h => by simp at h, fun h0 => ?_⟩
    obtain ⟨b, off, spot⟩ := x
    have c0 := (h2 0 h0).1
    have hspot : spot = none := by simpa [Addr.add] using World.cell?_spot c0
    subst hspot
    have hlt : b < w.heap.size := by
      rw [WideShapes.add_plain] at c0
      exact World.block_lt_of_cell? w _ c0
    refine ⟨b, off, rfl, hlt, fun i u hu => ?_⟩
    obtain ⟨j, r, hj, rfl, hr⟩ := flat_of (f := cq) (k := 3) (fun _ => rfl) l i u hu
    obtain ⟨c0, c1, c2⟩ := h2 j hj
    rw [WideShapes.add_plain] at c0 c1 c2
    match r, hr with
    | 0, hr => simp [cq] at hr; subst hr; exact c0
    | 1, hr => simp [cq] at hr; subst hr; exact c1
    | 2, hr => simp [cq] at hr; subst hr; exact c2
    | r + 3, hr => simp [cq] at hr
theorem rs_of {w : World} {a : Option Addr} {len cap : Nat} (h : IsRs w a len cap) (hl : len ≤ 140737488351232) : ∃ l : List Rc, SR w w.heap.size (.slice a len cap) l := by
  rcases h with ⟨rfl, rfl, rfl⟩ | ⟨x, rfl, hx⟩
  · exact ⟨[], Lst.nil _ _⟩
  · have hch : ∀ n, n ≤ len → ∃ l : List Rc, l.length = n ∧ ∀ i (h : i < l.length), w.cell? (x.add (i * 5)) = some (.string (bs l[i].n)) ∧ w.cell? (x.add (i * 5 + 1)) = some (.int .i64 l[i].t) ∧ w.cell? (x.add (i * 5 + 2)) = some (.int .i64 l[i].c) ∧ w.cell? (x.add (i * 5 + 3)) = some (.int .i64 l[i].l) ∧ w.cell? (x.add (i * 5 + 4)) = some (.string (bs l[i].d)) := by
      intro n
      induction n with
      | zero => intro _; exact ⟨[], rfl, fun i h => by simp at h⟩
      | succ n ih =>
        intro hn
        obtain ⟨l, h1, h2⟩ := ih (by omega)
        obtain ⟨s, t, c, tl, d, c0, c1, c2, c3, c4⟩ := hx n (by omega)
        refine ⟨l ++ [⟨s.data.toList, t, c, tl, d.data.toList⟩], by simp [h1], fun i hi => ?_⟩
        rw [List.length_append, List.length_singleton] at hi
        by_cases e : i < l.length
        · rw [List.getElem_append_left e]; exact h2 i e
        · have : i = l.length := by omega
          subst this
          rw [List.getElem_append_right (Nat.le_refl _)]
          simp only [Nat.sub_self, List.getElem_cons_zero]
          rw [h1, ← bs_eta, ← bs_eta]
          exact ⟨c0, c1, c2, c3, c4⟩
    obtain ⟨l, h1, h2⟩ := hch len (Nat.le_refl _)
    refine ⟨l, some x, cap, by rw [h1], by omega, fun h => by simp at h, fun h0 => ?_⟩
    obtain ⟨b, off, spot⟩ := x
    have c0 := (h2 0 h0).1
    have hspot : spot = none := by simpa [Addr.add] using World.cell?_spot c0
    subst hspot
    have hlt : b < w.heap.size := by
      rw [WideShapes.add_plain] at c0
      exact World.block_lt_of_cell? w _ c0
    refine ⟨b, off, rfl, hlt, fun i u hu => ?_⟩
    obtain ⟨j, r, hj, rfl, hr⟩ := flat_of (f := cr) (k := 5) (fun _ => rfl) l i u hu
    obtain ⟨c0, c1, c2, c3, c4⟩ := h2 j hj
    rw [WideShapes.add_plain] at c0 c1 c2 c3 c4
    match r, hr with
    | 0, hr => simp [cr] at hr; subst hr; exact c0
    | 1, hr => simp [cr] at hr; subst hr; exact c1
    | 2, hr => simp [cr] at hr; subst hr; exact c2
    | 3, hr => simp [cr] at hr; subst hr; exact c3
    | 4, hr => simp [cr] at hr; subst hr; exact c4
    | r + 5, hr => simp [cr] at hr

theorem open_msg {H : Type} {enc : TypeId × Value → H} {w : World} {base fuel : Nat} {spare : Nat → Bool} {held : Bool} {cs : Array Value} {x : DataW H × List MemPlace}
    (h : DataW.trod enc Tryz.prog w base spare held fuel 25 cs.toList = some x) (hl : cs.size = 6) (hw : ∀ n ∈ x.1.weights Tryz.prog 25, n ≤ reachBytes) : ∃ m : Ms, Mg w w.heap.size (.agg cs) m := by
  obtain ⟨cs⟩ := cs
  simp only [List.size_toArray] at hl
  cases fuel with
  | zero => simp [DataW.trod] at h
  | succ fuel =>
    obtain ⟨xs, k, _, h8, _, h9, h10⟩ := DataW.trod_struct Tryz.underlying25 h
    match cs, hl with
    | [v0, v1, v2, v3, v4, v5], _ =>
      have g0 := h10 0 _ rfl
      have g1 := h10 1 _ rfl
      have g2 := h10 2 _ rfl
      have g3 := h10 3 _ rfl
      have g4 := h10 4 _ rfl
      have g5 := h10 5 _ rfl
      match xs, h9 with
      | [y0, y1, y2, y3, y4, y5], _ =>
        simp [cellsC_int, cells_sqn, cells_src] at g0 g1 g2 g3 g4 g5
        have hw2 : ∀ n, (n ∈ y2.1.weights Tryz.prog 22 ∨ n ∈ y3.1.weights Tryz.prog 23 ∨ n ∈ y4.1.weights Tryz.prog 23 ∨ n ∈ y5.1.weights Tryz.prog 23) → n ≤ reachBytes := fun n hn => hw n (by
          rw [h8]
          simp only [List.map_cons, List.map_nil, DataW.weights, Tryz.underlying25, List.toList_toArray, DataW.weightsEach, List.mem_append, List.not_mem_nil, or_false]
          rcases hn with h | h | h | h <;> simp [h])
        obtain ⟨i, k0, _, _⟩ := DataW.trod_int Tryz.underlying3 g0
        obtain ⟨f, k1, _, _⟩ := DataW.trod_int Tryz.underlying3 g1
        obtain ⟨qa, ql, qc, k2, q1, q2⟩ := open_qs g2 (fun n hn => hw2 n (.inl hn))
        obtain ⟨aa, al, ac, k3, a1, a2⟩ := open_rs g3 (fun n hn => hw2 n (.inr (.inl hn)))
        obtain ⟨na, nl, nc, k4, n1, n2⟩ := open_rs g4 (fun n hn => hw2 n (.inr (.inr (.inl hn))))
        obtain ⟨ra, rl, rc, k5, r1, r2⟩ := open_rs g5 (fun n hn => hw2 n (.inr (.inr (.inr hn))))
        injection k0 with k0 _
        injection k1 with k1 _
        injection k2 with k2 _
        injection k3 with k3 _
        injection k4 with k4 _
        injection k5 with k5 _
        subst k0; subst k1; subst k2; subst k3; subst k4; subst k5
        obtain ⟨lq, h1⟩ := qs_of q1 q2
        obtain ⟨la, h2⟩ := rs_of a1 a2
        obtain ⟨ln, h3⟩ := rs_of n1 n2
        obtain ⟨lr, h4⟩ := rs_of r1 r2
        exact ⟨⟨i, f, lq, la, ln, lr⟩, _, _, _, _, rfl, h1, h2, h3, h4⟩
end Go.Proofs.YteegekpanadmkaaGreat

/-
  Whether records are the first ones of others; a message that came in, and the room of its lists.
-/
namespace Go.Proofs.YteegekpanadmkaaGreat
open Go.RowKit Go.Shelf
set_option linter.unusedVariables false
set_option linter.unusedSimpArgs false
set_option maxRecDepth 100000

def CapM (v : Value) : Prop := ∃ i f qa qn qc aa an ac na nn nc ra rn rc, v = .agg #[i, f, .slice qa qn qc, .slice aa an ac, .slice na nn nc, .slice ra rn rc] ∧ qn ≤ qc ∧ an ≤ ac ∧ nn ≤ nc ∧ rn ≤ rc
theorem open_msgk {H : Type} {enc : TypeId × Value → H} {w : World} {base fuel : Nat} {spare : Nat → Bool} {held : Bool} {cs : Array Value} {x : DataW H × List MemPlace}
    (h : DataW.trod enc Tryz.prog w base spare held fuel 25 cs.toList = some x) (hl : cs.size = 6) (hw : ∀ n ∈ x.1.weights Tryz.prog 25, n ≤ reachBytes) : ∃ m : Ms, Mg w w.heap.size (.agg cs) m ∧ CapM (.agg cs) := by
  obtain ⟨m, hm⟩ := open_msg h hl hw
  refine ⟨m, hm, ?_⟩
  obtain ⟨cs⟩ := cs
  simp only [List.size_toArray] at hl
  cases fuel with
  | zero => simp [DataW.trod] at h
  | succ fuel =>
    obtain ⟨xs, k, _, h8, _, h9, h10⟩ := DataW.trod_struct Tryz.underlying25 h
    match cs, hl with
    | [v0, v1, v2, v3, v4, v5], _ =>
      have g2 := h10 2 _ rfl
      have g3 := h10 3 _ rfl
      have g4 := h10 4 _ rfl
      have g5 := h10 5 _ rfl
      match xs, h9 with
      | [y0, y1, y2, y3, y4, y5], _ =>
        simp [cells_src] at g2 g3 g4 g5
        have room : ∀ {u : Value} {e : Nat} {sp : Nat → Bool} {hd : Bool} {fl : Nat} {y : DataW H × List MemPlace}, (DataW.trod enc Tryz.prog w base sp hd fl 23 [u] = some y) → ∃ a n c, u = .slice a n c ∧ n ≤ c := fun g => by
          rcases Deep.open_slice Tryz.underlying23 g with ⟨h1, _⟩ | ⟨b, l, c, m, n, D, Pl, h1, _, h2, _⟩
          · injection h1 with h1 _
            exact ⟨none, 0, 0, h1, Nat.le_refl _⟩
          · injection h1 with h1 _
            exact ⟨some b, l, c, h1, h2⟩
        have roomq : ∀ {u : Value} {e : Nat} {sp : Nat → Bool} {hd : Bool} {fl : Nat} {y : DataW H × List MemPlace}, (DataW.trod enc Tryz.prog w base sp hd fl 22 [u] = some y) → ∃ a n c, u = .slice a n c ∧ n ≤ c := fun g => by
          rcases Deep.open_slice Tryz.underlying22 g with ⟨h1, _⟩ | ⟨b, l, c, m, n, D, Pl, h1, _, h2, _⟩
          · injection h1 with h1 _
            exact ⟨none, 0, 0, h1, Nat.le_refl _⟩
          · injection h1 with h1 _
            exact ⟨some b, l, c, h1, h2⟩
        obtain ⟨qa, qn, qc, rfl, hq⟩ := roomq (e := 0) g2
        obtain ⟨aa, an, ac, rfl, ha⟩ := room (e := 0) g3
        obtain ⟨na, nn, nc, rfl, hn⟩ := room (e := 0) g4
        obtain ⟨ra, rn, rc, rfl, hr⟩ := room (e := 0) g5
        exact ⟨_, _, _, _, _, _, _, _, _, _, _, _, _, _, rfl, hq, ha, hn, hr⟩
end Go.Proofs.YteegekpanadmkaaGreat
