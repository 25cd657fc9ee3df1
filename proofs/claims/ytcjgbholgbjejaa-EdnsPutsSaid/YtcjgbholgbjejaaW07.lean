/-
  The document's own Put.
-/
import Derived.Test.YtcjgbholgbjejaaW06
import Derived.Test.YtcjgbholgbjejaaW05
import Derived.Test.YtcjgbholgbjejaaW02
import Derived.BigQuiet
import Derived.Test.YtcjgbholgbjejaaW03
namespace Go.Proofs.Ytcjgbholgbjejaa
open Go.RowKit Go.Shelf
set_option linter.unusedVariables false
set_option linter.unusedSimpArgs false
set_option maxRecDepth 100000

theorem noL_all {l : List Rc} (h : opL l = []) : noL l = l := by
  unfold noL
  rw [List.filter_eq_self]
  intro x hx
  have h2 := List.filter_eq_nil_iff.mp h x hx
  simpa using h2
theorem Pb.put6 {w wr : World} {N : Nat} {i f : Int} {q a n r : Value} {es ex ev : Int} {eb : Bool} {o : Value} (h : Pb w wr N i f q a n r es ex ev eb o) (q' a' n' r' : Value) :
    Pb w (put6 wr N (.int .i64 i) (.int .i64 f) q' a' n' r') N i f q' a' n' r' es ex ev eb o ∧ Aside (fun k => k = N) wr (put6 wr N (.int .i64 i) (.int .i64 f) q' a' n' r') := by
  have ha := aside_put6 wr N (.int .i64 i) (.int .i64 f) q' a' n' r'
  exact ⟨⟨below_aside h.bel ha (fun k hk => ⟨by have := h.size; omega, by omega⟩), cel_put6 h.x _ _ _ _ _ _, h.e.aside (by simp) ha (by omega), h.z.aside (by simp) ha (by omega), Nat.le_trans h.size ha.size⟩, ha⟩
theorem Pb.aside {G : Nat → Prop} {w wr w' : World} {N : Nat} {i f : Int} {q a n r : Value} {es ex ev : Int} {eb : Bool} {o : Value} (h : Pb w wr N i f q a n r es ex ev eb o) (ha : Aside G wr w') (hG : ∀ k, G k → N + 3 ≤ k) : Pb w w' N i f q a n r es ex ev eb o :=
  ⟨below_aside h.bel ha (fun k hk => ⟨by have := h.size; omega, fun hg => by have := hG k hg; omega⟩), h.x.aside (by simp) ha (fun hg => by have := hG _ hg; omega), h.e.aside (by simp) ha (fun hg => by have := hG _ hg; omega), h.z.aside (by simp) ha (fun hg => by have := hG _ hg; omega), Nat.le_trans h.size ha.size⟩

set_option maxHeartbeats 8000000 in
theorem rput9_any {w : World} {hi hi' : Nat} {u v : Value} {m : Ms} {e : Ed} (h : Mg w hi u m) (h1 : hi ≤ w.heap.size) (hm : Mild m)
    (he : Eg w hi' v e) (h1' : hi' ≤ w.heap.size) (hel : e.o.length ≤ 900000) (hed : ∀ x ∈ e.o, x.d.length ≤ 1000000) (hm2 : m.q.length + m.an.length + m.ns.length + m.ar.length ≤ 800000) :
    Calls Try.prog 25 #[u, v] w (PuPost w m e) := by
  obtain ⟨i0, f0, l, lan, lns, lar⟩ := m
  obtain ⟨es, ex, ev, eb, lo⟩ := e
  have HE0 := Lib.hid he
  have HMI := Lib.hid hm
  obtain ⟨q, a, n, r, rfl, hq, h2, h3, h4⟩ := h
  obtain ⟨o, rfl, hso⟩ := he
  have hl := hm.1
  simp only at hl hm2 hq h2 h3 h4 hso hel hed ⊢
  obtain ⟨oa, oc, rfl⟩ := Lst.shape hso
  obtain ⟨N, hN⟩ : ∃ g, w.heap.size = g := ⟨_, rfl⟩
  obtain ⟨EC, hEC⟩ : ∃ x, chkE ⟨es, ex, ev, eb, lo⟩ = x := ⟨_, rfl⟩
  have HE := Lib.hid (fun wx (hb : Below N w wx) => (HE0.out.below hb (by omega) : Eg wx hi' _ ⟨es, ex, ev, eb, lo⟩))
  have HCK := Lib.hid (fun wx (hb : Below N w wx) => rcheckE9_any (HE.out wx hb) (Nat.le_trans (by omega : hi' ≤ N) (by have := hb.size; omega)) hel hed)
  rw [hEC] at HCK
  have HSO := Lib.hid (show ∀ wx, Below N w wx → SO wx hi' (.slice oa lo.length oc) lo from fun wx hb => Lst.below hso hb (by omega))
  have HCA := Lib.hid (fun wx (hb : Below N w wx) => rmany_any (Lst.below h2 hb (by omega)) (Nat.le_trans (by omega : hi ≤ N) (by have := hb.size; omega)) (by omega))
  have HCN := Lib.hid (fun wx (hb : Below N w wx) => rmany_any (Lst.below h3 hb (by omega)) (Nat.le_trans (by omega : hi ≤ N) (by have := hb.size; omega)) (by omega))
  have HCR := Lib.hid (fun wx (hb : Below N w wx) => rmany_any (Lst.below h4 hb (by omega)) (Nat.le_trans (by omega : hi ≤ N) (by have := hb.size; omega)) (by omega))
  have HMG := Lib.hid (show ∀ wx, Below N w wx → Mg wx hi (.agg #[.int .i64 i0, .int .i64 f0, q, a, n, r]) ⟨i0, f0, l, lan, lns, lar⟩ from fun wx hb => ⟨_, _, _, _, rfl, Lst.below hq hb (by omega), Lst.below h2 hb (by omega), Lst.below h3 hb (by omega), Lst.below h4 hb (by omega)⟩)
  have HHI := Lib.hid (show hi ≤ N ∧ hi' ≤ N by omega)
  have HL := Lib.hid hm2
  have hoa := opL_len lan
  have hon := opL_len lns
  have hor := opL_len lar
  obtain ⟨xa, xc, rfl⟩ := Lst.shape hq
  obtain ⟨aa, ac, rfl⟩ := Lst.shape h2
  obtain ⟨na, nc, rfl⟩ := Lst.shape h3
  obtain ⟨ra, rc, rfl⟩ := Lst.shape h4
  obtain ⟨la, hla⟩ : ∃ i, lan.length = i := ⟨_, rfl⟩
  obtain ⟨ln, hln⟩ : ∃ i, lns.length = i := ⟨_, rfl⟩
  obtain ⟨lr, hlr⟩ : ∃ i, lar.length = i := ⟨_, rfl⟩
  obtain ⟨lq, hlq⟩ : ∃ i, l.length = i := ⟨_, rfl⟩
  obtain ⟨lx, hlx⟩ : ∃ i, lo.length = i := ⟨_, rfl⟩
  obtain ⟨kA, hkA⟩ : ∃ i, (opL lan).length = i := ⟨_, rfl⟩
  obtain ⟨kN, hkN⟩ : ∃ i, (opL lns).length = i := ⟨_, rfl⟩
  obtain ⟨kR, hkR⟩ : ∃ i, (opL lar).length = i := ⟨_, rfl⟩
  obtain ⟨PU, hPU⟩ : ∃ x, puM ⟨i0, f0, l, lan, lns, lar⟩ ⟨es, ex, ev, eb, lo⟩ = x := ⟨_, rfl⟩
  unfold PuPost
  rw [hPU]
  unfold puM at hPU
  simp only [hEC, hkA, hkN, hkR] at hPU
  rw [hla, hkA] at HCA
  rw [hln, hkN] at HCN
  rw [hlr, hkR] at HCR
  rw [hla, hln, hlr, hlq] at HMG ⊢
  rw [hlx] at HE HCK HSO
  rw [hlx]
  rw [hla, hkA] at hoa
  rw [hln, hkN] at hon
  rw [hlr, hkR] at hor
  rw [hla, hln, hlr, hlq] at hl HL
  have HKA := Lib.hid hkA
  have HKN := Lib.hid hkN
  have HKR := Lib.hid hkR
  have HLR := Lib.hid hlr
  have HLA := Lib.hid hla
  have HLN := Lib.hid hln
  have HLQ := Lib.hid hlq
  have hw1 : IntKind.i64.wrap ((kA : Int) + kN) = (kA : Int) + kN := wr64 _ (by omega) (by omega)
  have hw2 : IntKind.i64.wrap ((kA : Int) + kN + kR) = (kA : Int) + kN + kR := wr64 _ (by omega) (by omega)
  have hw3 : IntKind.i64.wrap ((kA : Int) + kN + kR) = (kA : Int) + kN + kR := wr64 _ (by omega) (by omega)
  obtain ⟨kk, hkk⟩ : ∃ k, kA + kN + kR = k := ⟨_, rfl⟩
  have HPU := Lib.hid hPU
  have HEC := Lib.hid hEC
  have HP := Lib.hid (pb_start w i0 f0 (.slice xa lq xc) (.slice aa la ac) (.slice na ln nc) (.slice ra lr rc) es ex ev eb (.slice oa lx oc) hN)
  have HB0 := Lib.hid (HP.out.bel)
  clear hq h2 h3 h4 h1 h1' hm hm2 hl hla hln hlr hlq hlx hoa hon hor hkA hkN hkR hso hel hed hPU hEC
  go_enter Try.func25, Try.ntmps25
  go_wp2_with fail
  refine (HCK.out _ HB0.out).mono ?_; rintro e w1 ⟨rfl, hb⟩
  replace HP := Lib.hid (HP.out.later (by simpa using hb))
  clear hb HB0
  obtain ⟨z0, z1, z2, z3, z4, z5⟩ := HP.out.z.six
  have fz := HP.out.z.fz
  by_cases hE0 : EC = 0
  · subst hE0
    go_wp2_with fail
    clear z0 z1 z2 z3 z4 z5 fz
    replace HP := Lib.hid (HP.out.later (Below.refl _ _).drew)
    refine wp_region_held_drew (S := (fun wx => wx.cell? ⟨N, 3, none⟩ = some (.slice aa la ac) ∧ wx.cell? ⟨N, 4, none⟩ = some (.slice na ln nc) ∧ wx.cell? ⟨N, 5, none⟩ = some (.slice ra lr rc))) (by kernel_rfl) ⟨HP.out.x.c 3 (by simp), HP.out.x.c 4 (by simp), HP.out.x.c 5 (by simp)⟩ (fun hHeld => ?_)
    refine wpAnyH_take (i := 0) (oi := { dst := some 14, op := Op.fieldAddr 25 (Operand.tmp 2) 3, type := 0, pos := "ref.go:121", after := #[], guard := none }) (v := ?_) rfl (by kernel_rfl) (by kernel_rfl) (by kernel_rfl) (fun _ _ _ h => h) (Or.inl ⟨by rfl, ?_⟩) (by assumption) ?_
    rotate_left 1
    · intro w hSw; (try dsimp only at hSw); go_simp; try (with_reducible rfl)
    try simp only [Act.put, List.setIfInBounds_toArray, List.set_cons_zero, List.set_cons_succ]
    refine wpAnyH_take (i := 1) (oi := { dst := some 15, op := Op.load 23 (Operand.tmp 14), type := 23, pos := "ref.go:121", after := #[{ on := 0, ground := Ground.data }], guard := none }) (v := ?_) rfl (by kernel_rfl) (by kernel_rfl) (by kernel_rfl) (fun _ _ _ h => h) (Or.inl ⟨by rfl, ?_⟩) (by assumption) ?_
    rotate_left 1
    · intro w hSw; (try dsimp only at hSw); go_simp; try (with_reducible rfl)
    try simp only [Act.put, List.setIfInBounds_toArray, List.set_cons_zero, List.set_cons_succ]
    refine wpAnyH_take (i := 3) (oi := { dst := some 17, op := Op.fieldAddr 25 (Operand.tmp 2) 4, type := 0, pos := "ref.go:121", after := #[], guard := none }) (v := ?_) rfl (by kernel_rfl) (by kernel_rfl) (by kernel_rfl) (fun _ _ _ h => h) (Or.inl ⟨by rfl, ?_⟩) (by assumption) ?_
    rotate_left 1
    · intro w hSw; (try dsimp only at hSw); go_simp; try (with_reducible rfl)
    try simp only [Act.put, List.setIfInBounds_toArray, List.set_cons_zero, List.set_cons_succ]
    refine wpAnyH_take (i := 4) (oi := { dst := some 18, op := Op.load 23 (Operand.tmp 17), type := 23, pos := "ref.go:121", after := #[{ on := 3, ground := Ground.data }], guard := none }) (v := ?_) rfl (by kernel_rfl) (by kernel_rfl) (by kernel_rfl) (fun _ _ _ h => h) (Or.inl ⟨by rfl, ?_⟩) (by assumption) ?_
    rotate_left 1
    · intro w hSw; (try dsimp only at hSw); go_simp; try (with_reducible rfl)
    try simp only [Act.put, List.setIfInBounds_toArray, List.set_cons_zero, List.set_cons_succ]
    refine wpAnyH_take (i := 7) (oi := { dst := some 21, op := Op.fieldAddr 25 (Operand.tmp 2) 5, type := 0, pos := "ref.go:121", after := #[], guard := none }) (v := ?_) rfl (by kernel_rfl) (by kernel_rfl) (by kernel_rfl) (fun _ _ _ h => h) (Or.inl ⟨by rfl, ?_⟩) (by assumption) ?_
    rotate_left 1
    · intro w hSw; (try dsimp only at hSw); go_simp; try (with_reducible rfl)
    try simp only [Act.put, List.setIfInBounds_toArray, List.set_cons_zero, List.set_cons_succ]
    refine wpAnyH_take (i := 8) (oi := { dst := some 22, op := Op.load 23 (Operand.tmp 21), type := 23, pos := "ref.go:121", after := #[{ on := 7, ground := Ground.data }], guard := none }) (v := ?_) rfl (by kernel_rfl) (by kernel_rfl) (by kernel_rfl) (fun _ _ _ h => h) (Or.inl ⟨by rfl, ?_⟩) (by assumption) ?_
    rotate_left 1
    · intro w hSw; (try dsimp only at hSw); go_simp; try (with_reducible rfl)
    try simp only [Act.put, List.setIfInBounds_toArray, List.set_cons_zero, List.set_cons_succ]
    refine wpAnyH_ready (rs := [2]) (by kernel_rfl) (by simp) ?_
    refine AllReadyH.cons (o := { dst := some 16, op := Op.call { callee := Callee.value (Operand.func 33), args := #[Operand.tmp 15], argTypes := #[23] }, type := 3, pos := "ref.go:121", after := #[{ on := 1, ground := Ground.data }], guard := none }) rfl (fun K hK => ?_) (AllReadyH.nil)
    go_simp
    refine (HCA.out _ HP.out.bel).mono ?_; rintro e w2 ⟨rfl, hb⟩
    replace HP := Lib.hid (HP.out.later hb)
    clear hb
    try go_wp2_with fail
    refine hK.out _ _ ⟨HP.out.x.c 3 (by simp), HP.out.x.c 4 (by simp), HP.out.x.c 5 (by simp)⟩ (fun hHeld => ?_)
    clear hK K
    try simp only [Act.put, List.setIfInBounds_toArray, List.set_cons_zero, List.set_cons_succ]
    refine wpAnyH_ready (rs := [5]) (by kernel_rfl) (by simp) ?_
    refine AllReadyH.cons (o := { dst := some 19, op := Op.call { callee := Callee.value (Operand.func 33), args := #[Operand.tmp 18], argTypes := #[23] }, type := 3, pos := "ref.go:121", after := #[{ on := 4, ground := Ground.data }, { on := 2, ground := Ground.chain }], guard := none }) rfl (fun K hK => ?_) (AllReadyH.nil)
    go_simp
    refine (HCN.out _ HP.out.bel).mono ?_; rintro e w3 ⟨rfl, hb⟩
    replace HP := Lib.hid (HP.out.later hb)
    clear hb
    try go_wp2_with fail
    refine hK.out _ _ ⟨HP.out.x.c 3 (by simp), HP.out.x.c 4 (by simp), HP.out.x.c 5 (by simp)⟩ (fun hHeld => ?_)
    clear hK K
    try simp only [Act.put, List.setIfInBounds_toArray, List.set_cons_zero, List.set_cons_succ]
    refine wpAnyH_take (i := 6) (oi := { dst := some 20, op := Op.binOp BinOp.add 3 (Operand.tmp 16) (Operand.tmp 19) 3, type := 3, pos := "ref.go:121", after := #[{ on := 2, ground := Ground.data }, { on := 5, ground := Ground.data }], guard := none }) (v := ?_) rfl (by kernel_rfl) (by kernel_rfl) (by kernel_rfl) (fun _ _ _ h => h) (Or.inl ⟨by rfl, ?_⟩) (by assumption) ?_
    rotate_left 1
    · intro w hSw; (try dsimp only at hSw); go_simp; try (with_reducible rfl)
    try simp only [Act.put, List.setIfInBounds_toArray, List.set_cons_zero, List.set_cons_succ]
    refine wpAnyH_ready (rs := [9]) (by kernel_rfl) (by simp) ?_
    refine AllReadyH.cons (o := { dst := some 23, op := Op.call { callee := Callee.value (Operand.func 33), args := #[Operand.tmp 22], argTypes := #[23] }, type := 3, pos := "ref.go:121", after := #[{ on := 8, ground := Ground.data }, { on := 5, ground := Ground.chain }], guard := none }) rfl (fun K hK => ?_) (AllReadyH.nil)
    go_simp
    refine (HCR.out _ HP.out.bel).mono ?_; rintro e w4 ⟨rfl, hb⟩
    replace HP := Lib.hid (HP.out.later hb)
    clear hb
    try go_wp2_with fail
    refine hK.out _ _ ⟨HP.out.x.c 3 (by simp), HP.out.x.c 4 (by simp), HP.out.x.c 5 (by simp)⟩ (fun hHeld => ?_)
    clear hK K
    try simp only [Act.put, List.setIfInBounds_toArray, List.set_cons_zero, List.set_cons_succ]
    refine wpAnyH_take (i := 10) (oi := { dst := some 24, op := Op.binOp BinOp.add 3 (Operand.tmp 20) (Operand.tmp 23) 3, type := 3, pos := "ref.go:121", after := #[{ on := 6, ground := Ground.data }, { on := 9, ground := Ground.data }], guard := none }) (v := ?_) rfl (by kernel_rfl) (by kernel_rfl) (by kernel_rfl) (fun _ _ _ h => h) (Or.inl ⟨by rfl, ?_⟩) (by assumption) ?_
    rotate_left 1
    · intro w hSw; (try dsimp only at hSw); go_simp; try (with_reducible rfl)
    try simp only [Act.put, List.setIfInBounds_toArray, List.set_cons_zero, List.set_cons_succ]
    refine wpAnyH_take (i := 11) (oi := { dst := some 25, op := Op.binOp BinOp.gtr 3 (Operand.tmp 24) (Operand.const (Value.int IntKind.i64 0)) 3, type := 4, pos := "ref.go:121", after := #[{ on := 10, ground := Ground.data }], guard := none }) (v := ?_) rfl (by kernel_rfl) (by kernel_rfl) (by kernel_rfl) (fun _ _ _ h => h) (Or.inl ⟨by rfl, ?_⟩) (by assumption) ?_
    rotate_left 1
    · intro w hSw; (try dsimp only at hSw); go_simp; try (with_reducible rfl)
    try simp only [Act.put, List.setIfInBounds_toArray, List.set_cons_zero, List.set_cons_succ]
    refine wpAnyH_done (by kernel_rfl) ?_ _
    clear hHeld
    obtain ⟨WR, hWR⟩ : ∃ X, w4 = X := ⟨_, rfl⟩
    rw [hWR] at HP ⊢
    clear hWR
    obtain ⟨z0, z1, z2, z3, z4, z5⟩ := HP.out.z.six
    have fz := HP.out.z.fz
    by_cases hk0 : 0 < kk
    · have t1 : decide ((0 : Int) < (kA : Int) + kN + kR) = true := by simp; omega
      have e7 : PU = (ms00, 7) := by rw [← HPU.out, if_neg (by simp), if_pos (by omega)]; rfl
      subst e7
      go_wp2_with fail
      clear z0 z1 z2 z3 z4 z5 fz
      have hk := HP.out.fin (.int .i64 0) (.int .i64 0) (.slice none 0 0) (.slice none 0 0) (.slice none 0 0) (.slice none 0 0)
      obtain ⟨m0, m1, m2, m3, m4, m5⟩ := hk.2.1.six
      have hbF := hk.1
      unfold put6 at m0 m1 m2 m3 m4 m5 hbF
      refine bodyPost_ret (v := .tuple #[.agg #[.int .i64 0, .int .i64 0, .slice none 0 0, .slice none 0 0, .slice none 0 0, .slice none 0 0], .int .i64 7]) (by simp [results, Try.results25, go_sem, m0, m1, m2, m3, m4, m5]) rfl ⟨_, rfl, ownM_zero _ _, by first | exact hbF | (rw [hN]; exact hbF)⟩
    · have t1 : decide ((0 : Int) < (kA : Int) + kN + kR) = false := by simp; omega
      have hst : stM ⟨i0, f0, l, lan, lns, lar⟩ = ⟨i0, f0, l, lan, lns, lar⟩ := by
        unfold stM
        rw [noL_all (List.length_eq_zero_iff.mp (by rw [HKA.out]; omega)), noL_all (List.length_eq_zero_iff.mp (by rw [HKN.out]; omega)), noL_all (List.length_eq_zero_iff.mp (by rw [HKR.out]; omega))]
      have HSTM := Lib.hid hst
      obtain ⟨hin0, hin1, hin2, hin3, hsz⟩ := chkE_in HEC.out
      simp only at hin0 hin1 hin2 hin3 hsz
      obtain ⟨DD, hDD⟩ : ∃ d, otsB lo = d := ⟨_, rfl⟩
      have HDT := Lib.hid (fun wx (hb : Below N w wx) => rdata9_any (HSO.out wx hb) (Nat.le_trans HHI.out.2 (by have := hb.size; omega)) hin3 hsz)
      rw [hDD] at HDT
      obtain ⟨TT, hTT⟩ : ∃ T, ex * 16777216 + ev * 65536 + (if eb = true then 32768 else 0) = T := ⟨_, rfl⟩
      have hXR : edR ⟨es, ex, ev, eb, lo⟩ = ⟨[0], 41, es, TT, DD⟩ := by unfold edR; simp only; rw [hDD, hTT]
      obtain ⟨LX, hLX⟩ : ∃ L, lar ++ [(⟨[0], 41, es, TT, DD⟩ : Rc)] = L := ⟨_, rfl⟩
      have HLX := Lib.hid hLX
      have hAM : adM ⟨i0, f0, l, lan, lns, lar⟩ ⟨es, ex, ev, eb, lo⟩ = ⟨i0, f0, l, lan, lns, LX⟩ := by rw [← hLX]; unfold adM; rw [hXR]
      have e7 : PU = (⟨i0, f0, l, lan, lns, LX⟩, 0) := by rw [← HPU.out, if_neg (by simp), if_neg (by omega), hAM]
      have hwa : IntKind.i64.wrap (ex * 16777216) = ex * 16777216 := wr64 _ (by omega) (by omega)
      have hwb : IntKind.i64.wrap (ev * 65536) = ev * 65536 := wr64 _ (by omega) (by omega)
      obtain ⟨A, hA⟩ : ∃ A, ex * 16777216 = A := ⟨_, rfl⟩
      obtain ⟨Bv, hBv⟩ : ∃ A, ev * 65536 = A := ⟨_, rfl⟩
      obtain ⟨T, hT⟩ : ∃ A', A + Bv = A' := ⟨_, rfl⟩
      have hwc : IntKind.i64.wrap (A + Bv) = T := by rw [hT]; exact wr64 _ (by omega) (by omega)
      have hwd : IntKind.i64.wrap (T + 32768) = TT ∨ eb = false := by
        cases eb with
        | false => exact .inr rfl
        | true => refine .inl ?_; rw [wr64 _ (by omega) (by omega), ← hTT, ← hT, ← hA, ← hBv]; rfl
      have HWD := Lib.hid hwd
      have HTF := Lib.hid (show eb = false → T = TT from fun h => by subst h; rw [← hTT, ← hT, ← hA, ← hBv]; simp)
      rw [hA] at hwa
      rw [hBv] at hwb
      subst e7
      clear hLX hAM hXR hTT hDD hst hin0 hin1 hin2 hin3 hsz hwd hT
      go_wp2_with fail
      clear z0 z1 z2 z3 z4 z5 fz
      obtain ⟨wc, hwc2⟩ : ∃ X, WR.drew = X := ⟨_, rfl⟩
      replace HP := Lib.hid (HP.out.later (Below.refl _ _).drew)
      rw [hwc2] at HP
      refine wp_region_held_drew (S := (fun wx => wx.cell? ⟨N + 1, 0, none⟩ = some (.int .i64 es) ∧ wx.cell? ⟨N + 1, 1, none⟩ = some (.int .i64 ex) ∧ wx.cell? ⟨N + 1, 2, none⟩ = some (.int .i64 ev) ∧ wx.cell? ⟨N + 1, 3, none⟩ = some (.bool eb) ∧ wx.cell? ⟨N + 1, 4, none⟩ = some (.slice oa lx oc))) (by kernel_rfl) (by rw [hwc2]; exact HP.out.e.five) (fun hHeld => ?_)
      refine wpAnyH_take (i := 0) (oi := { dst := some 27, op := Op.fieldAddr 30 (Operand.tmp 3) 0, type := 0, pos := "ref.go:124", after := #[], guard := none }) (v := ?_) rfl (by kernel_rfl) (by kernel_rfl) (by kernel_rfl) (fun _ _ _ h => h) (Or.inl ⟨by rfl, ?_⟩) (by assumption) ?_
      rotate_left 1
      · intro w hSw; (try dsimp only at hSw); go_simp; try (with_reducible rfl)
      try simp only [Act.put, List.setIfInBounds_toArray, List.set_cons_zero, List.set_cons_succ]
      refine wpAnyH_take (i := 1) (oi := { dst := some 28, op := Op.load 3 (Operand.tmp 27), type := 3, pos := "ref.go:124", after := #[{ on := 0, ground := Ground.data }], guard := none }) (v := ?_) rfl (by kernel_rfl) (by kernel_rfl) (by kernel_rfl) (fun _ _ _ h => h) (Or.inl ⟨by rfl, ?_⟩) (by assumption) ?_
      rotate_left 1
      · intro w hSw; (try dsimp only at hSw); go_simp; try (with_reducible rfl)
      try simp only [Act.put, List.setIfInBounds_toArray, List.set_cons_zero, List.set_cons_succ]
      refine wpAnyH_take (i := 2) (oi := { dst := some 29, op := Op.fieldAddr 30 (Operand.tmp 3) 1, type := 0, pos := "ref.go:124", after := #[], guard := none }) (v := ?_) rfl (by kernel_rfl) (by kernel_rfl) (by kernel_rfl) (fun _ _ _ h => h) (Or.inl ⟨by rfl, ?_⟩) (by assumption) ?_
      rotate_left 1
      · intro w hSw; (try dsimp only at hSw); go_simp; try (with_reducible rfl)
      try simp only [Act.put, List.setIfInBounds_toArray, List.set_cons_zero, List.set_cons_succ]
      refine wpAnyH_take (i := 3) (oi := { dst := some 30, op := Op.load 3 (Operand.tmp 29), type := 3, pos := "ref.go:124", after := #[{ on := 2, ground := Ground.data }], guard := none }) (v := ?_) rfl (by kernel_rfl) (by kernel_rfl) (by kernel_rfl) (fun _ _ _ h => h) (Or.inl ⟨by rfl, ?_⟩) (by assumption) ?_
      rotate_left 1
      · intro w hSw; (try dsimp only at hSw); go_simp; try (with_reducible rfl)
      try simp only [Act.put, List.setIfInBounds_toArray, List.set_cons_zero, List.set_cons_succ]
      refine wpAnyH_take (i := 4) (oi := { dst := some 31, op := Op.binOp BinOp.shl 3 (Operand.tmp 30) (Operand.const (Value.int IntKind.u64 24)) 59, type := 3, pos := "ref.go:124", after := #[{ on := 3, ground := Ground.data }], guard := none }) (v := ?_) rfl (by kernel_rfl) (by kernel_rfl) (by kernel_rfl) (fun _ _ _ h => h) (Or.inl ⟨by rfl, ?_⟩) (by assumption) ?_
      rotate_left 1
      · intro w hSw; (try dsimp only at hSw); go_simp; try (with_reducible rfl)
      try simp only [Act.put, List.setIfInBounds_toArray, List.set_cons_zero, List.set_cons_succ]
      refine wpAnyH_take (i := 5) (oi := { dst := some 32, op := Op.fieldAddr 30 (Operand.tmp 3) 2, type := 0, pos := "ref.go:124", after := #[], guard := none }) (v := ?_) rfl (by kernel_rfl) (by kernel_rfl) (by kernel_rfl) (fun _ _ _ h => h) (Or.inl ⟨by rfl, ?_⟩) (by assumption) ?_
      rotate_left 1
      · intro w hSw; (try dsimp only at hSw); go_simp; try (with_reducible rfl)
      try simp only [Act.put, List.setIfInBounds_toArray, List.set_cons_zero, List.set_cons_succ]
      refine wpAnyH_take (i := 6) (oi := { dst := some 33, op := Op.load 3 (Operand.tmp 32), type := 3, pos := "ref.go:124", after := #[{ on := 5, ground := Ground.data }], guard := none }) (v := ?_) rfl (by kernel_rfl) (by kernel_rfl) (by kernel_rfl) (fun _ _ _ h => h) (Or.inl ⟨by rfl, ?_⟩) (by assumption) ?_
      rotate_left 1
      · intro w hSw; (try dsimp only at hSw); go_simp; try (with_reducible rfl)
      try simp only [Act.put, List.setIfInBounds_toArray, List.set_cons_zero, List.set_cons_succ]
      refine wpAnyH_take (i := 7) (oi := { dst := some 34, op := Op.binOp BinOp.shl 3 (Operand.tmp 33) (Operand.const (Value.int IntKind.u64 16)) 59, type := 3, pos := "ref.go:124", after := #[{ on := 6, ground := Ground.data }], guard := none }) (v := ?_) rfl (by kernel_rfl) (by kernel_rfl) (by kernel_rfl) (fun _ _ _ h => h) (Or.inl ⟨by rfl, ?_⟩) (by assumption) ?_
      rotate_left 1
      · intro w hSw; (try dsimp only at hSw); go_simp; try (with_reducible rfl)
      try simp only [Act.put, List.setIfInBounds_toArray, List.set_cons_zero, List.set_cons_succ]
      refine wpAnyH_take (i := 8) (oi := { dst := some 35, op := Op.binOp BinOp.add 3 (Operand.tmp 31) (Operand.tmp 34) 3, type := 3, pos := "ref.go:124", after := #[{ on := 4, ground := Ground.data }, { on := 7, ground := Ground.data }], guard := none }) (v := ?_) rfl (by kernel_rfl) (by kernel_rfl) (by kernel_rfl) (fun _ _ _ h => h) (Or.inl ⟨by rfl, ?_⟩) (by assumption) ?_
      rotate_left 1
      · intro w hSw; (try dsimp only at hSw); go_simp; try (with_reducible rfl)
      try simp only [Act.put, List.setIfInBounds_toArray, List.set_cons_zero, List.set_cons_succ]
      refine wpAnyH_take (i := 9) (oi := { dst := some 36, op := Op.fieldAddr 30 (Operand.tmp 3) 4, type := 0, pos := "ref.go:124", after := #[], guard := none }) (v := ?_) rfl (by kernel_rfl) (by kernel_rfl) (by kernel_rfl) (fun _ _ _ h => h) (Or.inl ⟨by rfl, ?_⟩) (by assumption) ?_
      rotate_left 1
      · intro w hSw; (try dsimp only at hSw); go_simp; try (with_reducible rfl)
      try simp only [Act.put, List.setIfInBounds_toArray, List.set_cons_zero, List.set_cons_succ]
      refine wpAnyH_take (i := 10) (oi := { dst := some 37, op := Op.load 28 (Operand.tmp 36), type := 28, pos := "ref.go:124", after := #[{ on := 9, ground := Ground.data }], guard := none }) (v := ?_) rfl (by kernel_rfl) (by kernel_rfl) (by kernel_rfl) (fun _ _ _ h => h) (Or.inl ⟨by rfl, ?_⟩) (by assumption) ?_
      rotate_left 1
      · intro w hSw; (try dsimp only at hSw); go_simp; try (with_reducible rfl)
      try simp only [Act.put, List.setIfInBounds_toArray, List.set_cons_zero, List.set_cons_succ]
      refine wpAnyH_ready (rs := [11, 14]) (by kernel_rfl) (by simp) ?_
      refine AllReadyH.cons (o := { dst := some 38, op := Op.call { callee := Callee.value (Operand.func 44), args := #[Operand.tmp 37], argTypes := #[28] }, type := 67, pos := "ref.go:124", after := #[{ on := 10, ground := Ground.data }], guard := none }) rfl (fun K hK => ?_) (AllReadyH.cons (o := { dst := some 7, op := Op.alloc 48, type := 0, pos := "ref.go:124", after := #[], guard := none }) rfl (fun K hK => ?_) (AllReadyH.nil))
      go_simp
      refine (HDT.out _ HP.out.bel).mono ?_; rintro e wn ⟨vd, rfl, ho, hb⟩
      obtain ⟨ad, cd, rfl, _⟩ := ho.shape
      have HOD := Lib.hid (ho.mono HP.out.size)
      replace HP := Lib.hid (HP.out.later hb)
      clear ho hb
      obtain ⟨wc, hwc3⟩ : ∃ X, wn = X := ⟨_, rfl⟩
      rw [hwc3] at HP HOD ⊢
      clear hwc3
      focus (try go_wp2_with fail)
      refine hK.out _ _ HP.out.e.five (fun hHeld => ?_)
      clear hK K
      try simp only [Act.put, List.setIfInBounds_toArray, List.set_cons_zero, List.set_cons_succ]
      refine wpAnyH_ready (rs := [12, 14]) (by kernel_rfl) (by simp) ?_
      refine AllReadyH.cons (o := { dst := some 39, op := Op.convert 67 9 (Operand.tmp 38), type := 9, pos := "ref.go:124", after := #[{ on := 11, ground := Ground.data }], guard := none }) rfl (fun K hK => ?_) (AllReadyH.cons (o := { dst := some 7, op := Op.alloc 48, type := 0, pos := "ref.go:124", after := #[], guard := none }) rfl (fun K hK => ?_) (AllReadyH.nil))
      have hconv := back_U HOD.out
      go_simp
      clear hconv
      refine hK.out _ _ HP.out.e.five (fun hHeld => ?_)
      clear hK K
      try simp only [Act.put, List.setIfInBounds_toArray, List.set_cons_zero, List.set_cons_succ]
      refine wpAnyH_take (i := 13) (oi := { dst := some 40, op := Op.build 48 #[(0, Operand.const (Value.string { data := #[0] })), (1, Operand.const (Value.int IntKind.i64 41)), (2, Operand.tmp 28), (3, Operand.tmp 35), (4, Operand.tmp 39)], type := 48, pos := "ref.go:124", after := #[{ on := 1, ground := Ground.data }, { on := 8, ground := Ground.data }, { on := 12, ground := Ground.data }], guard := none }) (v := ?_) rfl (by kernel_rfl) (by kernel_rfl) (by kernel_rfl) (fun _ _ _ h => h) (Or.inl ⟨by rfl, ?_⟩) (by assumption) ?_
      rotate_left 1
      · intro w hSw; (try dsimp only at hSw); go_simp; try (with_reducible rfl)
      try simp only [Act.put, List.setIfInBounds_toArray, List.set_cons_zero, List.set_cons_succ]
      refine wpAnyH_ready (rs := [14]) (by kernel_rfl) (by simp) ?_
      refine AllReadyH.cons (o := { dst := some 7, op := Op.alloc 48, type := 0, pos := "ref.go:124", after := #[], guard := none }) rfl (fun K hK => ?_) (AllReadyH.nil)
      go_simp
      have hone := cel_new wc (.string ⟨#[]⟩) (.int .i64 0) (.int .i64 0) (.int .i64 0) (.string ⟨#[]⟩) 48
      have hb : Below wc.heap.size wc (wc.alloc (.cells #[.string ⟨#[]⟩, .int .i64 0, .int .i64 0, .int .i64 0, .string ⟨#[]⟩] 48)) := (Below.refl _ _).alloc (Nat.le_refl _) _
      obtain ⟨g7, hg7⟩ : ∃ g, wc.heap.size = g := ⟨_, rfl⟩
      have HG7 := Lib.hid (show N + 3 ≤ g7 by rw [← hg7]; exact HP.out.size)
      obtain ⟨wn, hwn⟩ : ∃ X, wc.alloc (.cells #[.string ⟨#[]⟩, .int .i64 0, .int .i64 0, .int .i64 0, .string ⟨#[]⟩] 48) = X := ⟨_, rfl⟩
      rw [hwn] at hb hone
      replace HP := Lib.hid (HP.out.later hb)
      rw [hg7] at hone
      have HZR := Lib.hid hone
      replace HOD := Lib.hid (HOD.out.below hb)
      rw [hwn, hg7]
      clear hwn hg7 hone hb
      obtain ⟨wc, hwc3⟩ : ∃ X, wn = X := ⟨_, rfl⟩
      rw [hwc3] at HP HZR HOD ⊢
      clear hwc3
      refine hK.out _ _ HP.out.e.five (fun hHeld => ?_)
      clear hK K
      try simp only [Act.put, List.setIfInBounds_toArray, List.set_cons_zero, List.set_cons_succ]
      rotate_left 1
      go_simp
      have hone := cel_new wc (.string ⟨#[]⟩) (.int .i64 0) (.int .i64 0) (.int .i64 0) (.string ⟨#[]⟩) 48
      have hb : Below wc.heap.size wc (wc.alloc (.cells #[.string ⟨#[]⟩, .int .i64 0, .int .i64 0, .int .i64 0, .string ⟨#[]⟩] 48)) := (Below.refl _ _).alloc (Nat.le_refl _) _
      obtain ⟨g7, hg7⟩ : ∃ g, wc.heap.size = g := ⟨_, rfl⟩
      have HG7 := Lib.hid (show N + 3 ≤ g7 by rw [← hg7]; exact HP.out.size)
      obtain ⟨wn, hwn⟩ : ∃ X, wc.alloc (.cells #[.string ⟨#[]⟩, .int .i64 0, .int .i64 0, .int .i64 0, .string ⟨#[]⟩] 48) = X := ⟨_, rfl⟩
      rw [hwn] at hb hone
      replace HP := Lib.hid (HP.out.later hb)
      rw [hg7] at hone
      have HZR := Lib.hid hone
      replace HOD := Lib.hid (HOD.out.below hb)
      rw [hwn, hg7]
      clear hwn hg7 hone hb
      obtain ⟨wc, hwc3⟩ : ∃ X, wn = X := ⟨_, rfl⟩
      rw [hwc3] at HP HZR HOD ⊢
      clear hwc3
      refine hK.out _ _ HP.out.e.five (fun hHeld => ?_)
      clear hK K
      try simp only [Act.put, List.setIfInBounds_toArray, List.set_cons_zero, List.set_cons_succ]
      refine wpAnyH_ready (rs := [12]) (by kernel_rfl) (by simp) ?_
      refine AllReadyH.cons (o := { dst := some 39, op := Op.convert 67 9 (Operand.tmp 38), type := 9, pos := "ref.go:124", after := #[{ on := 11, ground := Ground.data }], guard := none }) rfl (fun K hK => ?_) (AllReadyH.nil)
      have hconv := back_U HOD.out
      go_simp
      clear hconv
      refine hK.out _ _ HP.out.e.five (fun hHeld => ?_)
      clear hK K
      try simp only [Act.put, List.setIfInBounds_toArray, List.set_cons_zero, List.set_cons_succ]
      refine wpAnyH_take (i := 13) (oi := { dst := some 40, op := Op.build 48 #[(0, Operand.const (Value.string { data := #[0] })), (1, Operand.const (Value.int IntKind.i64 41)), (2, Operand.tmp 28), (3, Operand.tmp 35), (4, Operand.tmp 39)], type := 48, pos := "ref.go:124", after := #[{ on := 1, ground := Ground.data }, { on := 8, ground := Ground.data }, { on := 12, ground := Ground.data }], guard := none }) (v := ?_) rfl (by kernel_rfl) (by kernel_rfl) (by kernel_rfl) (fun _ _ _ h => h) (Or.inl ⟨by rfl, ?_⟩) (by assumption) ?_
      rotate_left 1
      · intro w hSw; (try dsimp only at hSw); go_simp; try (with_reducible rfl)
      try simp only [Act.put, List.setIfInBounds_toArray, List.set_cons_zero, List.set_cons_succ]
      rotate_left 1
      go_simp
      have hone := cel_new wc (.string ⟨#[]⟩) (.int .i64 0) (.int .i64 0) (.int .i64 0) (.string ⟨#[]⟩) 48
      have hb : Below wc.heap.size wc (wc.alloc (.cells #[.string ⟨#[]⟩, .int .i64 0, .int .i64 0, .int .i64 0, .string ⟨#[]⟩] 48)) := (Below.refl _ _).alloc (Nat.le_refl _) _
      obtain ⟨g7, hg7⟩ : ∃ g, wc.heap.size = g := ⟨_, rfl⟩
      have HG7 := Lib.hid (show N + 3 ≤ g7 by rw [← hg7]; exact HP.out.size)
      obtain ⟨wn, hwn⟩ : ∃ X, wc.alloc (.cells #[.string ⟨#[]⟩, .int .i64 0, .int .i64 0, .int .i64 0, .string ⟨#[]⟩] 48) = X := ⟨_, rfl⟩
      rw [hwn] at hb hone
      replace HP := Lib.hid (HP.out.later hb)
      rw [hg7] at hone
      have HZR := Lib.hid hone
      rw [hwn, hg7]
      clear hwn hg7 hone hb
      obtain ⟨wc, hwc3⟩ : ∃ X, wn = X := ⟨_, rfl⟩
      rw [hwc3] at HP HZR ⊢
      clear hwc3
      refine hK.out _ _ HP.out.e.five (fun hHeld => ?_)
      clear hK K
      try simp only [Act.put, List.setIfInBounds_toArray, List.set_cons_zero, List.set_cons_succ]
      refine wpAnyH_ready (rs := [11]) (by kernel_rfl) (by simp) ?_
      refine AllReadyH.cons (o := { dst := some 38, op := Op.call { callee := Callee.value (Operand.func 44), args := #[Operand.tmp 37], argTypes := #[28] }, type := 67, pos := "ref.go:124", after := #[{ on := 10, ground := Ground.data }], guard := none }) rfl (fun K hK => ?_) (AllReadyH.nil)
      go_simp
      refine (HDT.out _ HP.out.bel).mono ?_; rintro e wn ⟨vd, rfl, ho, hb⟩
      obtain ⟨ad, cd, rfl, _⟩ := ho.shape
      have HOD := Lib.hid (ho.mono HP.out.size)
      replace HP := Lib.hid (HP.out.later hb)
      replace HZR := Lib.hid (HZR.out.below (by simp) hb)
      clear ho hb
      obtain ⟨wc, hwc3⟩ : ∃ X, wn = X := ⟨_, rfl⟩
      rw [hwc3] at HP HOD HZR ⊢
      clear hwc3
      focus (try go_wp2_with fail)
      refine hK.out _ _ HP.out.e.five (fun hHeld => ?_)
      clear hK K
      try simp only [Act.put, List.setIfInBounds_toArray, List.set_cons_zero, List.set_cons_succ]
      refine wpAnyH_ready (rs := [12]) (by kernel_rfl) (by simp) ?_
      refine AllReadyH.cons (o := { dst := some 39, op := Op.convert 67 9 (Operand.tmp 38), type := 9, pos := "ref.go:124", after := #[{ on := 11, ground := Ground.data }], guard := none }) rfl (fun K hK => ?_) (AllReadyH.nil)
      have hconv := back_U HOD.out
      go_simp
      clear hconv
      refine hK.out _ _ HP.out.e.five (fun hHeld => ?_)
      clear hK K
      try simp only [Act.put, List.setIfInBounds_toArray, List.set_cons_zero, List.set_cons_succ]
      refine wpAnyH_take (i := 13) (oi := { dst := some 40, op := Op.build 48 #[(0, Operand.const (Value.string { data := #[0] })), (1, Operand.const (Value.int IntKind.i64 41)), (2, Operand.tmp 28), (3, Operand.tmp 35), (4, Operand.tmp 39)], type := 48, pos := "ref.go:124", after := #[{ on := 1, ground := Ground.data }, { on := 8, ground := Ground.data }, { on := 12, ground := Ground.data }], guard := none }) (v := ?_) rfl (by kernel_rfl) (by kernel_rfl) (by kernel_rfl) (fun _ _ _ h => h) (Or.inl ⟨by rfl, ?_⟩) (by assumption) ?_
      rotate_left 1
      · intro w hSw; (try dsimp only at hSw); go_simp; try (with_reducible rfl)
      try simp only [Act.put, List.setIfInBounds_toArray, List.set_cons_zero, List.set_cons_succ]
      rotate_left 1
      iterate 3
        · refine wpAnyH_ready (rs := [15]) (by kernel_rfl) (by simp) ?_
          refine AllReadyH.cons (o := { dst := none, op := Op.store 48 (Operand.tmp 7) (Operand.tmp 40), type := 0, pos := "ref.go:124", after := #[{ on := 14, ground := Ground.data }, { on := 13, ground := Ground.data }, { on := 11, ground := Ground.chain }, { on := 0, ground := Ground.phase }, { on := 1, ground := Ground.phase }, { on := 2, ground := Ground.phase }, { on := 3, ground := Ground.phase }, { on := 4, ground := Ground.phase }, { on := 5, ground := Ground.phase }, { on := 6, ground := Ground.phase }, { on := 7, ground := Ground.phase }, { on := 8, ground := Ground.phase }, { on := 9, ground := Ground.phase }, { on := 10, ground := Ground.phase }, { on := 11, ground := Ground.phase }, { on := 12, ground := Ground.phase }, { on := 13, ground := Ground.phase }, { on := 14, ground := Ground.phase }], guard := none }) rfl (fun K hK => ?_) (AllReadyH.nil)
          obtain ⟨z0, z1, z2, z3, z4⟩ := HZR.out.five
          have fz := HZR.out.fz
          go_simp
          clear z0 z1 z2 z3 z4 fz
          have k5 := cel_put5 HZR.out (.string ⟨#[0]⟩) (.int .i64 41) (.int .i64 es) (.int .i64 T) (.string (bs DD))
          have hst := aside_put5 wc g7 (.string ⟨#[0]⟩) (.int .i64 41) (.int .i64 es) (.int .i64 T) (.string (bs DD))
          unfold put5 at k5 hst
          obtain ⟨wn, hwn⟩ : ∃ X, ((((wc.setCell ⟨g7, 0, none⟩ (.string ⟨#[0]⟩)).setCell ⟨g7, 1, none⟩ (.int .i64 41)).setCell ⟨g7, 2, none⟩ (.int .i64 es)).setCell ⟨g7, 3, none⟩ (.int .i64 T)).setCell ⟨g7, 4, none⟩ (.string (bs DD)) = X := ⟨_, rfl⟩
          rw [hwn] at k5 hst ⊢
          clear hwn
          have HG := HG7.out
          replace HP := Lib.hid (⟨below_aside HP.out.bel hst (fun k hk => ⟨by have := HP.out.size; omega, by omega⟩), HP.out.x.aside (by simp) hst (by omega), HP.out.e.aside (by simp) hst (by omega), HP.out.z.aside (by simp) hst (by omega), Nat.le_trans HP.out.size hst.size⟩ : Pb w wn N i0 f0 _ _ _ _ es ex ev eb _)
          replace HZR := Lib.hid k5
          clear k5 hst HOD HG
          obtain ⟨wc, hwc3⟩ : ∃ X, wn = X := ⟨_, rfl⟩
          rw [hwc3] at HP HZR ⊢
          clear hwc3
          refine hK.out _ _ HP.out.e.five (fun hHeld => ?_)
          clear hK K
          try simp only [Act.put, List.setIfInBounds_toArray, List.set_cons_zero, List.set_cons_succ]
          refine wpAnyH_done (by kernel_rfl) ?_ _
          clear hHeld
          clear hwa hwb hA hBv hwc2 hwc
          have y3 := HP.out.e.c 3 (by simp)
          simp only [List.getElem_cons_succ, List.getElem_cons_zero] at y3
          obtain ⟨r0, r1, r2, r3, r4, r5⟩ := HP.out.x.six
          have H8 : ∃ g : Unit, True := ⟨(), trivial⟩
          clear H8
          rcases Bool.eq_false_or_eq_true eb with hEB | hEB
          · subst hEB
            have hwd : IntKind.i64.wrap (T + 32768) = TT := by rcases HWD.out with h | h; exact h; cases h
            obtain ⟨z0, z1, z2, z3, z4⟩ := HZR.out.five
            have fz := HZR.out.fz
            have k5 := HZR.out.set (o := 3) (by simp) (.int .i64 TT)
            simp only [List.set_cons_zero, List.set_cons_succ] at k5
            have hst : Aside (fun k => k = g7) wc (wc.setCell ⟨g7, 3, none⟩ (.int .i64 TT)) := Aside.setCell wc (p := ⟨g7, 3, none⟩) _ rfl
            have HG := HG7.out
            have HP2 := Lib.hid (⟨below_aside HP.out.bel hst (fun k hk => ⟨by have := HP.out.size; omega, by omega⟩), HP.out.x.aside (by simp) hst (by omega), HP.out.e.aside (by simp) hst (by omega), HP.out.z.aside (by simp) hst (by omega), Nat.le_trans HP.out.size hst.size⟩ : Pb w (wc.setCell ⟨g7, 3, none⟩ (.int .i64 TT)) N i0 f0 (.slice xa lq xc) (.slice aa la ac) (.slice na ln nc) (.slice ra lr rc) es ex ev true (.slice oa lx oc))
            have HZ2 := Lib.hid k5
            clear k5 hst HG r0 r1 r2 r3 r4 r5
            obtain ⟨r0, r1, r2, r3, r4, r5⟩ := HP2.out.x.six
            go_wp2_with fail
            clear z0 z1 z2 z3 z4 fz y3 hwd r0 r1 r2 r3 r4 r5
            obtain ⟨wn, hwn⟩ : ∃ X, wc.setCell ⟨g7, 3, none⟩ (.int .i64 TT) = X := ⟨_, rfl⟩
            rw [hwn] at HP2 HZ2 ⊢
            clear hwn HP HZR
            refine (rstripA_any (HMG.out _ HP2.out.bel) (Nat.le_trans HHI.out.1 (by have := HP2.out.bel.size; omega)) HMI.out).mono ?_; rintro e w5 ⟨v, rfl, ho, hal, hb⟩
            rw [HSTM.out] at ho
            have HSE := Lib.hid (show N + 3 ≤ wn.heap.size ∧ g7 < wn.heap.size from ⟨HP2.out.size, HZ2.out.lt (by simp)⟩)
            have hp5 := HP2.out.later hb
            have hz5 := HZ2.out.below (by simp) hb
            obtain ⟨o1, o2, o3, o4, rfl, j1, j2, j3, j4⟩ := ho
            obtain ⟨b1, e1, rfl⟩ := row_shape j1
            obtain ⟨b2', e2, rfl⟩ := row_shape j2
            obtain ⟨b3, e3, rfl⟩ := row_shape j3
            obtain ⟨b4, e4, rfl⟩ := row_shape j4
            obtain ⟨hp6, hs6⟩ := hp5.put6 (.slice b1 l.length e1) (.slice b2' lan.length e2) (.slice b3 lns.length e3) (.slice b4 lar.length e4)
            have hG := HG7.out
            have hSE := HSE.out
            have hz6 := hz5.aside (by simp) hs6 (by omega)
            have j1b := row_aside j1 hs6 (fun k hk => by have := (World.ownsRow.lt j1 k hk).1; omega)
            have j2b := row_aside j2 hs6 (fun k hk => by have := (World.ownsRow.lt j2 k hk).1; omega)
            have j3b := row_aside j3 hs6 (fun k hk => by have := (World.ownsRow.lt j3 k hk).1; omega)
            have j4b := row_aside j4 hs6 (fun k hk => by have := (World.ownsRow.lt j4 k hk).1; omega)
            have HP6 := Lib.hid hp6
            have HZ6 := Lib.hid hz6
            have HJ := Lib.hid (And.intro j1b (And.intro j2b (And.intro j3b j4b)))
            have HAL := Lib.hid hal
            have HS9 := Lib.hid (Nat.le_trans hb.size hs6.size)
            obtain ⟨r0, r1, r2, r3, r4, r5⟩ := hp5.x.six
            have fr := hp5.x.fz
            unfold put6 at HP6 HZ6 HJ HS9
            clear hp5 hz5 hp6 hs6 hz6 j1 j2 j3 j4 j1b j2b j3b j4b hal hb hG hSE
            obtain ⟨W9, hW9⟩ : ∃ X, (((((w5.setCell ⟨N, 0, none⟩ (.int .i64 i0)).setCell ⟨N, 1, none⟩ (.int .i64 f0)).setCell ⟨N, 2, none⟩ (.slice b1 l.length e1)).setCell ⟨N, 3, none⟩ (.slice b2' lan.length e2)).setCell ⟨N, 4, none⟩ (.slice b3 lns.length e3)).setCell ⟨N, 5, none⟩ (.slice b4 lar.length e4) = X := ⟨_, rfl⟩
            rw [hW9] at HP6 HZ6 HJ HS9
            have hone : SR (W9.alloc (.cells #[.string ⟨#[0]⟩, .int .i64 41, .int .i64 es, .int .i64 TT, .string (bs DD)] 48)) _ _ [⟨[0], 41, es, TT, DD⟩] := sr_one W9 ⟨[0], 41, es, TT, DD⟩
            have hb4 : Below W9.heap.size W9 (W9.alloc (.cells #[.string ⟨#[0]⟩, .int .i64 41, .int .i64 es, .int .i64 TT, .string (bs DD)] 48)) := (Below.refl _ _).alloc (Nat.le_refl _) _
            have hj4 := HJ.out.2.2.2
            obtain ⟨a6, c6, w6, hr, hk6, ha6, _⟩ := run_appRc (row_below hj4 hb4) hone (by have := HL.out; have := HLR.out; simp; omega) (show wn.heap.size ≤ _ by have := HS9.out; have := hb4.size; omega)
            simp only [List.length_singleton] at hr hk6
            rw [HLX.out] at hk6
            have HR := Lib.hid (show (Builtin.append_ #[23, 23] 23 #[.slice b4 lar.length e4, _]).run Try.prog _ = .ok (.slice a6 (lar.length + 1) c6) w6 from hr)
            have hl4 := World.ownsRow.lt hj4
            obtain ⟨i', f', q', a', n', r', he, hal⟩ := HAL.out
            injection he with he
            simp only [Array.mk.injEq, List.cons.injEq, and_true] at he
            obtain ⟨hi1, hf1, rfl, rfl, rfl, rfl⟩ := he
            clear hi1 hf1
            have hp7 := (HP6.out.later hb4).aside ha6 (fun k hk => by have := (hl4 k hk).1; have := HSE.out; omega)
            have j1c := row_aside (row_below HJ.out.1 hb4) ha6 (fun k hk hg => (hal k hg).1 hk)
            have j2c := row_aside (row_below HJ.out.2.1 hb4) ha6 (fun k hk hg => (hal k hg).2.1 hk)
            have j3c := row_aside (row_below HJ.out.2.2.1 hb4) ha6 (fun k hk hg => (hal k hg).2.2 hk)
            have hp8 := hp7.put5 (.slice a6 (lar.length + 1) c6)
            have hs8 := bm_side w6 N 5 (.slice a6 (lar.length + 1) c6)
            have HOM := Lib.hid (show OwnM (w6.setCell ⟨N, 5, none⟩ (.slice a6 (lar.length + 1) c6)) wn.heap.size (.agg #[.int .i64 i0, .int .i64 f0, .slice b1 l.length e1, .slice b2' lan.length e2, .slice b3 lns.length e3, .slice a6 (lar.length + 1) c6]) ⟨i0, f0, l, lan, lns, LX⟩ from
              ⟨_, _, _, _, rfl, row_aside j1c hs8 (fun k hk => by have := (World.ownsRow.lt j1c k hk).1; have := HSE.out; omega), row_aside j2c hs8 (fun k hk => by have := (World.ownsRow.lt j2c k hk).1; have := HSE.out; omega), row_aside j3c hs8 (fun k hk => by have := (World.ownsRow.lt j3c k hk).1; have := HSE.out; omega), row_aside hk6 hs8 (fun k hk => by have := (World.ownsRow.lt hk6 k hk).1; have := HSE.out; omega)⟩)
            have hfin := hp8.fin (.int .i64 i0) (.int .i64 f0) (.slice b1 l.length e1) (.slice b2' lan.length e2) (.slice b3 lns.length e3) (.slice a6 (lar.length + 1) c6)
            have HF := Lib.hid (And.intro hfin.1 (HOM.out.aside hfin.2.2 (fun k hk => by have := HSE.out; omega)))
            obtain ⟨m0, m1, m2, m3, m4, m5⟩ := hfin.2.1.six
            have HM := Lib.hid (show _ ∧ _ ∧ _ ∧ _ ∧ _ ∧ _ from ⟨m0, m1, m2, m3, m4, m5⟩)
            unfold put6 at HF HM
            have HP7 := Lib.hid hp7
            have HX9 := Lib.hid HP6.out.x
            clear hone hb4 hj4 hr hk6 ha6 hl4 hal hp7 j1c j2c j3c hp8 hs8 HOM hfin m0 m1 m2 m3 m4 m5 HJ HAL HP6
            have k5 := HX9.out.c 5 (by simp)
            simp only [List.getElem_cons_succ, List.getElem_cons_zero] at k5
            obtain ⟨d0, d1, d2, d3, d4⟩ := HZ6.out.five
            obtain ⟨v0, v1, v2, v3, v4, v5⟩ := HP7.out.x.six
            have fv := HP7.out.x.fz
            obtain ⟨z0, z1, z2, z3, z4, z5⟩ := HP7.out.z.six
            have fz := HP7.out.z.fz
            go_wp2_with (at_builtin; refine wpList_append_run (.tmp 50) (.tmp 52) 23 23 rfl rfl rfl rfl HR.out ?_)
            clear r0 r1 r2 r3 r4 r5 fr k5 d0 d1 d2 d3 d4 v0 v1 v2 v3 v4 v5 fv z0 z1 z2 z3 z4 z5 fz
            obtain ⟨m0, m1, m2, m3, m4, m5⟩ := HM.out
            refine bodyPost_ret (v := .tuple #[.agg #[.int .i64 i0, .int .i64 f0, .slice b1 l.length e1, .slice b2' lan.length e2, .slice b3 lns.length e3, .slice a6 (lar.length + 1) c6], .int .i64 0]) (by simp [results, Try.results25, go_sem, m0, m1, m2, m3, m4, m5]) rfl ⟨_, rfl, ?_, ?_⟩
            · first | exact HF.out.2.base (by have := HSE.out; omega) | (rw [hN]; exact HF.out.2.base (by have := HSE.out; omega))
            · first | exact HF.out.1 | (rw [hN]; exact HF.out.1)
          · subst hEB
            have hTT : TT = T := (HTF.out rfl).symm
            subst hTT
            have HP2 := HP
            have HZ2 := HZR
            obtain ⟨wn, hwn⟩ : ∃ X, wc = X := ⟨_, rfl⟩
            rw [hwn] at HP2 HZ2 r0 r1 r2 r3 r4 r5 y3 ⊢
            clear hwn HP HZR
            go_wp2_with fail
            clear r0 r1 r2 r3 r4 r5 y3
            refine (rstripA_any (HMG.out _ HP2.out.bel) (Nat.le_trans HHI.out.1 (by have := HP2.out.bel.size; omega)) HMI.out).mono ?_; rintro e w5 ⟨v, rfl, ho, hal, hb⟩
            rw [HSTM.out] at ho
            have HSE := Lib.hid (show N + 3 ≤ wn.heap.size ∧ g7 < wn.heap.size from ⟨HP2.out.size, HZ2.out.lt (by simp)⟩)
            have hp5 := HP2.out.later hb
            have hz5 := HZ2.out.below (by simp) hb
            obtain ⟨o1, o2, o3, o4, rfl, j1, j2, j3, j4⟩ := ho
            obtain ⟨b1, e1, rfl⟩ := row_shape j1
            obtain ⟨b2', e2, rfl⟩ := row_shape j2
            obtain ⟨b3, e3, rfl⟩ := row_shape j3
            obtain ⟨b4, e4, rfl⟩ := row_shape j4
            obtain ⟨hp6, hs6⟩ := hp5.put6 (.slice b1 l.length e1) (.slice b2' lan.length e2) (.slice b3 lns.length e3) (.slice b4 lar.length e4)
            have hG := HG7.out
            have hSE := HSE.out
            have hz6 := hz5.aside (by simp) hs6 (by omega)
            have j1b := row_aside j1 hs6 (fun k hk => by have := (World.ownsRow.lt j1 k hk).1; omega)
            have j2b := row_aside j2 hs6 (fun k hk => by have := (World.ownsRow.lt j2 k hk).1; omega)
            have j3b := row_aside j3 hs6 (fun k hk => by have := (World.ownsRow.lt j3 k hk).1; omega)
            have j4b := row_aside j4 hs6 (fun k hk => by have := (World.ownsRow.lt j4 k hk).1; omega)
            have HP6 := Lib.hid hp6
            have HZ6 := Lib.hid hz6
            have HJ := Lib.hid (And.intro j1b (And.intro j2b (And.intro j3b j4b)))
            have HAL := Lib.hid hal
            have HS9 := Lib.hid (Nat.le_trans hb.size hs6.size)
            obtain ⟨r0, r1, r2, r3, r4, r5⟩ := hp5.x.six
            have fr := hp5.x.fz
            unfold put6 at HP6 HZ6 HJ HS9
            clear hp5 hz5 hp6 hs6 hz6 j1 j2 j3 j4 j1b j2b j3b j4b hal hb hG hSE
            obtain ⟨W9, hW9⟩ : ∃ X, (((((w5.setCell ⟨N, 0, none⟩ (.int .i64 i0)).setCell ⟨N, 1, none⟩ (.int .i64 f0)).setCell ⟨N, 2, none⟩ (.slice b1 l.length e1)).setCell ⟨N, 3, none⟩ (.slice b2' lan.length e2)).setCell ⟨N, 4, none⟩ (.slice b3 lns.length e3)).setCell ⟨N, 5, none⟩ (.slice b4 lar.length e4) = X := ⟨_, rfl⟩
            rw [hW9] at HP6 HZ6 HJ HS9
            have hone : SR (W9.alloc (.cells #[.string ⟨#[0]⟩, .int .i64 41, .int .i64 es, .int .i64 TT, .string (bs DD)] 48)) _ _ [⟨[0], 41, es, TT, DD⟩] := sr_one W9 ⟨[0], 41, es, TT, DD⟩
            have hb4 : Below W9.heap.size W9 (W9.alloc (.cells #[.string ⟨#[0]⟩, .int .i64 41, .int .i64 es, .int .i64 TT, .string (bs DD)] 48)) := (Below.refl _ _).alloc (Nat.le_refl _) _
            have hj4 := HJ.out.2.2.2
            obtain ⟨a6, c6, w6, hr, hk6, ha6, _⟩ := run_appRc (row_below hj4 hb4) hone (by have := HL.out; have := HLR.out; simp; omega) (show wn.heap.size ≤ _ by have := HS9.out; have := hb4.size; omega)
            simp only [List.length_singleton] at hr hk6
            rw [HLX.out] at hk6
            have HR := Lib.hid (show (Builtin.append_ #[23, 23] 23 #[.slice b4 lar.length e4, _]).run Try.prog _ = .ok (.slice a6 (lar.length + 1) c6) w6 from hr)
            have hl4 := World.ownsRow.lt hj4
            obtain ⟨i', f', q', a', n', r', he, hal⟩ := HAL.out
            injection he with he
            simp only [Array.mk.injEq, List.cons.injEq, and_true] at he
            obtain ⟨hi1, hf1, rfl, rfl, rfl, rfl⟩ := he
            clear hi1 hf1
            have hp7 := (HP6.out.later hb4).aside ha6 (fun k hk => by have := (hl4 k hk).1; have := HSE.out; omega)
            have j1c := row_aside (row_below HJ.out.1 hb4) ha6 (fun k hk hg => (hal k hg).1 hk)
            have j2c := row_aside (row_below HJ.out.2.1 hb4) ha6 (fun k hk hg => (hal k hg).2.1 hk)
            have j3c := row_aside (row_below HJ.out.2.2.1 hb4) ha6 (fun k hk hg => (hal k hg).2.2 hk)
            have hp8 := hp7.put5 (.slice a6 (lar.length + 1) c6)
            have hs8 := bm_side w6 N 5 (.slice a6 (lar.length + 1) c6)
            have HOM := Lib.hid (show OwnM (w6.setCell ⟨N, 5, none⟩ (.slice a6 (lar.length + 1) c6)) wn.heap.size (.agg #[.int .i64 i0, .int .i64 f0, .slice b1 l.length e1, .slice b2' lan.length e2, .slice b3 lns.length e3, .slice a6 (lar.length + 1) c6]) ⟨i0, f0, l, lan, lns, LX⟩ from
              ⟨_, _, _, _, rfl, row_aside j1c hs8 (fun k hk => by have := (World.ownsRow.lt j1c k hk).1; have := HSE.out; omega), row_aside j2c hs8 (fun k hk => by have := (World.ownsRow.lt j2c k hk).1; have := HSE.out; omega), row_aside j3c hs8 (fun k hk => by have := (World.ownsRow.lt j3c k hk).1; have := HSE.out; omega), row_aside hk6 hs8 (fun k hk => by have := (World.ownsRow.lt hk6 k hk).1; have := HSE.out; omega)⟩)
            have hfin := hp8.fin (.int .i64 i0) (.int .i64 f0) (.slice b1 l.length e1) (.slice b2' lan.length e2) (.slice b3 lns.length e3) (.slice a6 (lar.length + 1) c6)
            have HF := Lib.hid (And.intro hfin.1 (HOM.out.aside hfin.2.2 (fun k hk => by have := HSE.out; omega)))
            obtain ⟨m0, m1, m2, m3, m4, m5⟩ := hfin.2.1.six
            have HM := Lib.hid (show _ ∧ _ ∧ _ ∧ _ ∧ _ ∧ _ from ⟨m0, m1, m2, m3, m4, m5⟩)
            unfold put6 at HF HM
            have HP7 := Lib.hid hp7
            have HX9 := Lib.hid HP6.out.x
            clear hone hb4 hj4 hr hk6 ha6 hl4 hal hp7 j1c j2c j3c hp8 hs8 HOM hfin m0 m1 m2 m3 m4 m5 HJ HAL HP6
            have k5 := HX9.out.c 5 (by simp)
            simp only [List.getElem_cons_succ, List.getElem_cons_zero] at k5
            obtain ⟨d0, d1, d2, d3, d4⟩ := HZ6.out.five
            obtain ⟨v0, v1, v2, v3, v4, v5⟩ := HP7.out.x.six
            have fv := HP7.out.x.fz
            obtain ⟨z0, z1, z2, z3, z4, z5⟩ := HP7.out.z.six
            have fz := HP7.out.z.fz
            go_wp2_with (at_builtin; refine wpList_append_run (.tmp 50) (.tmp 52) 23 23 rfl rfl rfl rfl HR.out ?_)
            clear r0 r1 r2 r3 r4 r5 fr k5 d0 d1 d2 d3 d4 v0 v1 v2 v3 v4 v5 fv z0 z1 z2 z3 z4 z5 fz
            obtain ⟨m0, m1, m2, m3, m4, m5⟩ := HM.out
            refine bodyPost_ret (v := .tuple #[.agg #[.int .i64 i0, .int .i64 f0, .slice b1 l.length e1, .slice b2' lan.length e2, .slice b3 lns.length e3, .slice a6 (lar.length + 1) c6], .int .i64 0]) (by simp [results, Try.results25, go_sem, m0, m1, m2, m3, m4, m5]) rfl ⟨_, rfl, ?_, ?_⟩
            · first | exact HF.out.2.base (by have := HSE.out; omega) | (rw [hN]; exact HF.out.2.base (by have := HSE.out; omega))
            · first | exact HF.out.1 | (rw [hN]; exact HF.out.1)
  · have e7 : PU = (ms00, EC) := by rw [← HPU.out, if_pos hE0]; rfl
    subst e7
    have t1 : (EC != 0) = true := by simpa using hE0
    go_wp2_with fail
    clear z0 z1 z2 z3 z4 z5 fz
    have hk := HP.out.fin (.int .i64 0) (.int .i64 0) (.slice none 0 0) (.slice none 0 0) (.slice none 0 0) (.slice none 0 0)
    obtain ⟨m0, m1, m2, m3, m4, m5⟩ := hk.2.1.six
    have hbF := hk.1
    unfold put6 at m0 m1 m2 m3 m4 m5 hbF
    refine bodyPost_ret (v := .tuple #[.agg #[.int .i64 0, .int .i64 0, .slice none 0 0, .slice none 0 0, .slice none 0 0, .slice none 0 0], .int .i64 EC]) (by simp [results, Try.results25, go_sem, m0, m1, m2, m3, m4, m5]) rfl ⟨_, rfl, ownM_zero _ _, by first | exact hbF | (rw [hN]; exact hbF)⟩
end Go.Proofs.Ytcjgbholgbjejaa

/-
  A message's whole code, how many bytes its sender takes: Code, Room.
-/
namespace Go.Proofs.Ytcjgbholgbjejaa
open Go.RowKit Go.Shelf
set_option linter.unusedVariables false
set_option linter.unusedSimpArgs false
set_option maxRecDepth 100000

theorem recR_bnd (x : Rc) : (0 ≤ (recR x).1.x ∧ (recR x).1.x ≤ 127) ∧ (0 ≤ (recR x).1.s ∧ (recR x).1.s ≤ 65535) := by
  unfold recR
  split
  · rename_i h
    obtain ⟨_, h1, h2, _⟩ := h
    simp only
    omega
  · simp [ed0]
theorem ofL_bnd (s : Nat) (L : List Rc) : (0 ≤ (ofL s L).1.x ∧ (ofL s L).1.x ≤ 127) ∧ (0 ≤ (ofL s L).1.s ∧ (ofL s L).1.s ≤ 65535) := by
  match s, L with
  | 0, [] => exact ⟨⟨by decide, by decide⟩, by decide, by decide⟩
  | 0, [x] => rw [ofL_one]; exact recR_bnd x
  | 0, _ :: _ :: _ => rw [ofL_bad (by simp) (by simp)]; exact ⟨⟨by decide, by decide⟩, by decide, by decide⟩
  | n + 1, _ => rw [ofL_bad (by simp) (by simp)]; exact ⟨⟨by decide, by decide⟩, by decide, by decide⟩
theorem ofM_bnd (m : Ms) : (0 ≤ (ofM m).1.x ∧ (ofM m).1.x ≤ 127) ∧ (0 ≤ (ofM m).1.s ∧ (ofM m).1.s ≤ 65535) := ofL_bnd _ _

set_option maxHeartbeats 2000000 in
theorem room_any {w : World} {hi : Nat} {u : Value} {m : Ms} (h : Mg w hi u m) (h1 : hi ≤ w.heap.size) (hm : Mild m) :
    Calls Try.prog 17 #[u] w (Tells w (.int .i64 (roM m))) := by
  have hb0 := ofM_bnd m
  have hmg := h
  obtain ⟨q, a, n, r, rfl, hq, h2, h3, h4⟩ := h
  obtain ⟨xa, xc, rfl⟩ := Lst.shape hq
  obtain ⟨aa, ac, rfl⟩ := Lst.shape h2
  obtain ⟨na, nc, rfl⟩ := Lst.shape h3
  obtain ⟨ra, rc, rfl⟩ := Lst.shape h4
  obtain ⟨i0, hi0⟩ : ∃ i, m.id = i := ⟨_, rfl⟩
  obtain ⟨f0, hf0⟩ : ∃ i, m.fl = i := ⟨_, rfl⟩
  obtain ⟨lq, hlq⟩ : ∃ i, m.q.length = i := ⟨_, rfl⟩
  obtain ⟨la, hla⟩ : ∃ i, m.an.length = i := ⟨_, rfl⟩
  obtain ⟨ln, hln⟩ : ∃ i, m.ns.length = i := ⟨_, rfl⟩
  obtain ⟨lr, hlr⟩ : ∃ i, m.ar.length = i := ⟨_, rfl⟩
  rw [hi0, hf0, hlq, hla, hln, hlr] at hmg ⊢
  have hb1 : Below w.heap.size w (w.alloc (.cells #[.int .i64 i0, .int .i64 f0, .slice xa lq xc, .slice aa la ac, .slice na ln nc, .slice ra lr rc] 25)) := (Below.refl _ _).alloc (Nat.le_refl _) _
  have HOF := Lib.hid (of_any (hmg.below hb1 h1) (Nat.le_trans h1 hb1.size) hm)
  unfold OfPost at HOF
  unfold roM
  obtain ⟨E, hE⟩ : ∃ x, ofM m = x := ⟨_, rfl⟩
  obtain ⟨e, is, er⟩ := E
  rw [hE] at HOF hb0 ⊢
  simp only at HOF hb0 ⊢
  obtain ⟨R, hR⟩ : ∃ R, (if 512 ≤ e.s then e.s else 512) = R := ⟨_, rfl⟩
  rw [hR]
  have HB1 := Lib.hid hb1
  obtain ⟨N, hN⟩ : ∃ N, w.heap.size = N := ⟨_, rfl⟩
  have hx := cel_new6 w (.int .i64 i0) (.int .i64 f0) (.slice xa lq xc) (.slice aa la ac) (.slice na ln nc) (.slice ra lr rc) 25
  rw [hN] at hx
  have HX := Lib.hid hx
  have HBD := Lib.hid hb0
  clear h2 h3 h4 hq h1 hm hmg hb1 hx hb0 hi0 hf0 hlq hla hln hlr hE
  go_enter Try.func17, Try.ntmps17
  go_wp2_with fail
  refine HOF.out.mono ?_; rintro ee w2 ⟨v, rfl, hv, hb⟩
  obtain ⟨o, rfl, hso⟩ := hv
  obtain ⟨oa, oc, rfl⟩ := row_shape hso
  replace HX := Lib.hid (HX.out.below (by simp) hb)
  replace HB1 := Lib.hid (bel_call HB1.out hb)
  obtain ⟨g, hg⟩ : ∃ g, w2.heap.size = g := ⟨_, rfl⟩
  have hba : Below w2.heap.size w2 (w2.alloc (.cells #[.int .i64 e.s, .int .i64 e.x, .int .i64 e.v, .bool e.b, .slice oa e.o.length oc] 30)) := (Below.refl _ _).alloc (Nat.le_refl _) _
  have hbox := cel_new w2 (.int .i64 e.s) (.int .i64 e.x) (.int .i64 e.v) (.bool e.b) (.slice oa e.o.length oc) 30
  rw [hg] at hbox
  have hxc := HX.out.below (by simp) hba
  have HB3 := Lib.hid (bel_call HB1.out hba)
  have y1 : (w2.alloc (.cells #[.int .i64 e.s, .int .i64 e.x, .int .i64 e.v, .bool e.b, .slice oa e.o.length oc] 30)).cell? ⟨g, 0, none⟩ = some (.int .i64 e.s) := hbox.c 0 (by simp)
  obtain ⟨S, hS⟩ : ∃ X, e.s = X := ⟨_, rfl⟩
  have hbs := HBD.out.2
  rw [hS] at hbs y1 hR ⊢
  have HR := Lib.hid hR
  rw [hS] at HB3
  clear hb hso hba hbox hxc HX HBD hR
  go_wp2_with fail
  go_ret
  exact ⟨by rw [← HR.out]; simp; split <;> omega, HB3.out⟩
end Go.Proofs.Ytcjgbholgbjejaa

/-
  What the document's examples say: awake.
-/
namespace Go.Proofs.Ytcjgbholgbjejaa
open Go.RowKit Go.Shelf
set_option linter.unusedVariables false
set_option linter.unusedSimpArgs false
set_option maxRecDepth 100000

def aw0 : Ms := ⟨7, 0, [], [], [], []⟩
def awE : Ed := ⟨1232, 0, 0, true, []⟩
def awR : Rc := ⟨[0], 41, 1232, 32768, []⟩
def aw1 : Ms := ⟨7, 0, [], [], [], [awR]⟩
theorem aw_pu : puM aw0 awE = (aw1, 0) := rfl
theorem aw_of : ofM aw1 = (awE, true, 0) := rfl
theorem aw_ro : roM aw1 = 1232 := rfl
theorem aw_mild0 : Mild aw0 := ⟨by decide, by simp [aw0], by simp [aw0], by simp [aw0], by simp [aw0]⟩
theorem aw_mild1 : Mild aw1 := ⟨by decide, by simp [aw1], by simp [aw1], by simp [aw1], by simp [aw1, awR]⟩
theorem mg_bare (w : World) (i f : Int) : Mg w w.heap.size (.agg #[.int .i64 i, .int .i64 f, .slice none 0 0, .slice none 0 0, .slice none 0 0, .slice none 0 0]) ⟨i, f, [], [], [], []⟩ := ⟨_, _, _, _, rfl, Lst.nil _ _, Lst.nil _ _, Lst.nil _ _, Lst.nil _ _⟩
theorem eg_bare (w : World) (s x v : Int) (b : Bool) : Eg w w.heap.size (.agg #[.int .i64 s, .int .i64 x, .int .i64 v, .bool b, .slice none 0 0]) ⟨s, x, v, b, []⟩ := ⟨_, rfl, Lst.nil _ _⟩
theorem own_shape4 {w : World} {B : Nat} {v : Value} {m : Ms} (h : OwnM w B v m) : ∃ b1 e1 b2 e2 b3 e3 b4 e4, v = .agg #[.int .i64 m.id, .int .i64 m.fl, .slice b1 m.q.length e1, .slice b2 m.an.length e2, .slice b3 m.ns.length e3, .slice b4 m.ar.length e4] := by
  obtain ⟨o1, o2, o3, o4, rfl, j1, j2, j3, j4⟩ := h
  obtain ⟨b1, e1, rfl⟩ := row_shape j1
  obtain ⟨b2, e2, rfl⟩ := row_shape j2
  obtain ⟨b3, e3, rfl⟩ := row_shape j3
  obtain ⟨b4, e4, rfl⟩ := row_shape j4
  exact ⟨_, _, _, _, _, _, _, _, rfl⟩
theorem OwnM.capR {w : World} {B : Nat} {v : Value} {m : Ms} (h : OwnM w B v m) : CapR v m.ar.length := by
  obtain ⟨o1, o2, o3, o4, rfl, j1, j2, j3, j4⟩ := h
  obtain ⟨b4, e4, rfl⟩ := row_shape j4
  exact ⟨_, _, _, _, _, _, _, rfl, row_cap j4⟩
theorem capR_bare (i f : Value) : CapR (.agg #[i, f, .slice none 0 0, .slice none 0 0, .slice none 0 0, .slice none 0 0]) 0 := ⟨_, _, _, _, _, _, _, rfl, Nat.le_refl _⟩

set_option maxHeartbeats 4000000 in
theorem awake9_any (w : World) : Calls Try.prog 21 #[] w (Tells w (.bool true)) := by
  obtain ⟨N, hN⟩ : ∃ N, w.heap.size = N := ⟨_, rfl⟩
  have HPU := Lib.hid (put_any (mg_bare w 7 0) (Nat.le_refl _) aw_mild0 (by decide) (capR_bare _ _) (eg_bare w 1232 0 0 true) (Nat.le_refl _) (by decide) (by simp))
  unfold PuPost at HPU
  rw [show (⟨7, 0, [], [], [], []⟩ : Ms) = aw0 from rfl, show (⟨1232, 0, 0, true, []⟩ : Ed) = awE from rfl, aw_pu] at HPU
  go_enter Try.func21, Try.ntmps21
  go_wp2_with fail
  refine HPU.out.mono ?_; rintro e w1 ⟨v, rfl, ho, hb⟩
  have HB := Lib.hid hb
  have HO := Lib.hid ho
  obtain ⟨b1, e1, b2, e2, b3, e3, b4, e4, hvv⟩ := own_shape4 ho
  have hvv2 : v = .agg #[.int .i64 7, .int .i64 0, .slice b1 0 e1, .slice b2 0 e2, .slice b3 0 e3, .slice b4 1 e4] := hvv
  subst hvv2
  have hmg := (ho.mg (by decide)).below ((Below.refl _ _).alloc (Nat.le_refl _) (.cells #[.int .i64 7, .int .i64 0, .slice b1 0 e1, .slice b2 0 e2, .slice b3 0 e3, .slice b4 1 e4] 25)) (Nat.le_refl _)
  have hbx := cel_new6 w1 (.int .i64 7) (.int .i64 0) (.slice b1 0 e1) (.slice b2 0 e2) (.slice b3 0 e3) (.slice b4 1 e4) 25
  have hb2 := bel_alloc HB.out (.cells #[.int .i64 7, .int .i64 0, .slice b1 0 e1, .slice b2 0 e2, .slice b3 0 e3, .slice b4 1 e4] 25)
  obtain ⟨g, hg⟩ : ∃ g, w1.heap.size = g := ⟨_, rfl⟩
  rw [hg] at hbx hmg
  simp only [aw1, List.length_nil, List.length_singleton] at hmg
  rw [show (⟨7, 0, [], [], [], [awR]⟩ : Ms) = aw1 from rfl] at hmg
  have hmg2 := hmg.wide (hi' := (w1.alloc (.cells #[.int .i64 7, .int .i64 0, .slice b1 0 e1, .slice b2 0 e2, .slice b3 0 e3, .slice b4 1 e4] 25)).heap.size) (by simp; omega)
  have HOF := Lib.hid (of_any hmg2 (Nat.le_refl _) aw_mild1)
  unfold OfPost at HOF
  rw [aw_of] at HOF
  have HX := Lib.hid hbx
  have HM := Lib.hid hmg2
  replace HB := Lib.hid hb2
  clear hb ho hmg hbx hb2 hmg2
  obtain ⟨c0, c1, c2, c3, c4, c5⟩ := HX.out.six
  go_wp2_with fail
  refine HOF.out.mono ?_; rintro e w2 ⟨v, rfl, hv, hb⟩
  replace HB := Lib.hid (bel_call HB.out hb)
  replace HX := Lib.hid (HX.out.below (by simp) hb)
  replace HM := Lib.hid (HM.out.later hb)
  have HE := Lib.hid (hv.eg (by decide))
  obtain ⟨o, hv1, hso⟩ := hv
  obtain ⟨oa, oc, ho1⟩ := row_shape hso
  have ho2 : o = .slice oa 0 oc := ho1
  subst ho2
  have hv2 : v = .agg #[.int .i64 1232, .int .i64 0, .int .i64 0, .bool true, .slice oa 0 oc] := hv1
  subst hv2
  clear hb hso c0 c1 c2 c3 c4 c5
  have hbe : Below w2.heap.size w2 (w2.alloc (.cells #[.int .i64 1232, .int .i64 0, .int .i64 0, .bool true, .slice oa 0 oc] 30)) := (Below.refl _ _).alloc (Nat.le_refl _) _
  have hbo := cel_new w2 (.int .i64 1232) (.int .i64 0) (.int .i64 0) (.bool true) (.slice oa 0 oc) 30
  obtain ⟨g2, hg2⟩ : ∃ g, w2.heap.size = g := ⟨_, rfl⟩
  rw [hg2] at hbo
  replace HB := Lib.hid (bel_call HB.out hbe)
  replace HX := Lib.hid (HX.out.below (by simp) hbe)
  replace HM := Lib.hid (HM.out.later hbe)
  replace HE := Lib.hid (HE.out.later hbe)
  have hbr : Below (w2.alloc (.cells #[.int .i64 1232, .int .i64 0, .int .i64 0, .bool true, .slice oa 0 oc] 30)).heap.size (w2.alloc (.cells #[.int .i64 1232, .int .i64 0, .int .i64 0, .bool true, .slice oa 0 oc] 30)) ((w2.alloc (.cells #[.int .i64 1232, .int .i64 0, .int .i64 0, .bool true, .slice oa 0 oc] 30)).alloc (.cells #[.string ⟨#[0]⟩, .int .i64 41, .int .i64 1232, .int .i64 32768, .string ⟨#[]⟩] 48)) := (Below.refl _ _).alloc (Nat.le_refl _) _
  have hone : SR ((w2.alloc (.cells #[.int .i64 1232, .int .i64 0, .int .i64 0, .bool true, .slice oa 0 oc] 30)).alloc (.cells #[.string ⟨#[0]⟩, .int .i64 41, .int .i64 1232, .int .i64 32768, .string ⟨#[]⟩] 48)) ((w2.alloc (.cells #[.int .i64 1232, .int .i64 0, .int .i64 0, .bool true, .slice oa 0 oc] 30)).heap.size + 1) (.slice (some ⟨(w2.alloc (.cells #[.int .i64 1232, .int .i64 0, .int .i64 0, .bool true, .slice oa 0 oc] 30)).heap.size, 0, none⟩) 1 1) [awR] := sr_one (w2.alloc (.cells #[.int .i64 1232, .int .i64 0, .int .i64 0, .bool true, .slice oa 0 oc] 30)) awR
  replace HB := Lib.hid (bel_call HB.out hbr)
  replace HX := Lib.hid (HX.out.below (by simp) hbr)
  replace HM := Lib.hid (HM.out.later hbr)
  replace HE := Lib.hid (HE.out.later hbr)
  have HZ := Lib.hid (hbo.below (by simp) hbr)
  simp only [World.size_alloc, hg2] at hone
  have hsz : g2 + 1 + 1 ≤ ((w2.alloc (.cells #[.int .i64 1232, .int .i64 0, .int .i64 0, .bool true, .slice oa 0 oc] 30)).alloc (.cells #[.string ⟨#[0]⟩, .int .i64 41, .int .i64 1232, .int .i64 32768, .string ⟨#[]⟩] 48)).heap.size := by simp [hg2]
  have h4 : SR ((w2.alloc (.cells #[.int .i64 1232, .int .i64 0, .int .i64 0, .bool true, .slice oa 0 oc] 30)).alloc (.cells #[.string ⟨#[0]⟩, .int .i64 41, .int .i64 1232, .int .i64 32768, .string ⟨#[]⟩] 48)) ((w2.alloc (.cells #[.int .i64 1232, .int .i64 0, .int .i64 0, .bool true, .slice oa 0 oc] 30)).alloc (.cells #[.string ⟨#[0]⟩, .int .i64 41, .int .i64 1232, .int .i64 32768, .string ⟨#[]⟩] 48)).heap.size (.slice b4 1 e4) [awR] := by
    obtain ⟨_, _, _, _, he, _, _, _, h⟩ := HM.out
    injection he with he
    simp only [Array.mk.injEq, List.cons.injEq, and_true] at he
    rw [he.2.2.2.2.2]
    exact h
  have HSR := Lib.hid (sameR_yes h4 hone (Nat.le_refl _) hsz)
  obtain ⟨c0, c1, c2, c3, c4, c5⟩ := HX.out.six
  clear hbe hbo hbr hone hsz h4
  go_wp2_with fail
  refine HSR.out.mono ?_; rintro e w3 ⟨rfl, hb⟩
  replace HB := Lib.hid (bel_call HB.out hb)
  replace HX := Lib.hid (HX.out.below (by simp) hb)
  replace HM := Lib.hid (HM.out.later hb)
  replace HE := Lib.hid (HE.out.later hb)
  replace HZ := Lib.hid (HZ.out.below (by simp) hb)
  clear hb c0 c1 c2 c3 c4 c5 HSR
  obtain ⟨d0, d1, d2, d3, d4⟩ := HZ.out.five
  go_wp2_with fail
  refine (sameE_yes HE.out (eg_bare w3 1232 0 0 true) (Nat.le_refl _) (Nat.le_refl _)).mono ?_; rintro e w4 ⟨rfl, hb⟩
  replace HB := Lib.hid (bel_call HB.out hb)
  replace HX := Lib.hid (HX.out.below (by simp) hb)
  replace HM := Lib.hid (HM.out.later hb)
  clear hb d0 d1 d2 d3 d4
  obtain ⟨c0, c1, c2, c3, c4, c5⟩ := HX.out.six
  go_wp2_with fail
  refine (room_any HM.out (Nat.le_refl _) aw_mild1).mono ?_; rintro e w5 ⟨rfl, hb⟩
  replace HB := Lib.hid (bel_call HB.out hb)
  rw [aw_ro]
  clear hb
  go_wp2_with fail
  go_ret
  exact ⟨rfl, by first | exact HB.out | (rw [← hN]; exact HB.out) | (rw [hN]; exact HB.out)⟩
end Go.Proofs.Ytcjgbholgbjejaa

/-
  A bare answer is written over: OverMessage.
-/
namespace Go.Proofs.Ytcjgbholgbjejaa
open Go.RowKit Go.Shelf
set_option linter.unusedVariables false
set_option linter.unusedSimpArgs false
set_option maxRecDepth 100000

/-- A row of the call's own, as cells. -/
theorem row_cel {w : World} {B k n g c : Nat} {e : TypeId} {xs : List Value} {m : Nat} (h : w.ownsRow B e k (.slice (some ⟨g, 0, none⟩) m c) n xs) : Cel w g xs := by
  have hc := fun j u hu => World.ownsRow.cells h (g := g) rfl j u hu
  rcases h.2 with ⟨h2, _⟩ | ⟨g', cap, cur, h2, _, hb, _⟩
  · simp at h2
  · injection h2 with h2 _ _
    injection h2 with h2
    injection h2 with h2 _ _
    subst h2
    refine ⟨fun j hj => ?_, fun j => ?_⟩
    · have := hc j xs[j] (List.getElem?_eq_getElem hj)
      rwa [WideShapes.add_plain, Nat.zero_add] at this
    · simp [World.frozen?, hb]

theorem row_how {w : World} {B k n : Nat} {e : TypeId} {a : Option Addr} {m c : Nat} {xs : List Value} (h : w.ownsRow B e k (.slice a m c) n xs) : (a = none ∧ n = 0 ∧ m = 0) ∨ ∃ g, a = some ⟨g, 0, none⟩ ∧ m = n := by
  rcases h.2 with ⟨h2, h0⟩ | ⟨g, cap, cur, h2, _⟩
  · injection h2 with h2 h3 _
    exact .inl ⟨h2, h0, h3⟩
  · injection h2 with h2 h3 _
    exact .inr ⟨g, h2, h3⟩

end Go.Proofs.Ytcjgbholgbjejaa

/-
  A whole message of the call's own is written over: OverMessage.
-/
namespace Go.Proofs.Ytcjgbholgbjejaa
open Go.RowKit Go.Shelf
set_option linter.unusedVariables false
set_option linter.unusedSimpArgs false
set_option maxRecDepth 100000

/-- A block has so many cells, and none is shut. -/
def Fit (w : World) (g L : Nat) : Prop := ∃ xs : List Value, xs.length = L ∧ Cel w g xs
theorem Fit.set {w : World} {g L : Nat} (h : Fit w g L) (b o : Nat) (v : Value) : Fit (w.setCell ⟨b, o, none⟩ v) g L := by
  obtain ⟨xs, hl, hc⟩ := h
  by_cases hb : b = g
  · subst hb
    by_cases ho : o < xs.length
    · exact ⟨_, by rw [List.length_set]; exact hl, hc.set ho v⟩
    · refine ⟨xs, hl, fun j hj => ?_, fun j => by rw [World.frozen?_setCell]; exact hc.fz j⟩
      rw [World.cell?_setCell_other _ _ _ _ (fun e => by have := congrArg Addr.off e; simp only at this; omega)]
      exact hc.c j hj
  · exact ⟨xs, hl, hc.other (a := ⟨b, o, none⟩) hb _⟩
theorem Fit.later {w w' : World} {g L : Nat} (h : Fit w g L) (hg : g < w.heap.size) (hb : Below w.heap.size w w') : Fit w' g L := by
  obtain ⟨xs, hl, hc⟩ := h
  have ha : Aside (fun _ => False) w w' := Aside.of_all hb
  exact ⟨xs, hl, fun j hj => ha.cell_lt (hc.c j hj) id, fun j => (ha.frozen (p := ⟨g, j, none⟩) hg id).trans (hc.fz j)⟩
/-- A list that may be written over. -/
def Rw (w : World) (B N : Nat) (a : Option Addr) (L : Nat) : Prop := (a = none ∧ L = 0) ∨ ∃ g, a = some ⟨g, 0, none⟩ ∧ B ≤ g ∧ g < N ∧ Fit w g L
theorem Rw.of {w : World} {B k n m c : Nat} {e : TypeId} {a : Option Addr} {xs : List Value} (h : w.ownsRow B e k (.slice a m c) n xs) (hm : m = n) : Rw w B w.heap.size a (m * k) := by
  rcases row_how h with ⟨h1, h2, h3⟩ | ⟨g, rfl, h3⟩
  · exact .inl ⟨h1, by rw [h3]; omega⟩
  · have := World.ownsRow.lt h g rfl
    exact .inr ⟨g, rfl, this.1, this.2, xs, by rw [hm]; exact h.1, row_cel h⟩
/-- What is known while it is written over. -/
structure Ov (w wr : World) (B N : Nat) (qa aa na ra : Option Addr) (lq la ln lr : Nat) : Prop where
  bel : Below B w wr
  lo : B ≤ N
  hi : N < wr.heap.size
  q : Rw wr B N qa (lq * 3)
  a : Rw wr B N aa (la * 5)
  n : Rw wr B N na (ln * 5)
  r : Rw wr B N ra (lr * 5)
section
variable {w wr w' : World} {B N : Nat} {qa aa na ra a : Option Addr} {lq la ln lr L : Nat}
theorem Rw.set (h : Rw wr B N a L) (b o : Nat) (v : Value) : Rw (wr.setCell ⟨b, o, none⟩ v) B N a L := by
  rcases h with h | ⟨g, h1, h2, h3, h4⟩
  · exact .inl h
  · exact .inr ⟨g, h1, h2, h3, h4.set b o v⟩
theorem Rw.later (h : Rw wr B N a L) (hN : N ≤ wr.heap.size) (hb : Below wr.heap.size wr w') : Rw w' B N a L := by
  rcases h with h | ⟨g, h1, h2, h3, h4⟩
  · exact .inl h
  · exact .inr ⟨g, h1, h2, h3, h4.later (by omega) hb⟩
theorem Ov.set (h : Ov w wr B N qa aa na ra lq la ln lr) {b : Nat} (hb : B ≤ b) (o : Nat) (v : Value) : Ov w (wr.setCell ⟨b, o, none⟩ v) B N qa aa na ra lq la ln lr := by
  have ha : Aside (fun k => k = b) wr (wr.setCell ⟨b, o, none⟩ v) := Aside.setCell wr (p := ⟨b, o, none⟩) v rfl
  exact ⟨below_aside h.bel ha (fun k hk => ⟨by have := h.hi; have := h.lo; omega, by omega⟩), h.lo, Nat.lt_of_lt_of_le h.hi ha.size, h.q.set _ _ _, h.a.set _ _ _, h.n.set _ _ _, h.r.set _ _ _⟩
theorem Ov.later (h : Ov w wr B N qa aa na ra lq la ln lr) (hb : Below wr.heap.size wr w') : Ov w w' B N qa aa na ra lq la ln lr :=
  ⟨h.bel.trans (hb.mono (by have := h.hi; have := h.lo; omega)), h.lo, Nat.lt_of_lt_of_le h.hi hb.size, h.q.later (Nat.le_of_lt h.hi) hb, h.a.later (Nat.le_of_lt h.hi) hb, h.n.later (Nat.le_of_lt h.hi) hb, h.r.later (Nat.le_of_lt h.hi) hb⟩
end

set_option maxHeartbeats 8000000 in
theorem overW_any {w : World} {B : Nat} {v : Value} {m : Ms} (h : OwnM w B v m) (hB : B ≤ w.heap.size) (hl : m.q.length + m.an.length + m.ns.length + m.ar.length ≤ 900000) :
    Calls Try.prog 19 #[v] w fun e w' => e = .returned (.tuple #[]) ∧ Below B w w' := by
  obtain ⟨o1, o2, o3, o4, rfl, j1, j2, j3, j4⟩ := h
  obtain ⟨qa, qc, rfl⟩ := row_shape j1
  obtain ⟨aa, ac, rfl⟩ := row_shape j2
  obtain ⟨na, nc, rfl⟩ := row_shape j3
  obtain ⟨ra, rc, rfl⟩ := row_shape j4
  have k1 := Rw.of j1 rfl
  have k2 := Rw.of j2 rfl
  have k3 := Rw.of j3 rfl
  have k4 := Rw.of j4 rfl
  obtain ⟨i0, hi0⟩ : ∃ i, m.id = i := ⟨_, rfl⟩
  obtain ⟨f0, hf0⟩ : ∃ i, m.fl = i := ⟨_, rfl⟩
  obtain ⟨lq, hlq⟩ : ∃ i, m.q.length = i := ⟨_, rfl⟩
  obtain ⟨la, hla⟩ : ∃ i, m.an.length = i := ⟨_, rfl⟩
  obtain ⟨ln, hln⟩ : ∃ i, m.ns.length = i := ⟨_, rfl⟩
  obtain ⟨lr, hlr⟩ : ∃ i, m.ar.length = i := ⟨_, rfl⟩
  rw [hlq, hla, hln, hlr] at hl
  rw [hlq] at k1
  rw [hla] at k2
  rw [hln] at k3
  rw [hlr] at k4
  rw [hi0, hf0, hlq, hla, hln, hlr]
  obtain ⟨N, hN⟩ : ∃ N, w.heap.size = N := ⟨_, rfl⟩
  have hba : Below w.heap.size w (w.alloc (.cells #[.int .i64 i0, .int .i64 f0, .slice qa lq qc, .slice aa la ac, .slice na ln nc, .slice ra lr rc] 25)) := (Below.refl _ _).alloc (Nat.le_refl _) _
  have hx := cel_new6 w (.int .i64 i0) (.int .i64 f0) (.slice qa lq qc) (.slice aa la ac) (.slice na ln nc) (.slice ra lr rc) 25
  have hov : Ov w (w.alloc (.cells #[.int .i64 i0, .int .i64 f0, .slice qa lq qc, .slice aa la ac, .slice na ln nc, .slice ra lr rc] 25)) B N qa aa na ra lq la ln lr :=
    ⟨(Below.refl _ _).alloc hB _, by omega, by simp [hN], hN ▸ k1.later (Nat.le_refl _) hba, hN ▸ k2.later (Nat.le_refl _) hba, hN ▸ k3.later (Nat.le_refl _) hba, hN ▸ k4.later (Nat.le_refl _) hba⟩
  rw [hN] at hx
  have HX := Lib.hid hx
  have HO := Lib.hid hov
  have HL := Lib.hid hl
  obtain ⟨c0, c1, c2, c3, c4, c5⟩ := hx.six
  clear j1 j2 j3 j4 k1 k2 k3 k4 hba hx hov hl hi0 hf0 hlq hla hln hlr hB
  go_enter Try.func19, Try.ntmps19
  go_wp2_with fail
  clear c0 c1 c2 c3 c4 c5
  go_loopg [2] lq (fun k v2 wr => ∃ j : Nat, j + k = lq ∧ v2 = .int .i64 j ∧ Hid (Cel wr N [.int .i64 i0, .int .i64 f0, .slice qa lq qc, .slice aa la ac, .slice na ln nc, .slice ra lr rc]) ∧ Hid (Ov w wr B N qa aa na ra lq la ln lr))
  case atStart => exact ⟨0, by omega, rfl, HX, HO⟩
  case round =>
    clear HX HO
    obtain ⟨j, hj, rfl, HX, HO⟩ := hrel
    have hl := HL.out
    obtain ⟨c0, c1, c2, c3, c4, c5⟩ := HX.out.six
    by_cases hj2 : j < lq
    · rcases HO.out.q with ⟨_, h0⟩ | ⟨g, rfl, hg1, hg2, xs, hxl, hc⟩
      · omega
      · have e0 := hc.c (j * 3) (by omega)
        have e1 := hc.c (j * 3 + 1) (by omega)
        have e2 := hc.c (j * 3 + 2) (by omega)
        obtain ⟨y0, hy0⟩ : ∃ y, xs[j * 3]'(by omega) = y := ⟨_, rfl⟩
        obtain ⟨y1, hy1⟩ : ∃ y, xs[j * 3 + 1]'(by omega) = y := ⟨_, rfl⟩
        obtain ⟨y2, hy2⟩ : ∃ y, xs[j * 3 + 2]'(by omega) = y := ⟨_, rfl⟩
        rw [hy0] at e0
        rw [hy1] at e1
        rw [hy2] at e2
        have fz := hc.fz
        have HX2 := Lib.hid (((HX.out.other (a := ⟨g, j * 3, none⟩) (by show g ≠ N; omega) (.string ⟨#[]⟩)).other (a := ⟨g, j * 3 + 1, none⟩) (by show g ≠ N; omega) (.int .i64 9)).other (a := ⟨g, j * 3 + 2, none⟩) (by show g ≠ N; omega) (.int .i64 0))
        have HO2 := Lib.hid (((HO.out.set hg1 (j * 3) (.string ⟨#[]⟩)).set hg1 (j * 3 + 1) (.int .i64 9)).set hg1 (j * 3 + 2) (.int .i64 0))
        have t1 : (j : Int) < lq := by omega
        clear hc HX HO hy0 hy1 hy2 hxl hg1 hg2
        go_wp2_with fail
        go_roundg (lq - (j + 1))
        case measure => omega
        case rel => exact ⟨j + 1, by omega, by go_num, HX2, HO2⟩
    · have t1 : ¬ ((j : Int) < lq) := by omega
      obtain ⟨G, hG⟩ : ∃ G, wr.heap.size = G := ⟨_, rfl⟩
      have hba : Below wr.heap.size wr (wr.alloc (.cells #[.slice aa la ac, .slice na ln nc, .slice ra lr rc] 23)) := (Below.refl _ _).alloc (Nat.le_refl _) _
      have hg3 := cel_new3 wr (.slice aa la ac) (.slice na ln nc) (.slice ra lr rc) 23
      rw [hG] at hg3
      have HGN := Lib.hid (show N < G by have := HO.out.hi; omega)
      replace HO := Lib.hid (HO.out.later hba)
      have HG := Lib.hid hg3
      clear hba hg3 HX
      go_wp2_with fail
      clear c0 c1 c2 c3 c4 c5
      refine wp_loop_rounds 4 ?_
      rw [rounds_succ]
      obtain ⟨d0, d1, d2⟩ : _ ∧ _ ∧ _ := ⟨HG.out.c 0 (by simp), HG.out.c 1 (by simp), HG.out.c 2 (by simp)⟩
      simp only [List.getElem_cons_zero, List.getElem_cons_succ] at d0 d1 d2
      go_wp2_with fail
      clear d0 d1 d2
      go_loopg [5] la (fun kk v5 wr => ∃ j : Nat, j + kk = la ∧ v5 = .int .i64 j ∧ Hid (Cel wr G [.slice aa la ac, .slice na ln nc, .slice ra lr rc]) ∧ Hid (Ov w wr B N qa aa na ra lq la ln lr))
      case atStart => exact ⟨0, by omega, rfl, HG, HO⟩
      case round =>
        clear HG HO
        obtain ⟨j, hj, rfl, HG, HO⟩ := hrel
        have hl := HL.out
        have hgn := HGN.out
        obtain ⟨d0, d1, d2⟩ : _ ∧ _ ∧ _ := ⟨HG.out.c 0 (by simp), HG.out.c 1 (by simp), HG.out.c 2 (by simp)⟩
        simp only [List.getElem_cons_zero, List.getElem_cons_succ] at d0 d1 d2
        by_cases hj2 : j < la
        · rcases HO.out.a with ⟨_, h0⟩ | ⟨g, rfl, hg1, hg2, xs, hxl, hc⟩
          · omega
          · have e0 := hc.c (j * 5) (by omega)
            have e1 := hc.c (j * 5 + 1) (by omega)
            have e2 := hc.c (j * 5 + 2) (by omega)
            have e3 := hc.c (j * 5 + 3) (by omega)
            have e4 := hc.c (j * 5 + 4) (by omega)
            obtain ⟨y0, hy0⟩ : ∃ y, xs[j * 5]'(by omega) = y := ⟨_, rfl⟩
            obtain ⟨y1, hy1⟩ : ∃ y, xs[j * 5 + 1]'(by omega) = y := ⟨_, rfl⟩
            obtain ⟨y2, hy2⟩ : ∃ y, xs[j * 5 + 2]'(by omega) = y := ⟨_, rfl⟩
            obtain ⟨y3, hy3⟩ : ∃ y, xs[j * 5 + 3]'(by omega) = y := ⟨_, rfl⟩
            obtain ⟨y4, hy4⟩ : ∃ y, xs[j * 5 + 4]'(by omega) = y := ⟨_, rfl⟩
            rw [hy0] at e0
            rw [hy1] at e1
            rw [hy2] at e2
            rw [hy3] at e3
            rw [hy4] at e4
            have fz := hc.fz
            have HG2 := Lib.hid (((((HG.out.other (a := ⟨g, j * 5, none⟩) (by show g ≠ G; omega) (.string ⟨#[]⟩)).other (a := ⟨g, j * 5 + 1, none⟩) (by show g ≠ G; omega) (.int .i64 9)).other (a := ⟨g, j * 5 + 2, none⟩) (by show g ≠ G; omega) (.int .i64 0)).other (a := ⟨g, j * 5 + 3, none⟩) (by show g ≠ G; omega) (.int .i64 0)).other (a := ⟨g, j * 5 + 4, none⟩) (by show g ≠ G; omega) (.string ⟨#[]⟩))
            have HO2 := Lib.hid (((((HO.out.set hg1 (j * 5) (.string ⟨#[]⟩)).set hg1 (j * 5 + 1) (.int .i64 9)).set hg1 (j * 5 + 2) (.int .i64 0)).set hg1 (j * 5 + 3) (.int .i64 0)).set hg1 (j * 5 + 4) (.string ⟨#[]⟩))
            have t1 : (j : Int) < la := by omega
            clear hc HG HO hy0 hy1 hy2 hy3 hy4 hxl hg1 hg2 hgn
            go_wp2_with fail
            go_roundg (la - (j + 1))
            case measure => omega
            case rel => exact ⟨j + 1, by omega, by go_num, HG2, HO2⟩
        · have t1 : ¬ ((j : Int) < la) := by omega
          clear hgn
          go_wp2_with fail
          clear d0 d1 d2
          rw [rounds_succ]
          obtain ⟨d0, d1, d2⟩ : _ ∧ _ ∧ _ := ⟨HG.out.c 0 (by simp), HG.out.c 1 (by simp), HG.out.c 2 (by simp)⟩
          simp only [List.getElem_cons_zero, List.getElem_cons_succ] at d0 d1 d2
          go_wp2_with fail
          clear d0 d1 d2
          go_loopg [5] ln (fun kk v5 wr => ∃ j : Nat, j + kk = ln ∧ v5 = .int .i64 j ∧ Hid (Cel wr G [.slice aa la ac, .slice na ln nc, .slice ra lr rc]) ∧ Hid (Ov w wr B N qa aa na ra lq la ln lr))
          case atStart => exact ⟨0, by omega, rfl, HG, HO⟩
          case round =>
            clear HG HO
            obtain ⟨j, hj, rfl, HG, HO⟩ := hrel
            have hl := HL.out
            have hgn := HGN.out
            obtain ⟨d0, d1, d2⟩ : _ ∧ _ ∧ _ := ⟨HG.out.c 0 (by simp), HG.out.c 1 (by simp), HG.out.c 2 (by simp)⟩
            simp only [List.getElem_cons_zero, List.getElem_cons_succ] at d0 d1 d2
            by_cases hj2 : j < ln
            · rcases HO.out.n with ⟨_, h0⟩ | ⟨g, rfl, hg1, hg2, xs, hxl, hc⟩
              · omega
              · have e0 := hc.c (j * 5) (by omega)
                have e1 := hc.c (j * 5 + 1) (by omega)
                have e2 := hc.c (j * 5 + 2) (by omega)
                have e3 := hc.c (j * 5 + 3) (by omega)
                have e4 := hc.c (j * 5 + 4) (by omega)
                obtain ⟨y0, hy0⟩ : ∃ y, xs[j * 5]'(by omega) = y := ⟨_, rfl⟩
                obtain ⟨y1, hy1⟩ : ∃ y, xs[j * 5 + 1]'(by omega) = y := ⟨_, rfl⟩
                obtain ⟨y2, hy2⟩ : ∃ y, xs[j * 5 + 2]'(by omega) = y := ⟨_, rfl⟩
                obtain ⟨y3, hy3⟩ : ∃ y, xs[j * 5 + 3]'(by omega) = y := ⟨_, rfl⟩
                obtain ⟨y4, hy4⟩ : ∃ y, xs[j * 5 + 4]'(by omega) = y := ⟨_, rfl⟩
                rw [hy0] at e0
                rw [hy1] at e1
                rw [hy2] at e2
                rw [hy3] at e3
                rw [hy4] at e4
                have fz := hc.fz
                have HG2 := Lib.hid (((((HG.out.other (a := ⟨g, j * 5, none⟩) (by show g ≠ G; omega) (.string ⟨#[]⟩)).other (a := ⟨g, j * 5 + 1, none⟩) (by show g ≠ G; omega) (.int .i64 9)).other (a := ⟨g, j * 5 + 2, none⟩) (by show g ≠ G; omega) (.int .i64 0)).other (a := ⟨g, j * 5 + 3, none⟩) (by show g ≠ G; omega) (.int .i64 0)).other (a := ⟨g, j * 5 + 4, none⟩) (by show g ≠ G; omega) (.string ⟨#[]⟩))
                have HO2 := Lib.hid (((((HO.out.set hg1 (j * 5) (.string ⟨#[]⟩)).set hg1 (j * 5 + 1) (.int .i64 9)).set hg1 (j * 5 + 2) (.int .i64 0)).set hg1 (j * 5 + 3) (.int .i64 0)).set hg1 (j * 5 + 4) (.string ⟨#[]⟩))
                have t1 : (j : Int) < ln := by omega
                clear hc HG HO hy0 hy1 hy2 hy3 hy4 hxl hg1 hg2 hgn
                go_wp2_with fail
                go_roundg (ln - (j + 1))
                case measure => omega
                case rel => exact ⟨j + 1, by omega, by go_num, HG2, HO2⟩
            · have t1 : ¬ ((j : Int) < ln) := by omega
              clear hgn
              go_wp2_with fail
              clear d0 d1 d2
              rw [rounds_succ]
              obtain ⟨d0, d1, d2⟩ : _ ∧ _ ∧ _ := ⟨HG.out.c 0 (by simp), HG.out.c 1 (by simp), HG.out.c 2 (by simp)⟩
              simp only [List.getElem_cons_zero, List.getElem_cons_succ] at d0 d1 d2
              go_wp2_with fail
              clear d0 d1 d2
              go_loopg [5] lr (fun kk v5 wr => ∃ j : Nat, j + kk = lr ∧ v5 = .int .i64 j ∧ Hid (Cel wr G [.slice aa la ac, .slice na ln nc, .slice ra lr rc]) ∧ Hid (Ov w wr B N qa aa na ra lq la ln lr))
              case atStart => exact ⟨0, by omega, rfl, HG, HO⟩
              case round =>
                clear HG HO
                obtain ⟨j, hj, rfl, HG, HO⟩ := hrel
                have hl := HL.out
                have hgn := HGN.out
                obtain ⟨d0, d1, d2⟩ : _ ∧ _ ∧ _ := ⟨HG.out.c 0 (by simp), HG.out.c 1 (by simp), HG.out.c 2 (by simp)⟩
                simp only [List.getElem_cons_zero, List.getElem_cons_succ] at d0 d1 d2
                by_cases hj2 : j < lr
                · rcases HO.out.r with ⟨_, h0⟩ | ⟨g, rfl, hg1, hg2, xs, hxl, hc⟩
                  · omega
                  · have e0 := hc.c (j * 5) (by omega)
                    have e1 := hc.c (j * 5 + 1) (by omega)
                    have e2 := hc.c (j * 5 + 2) (by omega)
                    have e3 := hc.c (j * 5 + 3) (by omega)
                    have e4 := hc.c (j * 5 + 4) (by omega)
                    obtain ⟨y0, hy0⟩ : ∃ y, xs[j * 5]'(by omega) = y := ⟨_, rfl⟩
                    obtain ⟨y1, hy1⟩ : ∃ y, xs[j * 5 + 1]'(by omega) = y := ⟨_, rfl⟩
                    obtain ⟨y2, hy2⟩ : ∃ y, xs[j * 5 + 2]'(by omega) = y := ⟨_, rfl⟩
                    obtain ⟨y3, hy3⟩ : ∃ y, xs[j * 5 + 3]'(by omega) = y := ⟨_, rfl⟩
                    obtain ⟨y4, hy4⟩ : ∃ y, xs[j * 5 + 4]'(by omega) = y := ⟨_, rfl⟩
                    rw [hy0] at e0
                    rw [hy1] at e1
                    rw [hy2] at e2
                    rw [hy3] at e3
                    rw [hy4] at e4
                    have fz := hc.fz
                    have HG2 := Lib.hid (((((HG.out.other (a := ⟨g, j * 5, none⟩) (by show g ≠ G; omega) (.string ⟨#[]⟩)).other (a := ⟨g, j * 5 + 1, none⟩) (by show g ≠ G; omega) (.int .i64 9)).other (a := ⟨g, j * 5 + 2, none⟩) (by show g ≠ G; omega) (.int .i64 0)).other (a := ⟨g, j * 5 + 3, none⟩) (by show g ≠ G; omega) (.int .i64 0)).other (a := ⟨g, j * 5 + 4, none⟩) (by show g ≠ G; omega) (.string ⟨#[]⟩))
                    have HO2 := Lib.hid (((((HO.out.set hg1 (j * 5) (.string ⟨#[]⟩)).set hg1 (j * 5 + 1) (.int .i64 9)).set hg1 (j * 5 + 2) (.int .i64 0)).set hg1 (j * 5 + 3) (.int .i64 0)).set hg1 (j * 5 + 4) (.string ⟨#[]⟩))
                    have t1 : (j : Int) < lr := by omega
                    clear hc HG HO hy0 hy1 hy2 hy3 hy4 hxl hg1 hg2 hgn
                    go_wp2_with fail
                    go_roundg (lr - (j + 1))
                    case measure => omega
                    case rel => exact ⟨j + 1, by omega, by go_num, HG2, HO2⟩
                · have t1 : ¬ ((j : Int) < lr) := by omega
                  clear hgn
                  go_wp2_with fail
                  clear d0 d1 d2
                  rw [rounds_succ]
                  go_wp2_with fail
                  go_end0
                  exact ⟨rfl, HO.out.bel⟩
end Go.Proofs.Ytcjgbholgbjejaa
