/-
  A pointer to a list of a message: how many entries there are, why one may not be, its bytes.
-/
import Derived.Test.YtdikgjbpjdnodaaGreatU14
import Derived.Test.YtdikgjbpjdnodaaGreatU13
namespace Go.Proofs.YtdikgjbpjdnodaaGreat
open Go.RowKit Go.Shelf
set_option linter.unusedVariables false
set_option linter.unusedSimpArgs false
set_option maxRecDepth 100000

theorem mbound_yes (n : Int) (h : 0 ≤ n ∧ n ≤ 65535) (w : World) : Calls Tryz.prog 44 #[.int .i64 n] w fun e w' => e = .returned (.bool true) ∧ w = w' := by
  obtain ⟨h0, h1⟩ := h
  go_enter Tryz.func44, Tryz.ntmps44
  go_wp2
  go_ret
  exact ⟨rfl, rfl⟩

theorem mbound_no (n : Int) (h : n < 0 ∨ 65535 < n) (w : World) : Calls Tryz.prog 44 #[.int .i64 n] w fun e w' => e = .returned (.bool false) ∧ w = w' := by
  by_cases h0 : 0 ≤ n
  · have h1 : ¬ n ≤ 65535 := by omega
    go_enter Tryz.func44, Tryz.ntmps44
    go_wp2
    go_ret
    exact ⟨rfl, rfl⟩
  · go_enter Tryz.func44, Tryz.ntmps44
    go_wp2
    go_ret
    exact ⟨rfl, rfl⟩

/-- bounded, whatever the number. -/
theorem mbound_any (n : Int) (w : World) : Calls Tryz.prog 44 #[.int .i64 n] w fun e w' => e = .returned (.bool (decide (0 ≤ n ∧ n ≤ 65535))) ∧ w = w' := by
  by_cases h : 0 ≤ n ∧ n ≤ 65535
  · rw [decide_eq_true h]; exact mbound_yes n h w
  · rw [decide_eq_false h]; exact mbound_no n (by omega) w

theorem countQ_any {w : World} {M o hi : Nat} {v : Value} {l : List Qn} (hc : w.cell? ⟨M, o, none⟩ = some v) (hv : SQ w hi v l) :
    Calls Tryz.prog 92 #[.agg #[.pointer (some ⟨M, o, none⟩)]] w (Tells w (.int .i64 l.length)) := by
  obtain ⟨a, c, rfl⟩ := Lst.shape hv
  have hb := (Below.refl w.heap.size w).alloc (Nat.le_refl _) (.cells #[.pointer (some ⟨M, o, none⟩)] 94)
  have c0 := (hb.cell (p := ⟨M, o, none⟩) (World.block_lt_of_cell? w _ hc)).trans hc
  have HB := Lib.hid hb
  clear hb hc hv
  go_enter Tryz.func92, Tryz.ntmps92
  go_wp2_with fail
  go_ret
  exact ⟨rfl, HB.out⟩

theorem countR_any {w : World} {M o hi : Nat} {v : Value} {l : List Rc} (hc : w.cell? ⟨M, o, none⟩ = some v) (hv : SR w hi v l) :
    Calls Tryz.prog 125 #[.agg #[.pointer (some ⟨M, o, none⟩)]] w (Tells w (.int .i64 l.length)) := by
  obtain ⟨a, c, rfl⟩ := Lst.shape hv
  have hb := (Below.refl w.heap.size w).alloc (Nat.le_refl _) (.cells #[.pointer (some ⟨M, o, none⟩)] 97)
  have c0 := (hb.cell (p := ⟨M, o, none⟩) (World.block_lt_of_cell? w _ hc)).trans hc
  have HB := Lib.hid hb
  clear hb hc hv
  go_enter Tryz.func125, Tryz.ntmps125
  go_wp2_with fail
  go_ret
  exact ⟨rfl, HB.out⟩

set_option maxHeartbeats 2000000 in
theorem checkR_any {w : World} {M o hi : Nat} {v : Value} {l : List Rc} (hc : w.cell? ⟨M, o, none⟩ = some v) (hv : SR w hi v l) (hhi : hi ≤ w.heap.size) (j : Nat) (hj : j < l.length) (hn : l[j].n.length ≤ 1000000) (hd : l[j].d.length ≤ 1000000) :
    Calls Tryz.prog 124 #[.agg #[.pointer (some ⟨M, o, none⟩)], .int .i64 j] w (Tells w (.int .i64 (It.r l[j]).err)) := by
  obtain ⟨b, off, c, rfl, hb, hat⟩ := hv.at_ j hj
  have hlen := Lst.len hv
  have hbl := (Below.refl w.heap.size w).alloc (Nat.le_refl _) (.cells #[.pointer (some ⟨M, o, none⟩)] 97)
  have c0 := (hbl.cell (p := ⟨M, o, none⟩) (World.block_lt_of_cell? w _ hc)).trans hc
  have hat2 := hat.keep fun o => hbl.cell (p := ⟨b, o, none⟩) (Nat.lt_of_lt_of_le hb hhi)
  obtain ⟨d0, d1, d2, d3, d4⟩ := hat2
  have HB := Lib.hid hbl
  have HC := Lib.hid (fun wx => checkC_any l[j].n l[j].t l[j].c l[j].l l[j].d hn hd wx)
  have e : (It.r l[j]).err = chkC ⟨l[j].n, l[j].t, l[j].c, l[j].l, l[j].d⟩ := rfl
  rw [e]
  obtain ⟨E, hE⟩ : ∃ E, chkC ⟨l[j].n, l[j].t, l[j].c, l[j].l, l[j].d⟩ = E := ⟨_, rfl⟩
  rw [hE] at HC ⊢
  obtain ⟨x, hx⟩ : ∃ x, l[j] = x := ⟨_, rfl⟩
  rw [hx] at d0 d1 d2 d3 d4 HC
  clear hbl hc hv hat hE hx e hn hd
  go_enter Tryz.func124, Tryz.ntmps124
  go_wp2_with fail
  refine (tell_on HB (HC.out _)).mono ?_; rintro e w1 ⟨rfl, HB2⟩
  go_wp2_with fail
  go_ret
  exact ⟨rfl, HB2.out⟩

theorem mask_eq {n : List UInt8} {t c : Int} : askE n t c = if chk n ≠ 0 then chk n else if decide (0 ≤ t ∧ t ≤ 65535) = true ∧ decide (0 ≤ c ∧ c ≤ 65535) = true then 0 else 5 := by
  unfold askE
  split
  · rfl
  · simp only [decide_eq_true_eq]
    split <;> split <;> first | rfl | omega

set_option maxHeartbeats 4000000 in
theorem checkQ_any {w : World} {M o hi : Nat} {v : Value} {l : List Qn} (hc : w.cell? ⟨M, o, none⟩ = some v) (hv : SQ w hi v l) (hhi : hi ≤ w.heap.size) (j : Nat) (hj : j < l.length) (hn : l[j].n.length ≤ 1000000) :
    Calls Tryz.prog 91 #[.agg #[.pointer (some ⟨M, o, none⟩)], .int .i64 j] w (Tells w (.int .i64 (It.q l[j]).err)) := by
  obtain ⟨b, off, c, rfl, hb, hat⟩ := hv.at_ j hj
  have hlen := Lst.len hv
  have hbl := (Below.refl w.heap.size w).alloc (Nat.le_refl _) (.cells #[.pointer (some ⟨M, o, none⟩)] 94)
  have c0 := (hbl.cell (p := ⟨M, o, none⟩) (World.block_lt_of_cell? w _ hc)).trans hc
  have hat2 := hat.keep fun o => hbl.cell (p := ⟨b, o, none⟩) (Nat.lt_of_lt_of_le hb hhi)
  obtain ⟨d0, d1, d2⟩ := hat2
  obtain ⟨g, hg⟩ : ∃ g, w.heap.size = g := ⟨_, rfl⟩
  obtain ⟨W, hW⟩ : ∃ W, w.alloc (.cells #[.pointer (some ⟨M, o, none⟩)] 94) = W := ⟨_, rfl⟩
  have hWs : W.heap.size = g + 1 := by rw [← hW, World.size_alloc, hg]
  have k0 : W.cell? ⟨g, 0, none⟩ = some (.pointer (some ⟨M, o, none⟩)) := by rw [← hW, ← hg]; simp [go_sem]
  have HB := Lib.hid (bel_alloc hbl (.cells #[.string (bs l[j].n), .int .i64 l[j].t, .int .i64 l[j].c] 56))
  have HX := Lib.hid (cel_new3 W (.string (bs l[j].n)) (.int .i64 l[j].t) (.int .i64 l[j].c) 56)
  rw [hWs] at HX
  rw [hW] at HB c0 d0 d1 d2
  have HC := Lib.hid (fun wx => check_any l[j].n (by omega) wx)
  have HBT := Lib.hid (fun wx => mbound_any l[j].t wx)
  have HBC := Lib.hid (fun wx => mbound_any l[j].c wx)
  have e : (It.q l[j]).err = askE l[j].n l[j].t l[j].c := rfl
  rw [e, mask_eq]
  obtain ⟨E, hE⟩ : ∃ E, chk l[j].n = E := ⟨_, rfl⟩
  obtain ⟨B1, hB1⟩ : ∃ x, decide (0 ≤ l[j].t ∧ l[j].t ≤ 65535) = x := ⟨_, rfl⟩
  obtain ⟨B2, hB2⟩ : ∃ x, decide (0 ≤ l[j].c ∧ l[j].c ≤ 65535) = x := ⟨_, rfl⟩
  rw [hE] at HC ⊢
  rw [hB1] at HBT ⊢
  rw [hB2] at HBC ⊢
  obtain ⟨x, hx⟩ : ∃ x, l[j] = x := ⟨_, rfl⟩
  rw [hx] at d0 d1 d2 HX HC HBT HBC HB
  obtain ⟨x0, x1, x2⟩ := x
  simp only at d0 d1 d2 HX HC HBT HBC HB
  have HX0 := HX
  clear hbl hc hv hat hE hx e hn hB1 hB2 HX0
  have fin : ∀ R : Int, (if E ≠ 0 then E else if B1 = true ∧ B2 = true then 0 else 5) = R → Calls Tryz.prog 91 #[.agg #[.pointer (some ⟨M, o, none⟩)], .int .i64 j] w (Tells w (.int .i64 R)) := by
    intro R hR
    have HR := Lib.hid hR
    clear hR
    by_cases hE0 : E = 0
    · subst hE0
      cases B1 with
      | false =>
        have HR2 := Lib.hid (show (5 : Int) = R by rw [← HR.out]; simp)
        clear HR
        go_enter Tryz.func91, Tryz.ntmps91
        go_wp2_with fail
        refine (HC.out _).mono ?_; rintro e w1 ⟨rfl, hh⟩
        have HH := Lib.hid hh
        have HB2 := Lib.hid (bel_call HB.out hh)
        clear hh
        replace HX := Lib.hid (HX.out.below (by simp) HH.out)
        have e1 : w1.cell? ⟨g + 1, 1, none⟩ = some (.int .i64 x1) := HX.out.c 1 (by simp)
        have e2 : w1.cell? ⟨g + 1, 2, none⟩ = some (.int .i64 x2) := HX.out.c 2 (by simp)
        go_wp2_with fail
        refine (HBT.out _).mono ?_; rintro e w2 ⟨rfl, rfl⟩
        go_wp2_with fail
        go_ret
        exact ⟨by rw [← HR2.out]; rfl, HB2.out⟩
      | true =>
        cases B2 with
        | false =>
          have HR2 := Lib.hid (show (5 : Int) = R by rw [← HR.out]; simp)
          clear HR
          go_enter Tryz.func91, Tryz.ntmps91
          go_wp2_with fail
          refine (HC.out _).mono ?_; rintro e w1 ⟨rfl, hh⟩
          have HH := Lib.hid hh
          have HB2 := Lib.hid (bel_call HB.out hh)
          clear hh
          replace HX := Lib.hid (HX.out.below (by simp) HH.out)
          have e1 : w1.cell? ⟨g + 1, 1, none⟩ = some (.int .i64 x1) := HX.out.c 1 (by simp)
          have e2 : w1.cell? ⟨g + 1, 2, none⟩ = some (.int .i64 x2) := HX.out.c 2 (by simp)
          go_wp2_with fail
          refine (HBT.out _).mono ?_; rintro e w2 ⟨rfl, rfl⟩
          go_wp2_with fail
          refine (HBC.out _).mono ?_; rintro e w2 ⟨rfl, rfl⟩
          go_wp2_with fail
          go_ret
          exact ⟨by rw [← HR2.out]; rfl, HB2.out⟩
        | true =>
          have HR2 := Lib.hid (show (0 : Int) = R by rw [← HR.out]; simp)
          clear HR
          go_enter Tryz.func91, Tryz.ntmps91
          go_wp2_with fail
          refine (HC.out _).mono ?_; rintro e w1 ⟨rfl, hh⟩
          have HH := Lib.hid hh
          have HB2 := Lib.hid (bel_call HB.out hh)
          clear hh
          replace HX := Lib.hid (HX.out.below (by simp) HH.out)
          have e1 : w1.cell? ⟨g + 1, 1, none⟩ = some (.int .i64 x1) := HX.out.c 1 (by simp)
          have e2 : w1.cell? ⟨g + 1, 2, none⟩ = some (.int .i64 x2) := HX.out.c 2 (by simp)
          go_wp2_with fail
          refine (HBT.out _).mono ?_; rintro e w2 ⟨rfl, rfl⟩
          go_wp2_with fail
          refine (HBC.out _).mono ?_; rintro e w2 ⟨rfl, rfl⟩
          go_wp2_with fail
          go_ret
          exact ⟨by rw [← HR2.out]; rfl, HB2.out⟩
    · have tE : (E != 0) = true := by simpa using hE0
      have HR2 := Lib.hid (show E = R by rw [← HR.out, if_pos hE0])
      clear HR
      go_enter Tryz.func91, Tryz.ntmps91
      go_wp2_with fail
      refine (HC.out _).mono ?_; rintro e w1 ⟨rfl, hh⟩
      have HH := Lib.hid hh
      have HB2 := Lib.hid (bel_call HB.out hh)
      clear hh
      replace HX := Lib.hid (HX.out.below (by simp) HH.out)
      have e1 : w1.cell? ⟨g + 1, 1, none⟩ = some (.int .i64 x1) := HX.out.c 1 (by simp)
      have e2 : w1.cell? ⟨g + 1, 2, none⟩ = some (.int .i64 x2) := HX.out.c 2 (by simp)
      go_wp2_with fail
      go_ret
      exact ⟨by rw [← HR2.out]; rfl, HB2.out⟩
  exact fin _ rfl
end Go.Proofs.YtdikgjbpjdnodaaGreat

/-
  The bytes of an entry of a list.
-/
namespace Go.Proofs.YtdikgjbpjdnodaaGreat
open Go.RowKit Go.Shelf
set_option linter.unusedVariables false
set_option linter.unusedSimpArgs false
set_option maxRecDepth 100000

set_option maxHeartbeats 4000000 in
theorem writeQ_any {w : World} {M o hi p bm e : Nat} {v : Value} {l : List Qn} {K : KK} (hc : w.cell? ⟨M, o, none⟩ = some v) (hv : SQ w hi v l) (hhi : hi ≤ w.heap.size) (h : Pk w p bm K e) (hG : GoodK K) (hK : K.length ≤ 700000) (he : e ≤ 900000) (a : Int) (j : Nat) (hj : j < l.length) (hn : l[j].n.length ≤ 1000000) :
    Calls Tryz.prog 94 #[.agg #[.pointer (some ⟨M, o, none⟩)], .pointer (some ⟨p, 0, none⟩), .int .i64 a, .int .i64 j] w (WrPost w p bm (askW a l[j].n l[j].t l[j].c K e)) := by
  obtain ⟨b, off, c, rfl, hb, hat⟩ := hv.at_ j hj
  have hlen := Lst.len hv
  obtain ⟨W, hW⟩ : ∃ W, w.alloc (.cells #[.pointer (some ⟨M, o, none⟩)] 94) = W := ⟨_, rfl⟩
  have hbl : Below w.heap.size w W := by rw [← hW]; exact (Below.refl w.heap.size w).alloc (Nat.le_refl _) _
  have c0 := (hbl.cell (p := ⟨M, o, none⟩) (World.block_lt_of_cell? w _ hc)).trans hc
  have k0 : W.cell? ⟨w.heap.size, 0, none⟩ = some (.pointer (some ⟨M, o, none⟩)) := by rw [← hW]; simp [go_sem]
  obtain ⟨d0, d1, d2⟩ := hat.keep fun o => hbl.cell (p := ⟨b, o, none⟩) (Nat.lt_of_lt_of_le hb hhi)
  have HB := Lib.hid hbl
  have HP := h.later hbl
  have HC := Lib.hid (askC_any HP hG (by omega) he a l[j].n hn l[j].t l[j].c)
  have eR : askW a l[j].n l[j].t l[j].c K e = askW a l[j].n l[j].t l[j].c K e := rfl
  rw [eR]
  obtain ⟨R, hR⟩ : ∃ R, askW a l[j].n l[j].t l[j].c K e = R := ⟨_, rfl⟩
  rw [hR] at HC ⊢
  obtain ⟨x, hx⟩ : ∃ x, l[j] = x := ⟨_, rfl⟩
  rw [hx] at d0 d1 d2 HC
  clear hbl hc hv hat hR hx eR hn HP h 
  go_enter Tryz.func94, Tryz.ntmps94
  go_wp2_with fail
  refine HC.out.mono ?_; rintro e0 w1 ⟨v1, rfl, h1, h2, h3⟩
  have HQ := Lib.hid (show WrPost w p bm R (.returned (.tuple #[v1, .int .i64 R.code])) w1 from ⟨v1, rfl, h1.mono HB.out.size, h2, (Aside.of_all HB.out).trans h3⟩)
  clear h1 h2 h3
  go_wp2_with fail
  go_ret2
  exact HQ.out

set_option maxHeartbeats 4000000 in
theorem writeR_any {w : World} {M o hi p bm e : Nat} {v : Value} {l : List Rc} {K : KK} (hc : w.cell? ⟨M, o, none⟩ = some v) (hv : SR w hi v l) (hhi : hi ≤ w.heap.size) (h : Pk w p bm K e) (hG : GoodK K) (hK : K.length ≤ 700000) (he : e ≤ 900000) (a : Int) (j : Nat) (hj : j < l.length) (hn : l[j].n.length ≤ 1000000) (hd : l[j].d.length ≤ 1000000) :
    Calls Tryz.prog 127 #[.agg #[.pointer (some ⟨M, o, none⟩)], .pointer (some ⟨p, 0, none⟩), .int .i64 a, .int .i64 j] w (WrPost w p bm (wrC a l[j] K e)) := by
  obtain ⟨b, off, c, rfl, hb, hat⟩ := hv.at_ j hj
  have hlen := Lst.len hv
  obtain ⟨W, hW⟩ : ∃ W, w.alloc (.cells #[.pointer (some ⟨M, o, none⟩)] 97) = W := ⟨_, rfl⟩
  have hbl : Below w.heap.size w W := by rw [← hW]; exact (Below.refl w.heap.size w).alloc (Nat.le_refl _) _
  have c0 := (hbl.cell (p := ⟨M, o, none⟩) (World.block_lt_of_cell? w _ hc)).trans hc
  have k0 : W.cell? ⟨w.heap.size, 0, none⟩ = some (.pointer (some ⟨M, o, none⟩)) := by rw [← hW]; simp [go_sem]
  obtain ⟨d0, d1, d2, d3, d4⟩ := hat.keep fun o => hbl.cell (p := ⟨b, o, none⟩) (Nat.lt_of_lt_of_le hb hhi)
  have HB := Lib.hid hbl
  have HP := h.later hbl
  have HC := Lib.hid (writeC_any HP hG (by omega) he a l[j].n l[j].t l[j].c l[j].l l[j].d hn hd)
  have eR : wrC a l[j] K e = wrC a ⟨l[j].n, l[j].t, l[j].c, l[j].l, l[j].d⟩ K e := rfl
  rw [eR]
  obtain ⟨R, hR⟩ : ∃ R, wrC a ⟨l[j].n, l[j].t, l[j].c, l[j].l, l[j].d⟩ K e = R := ⟨_, rfl⟩
  rw [hR] at HC ⊢
  obtain ⟨x, hx⟩ : ∃ x, l[j] = x := ⟨_, rfl⟩
  rw [hx] at d0 d1 d2 d3 d4 HC
  clear hbl hc hv hat hR hx eR hn HP h hd
  go_enter Tryz.func127, Tryz.ntmps127
  go_wp2_with fail
  refine HC.out.mono ?_; rintro e0 w1 ⟨v1, rfl, h1, h2, h3⟩
  have HQ := Lib.hid (show WrPost w p bm R (.returned (.tuple #[v1, .int .i64 R.code])) w1 from ⟨v1, rfl, h1.mono HB.out.size, h2, (Aside.of_all HB.out).trans h3⟩)
  clear h1 h2 h3
  go_wp2_with fail
  go_ret2
  exact HQ.out

end Go.Proofs.YtdikgjbpjdnodaaGreat

/-
  The pointers to the lists of a message.
-/
namespace Go.Proofs.YtdikgjbpjdnodaaGreat
open Go.RowKit Go.Shelf
set_option linter.unusedVariables false
set_option linter.unusedSimpArgs false
set_option maxRecDepth 100000

/-- A pointer to the questions of the message in block M. -/
def lq (M : Nat) : Value := .iface 94 (.agg #[.pointer (some ⟨M, 2, none⟩)])
/-- A pointer to one of its lists of records. -/
def lr (M o : Nat) : Value := .iface 97 (.agg #[.pointer (some ⟨M, o, none⟩)])
/-- All of them. -/
def lall (M : Nat) : Array Value := #[lq M, lr M 3, lr M 4, lr M 5]

theorem cel_new4 (w : World) (a b c d : Value) (T : TypeId) : Cel (w.alloc (.cells #[a, b, c, d] T)) w.heap.size [a, b, c, d] := ⟨fun j hj => by
    match j, hj with
    | 0, _ => simp [go_sem]
    | 1, _ => simp [go_sem]
    | 2, _ => simp [go_sem]
    | 3, _ => simp [go_sem], fun j => by simp [go_sem]⟩

set_option maxHeartbeats 4000000 in
theorem lists_any (M : Nat) (w : World) (hM : M < w.heap.size) : Calls Tryz.prog 38 #[.pointer (some ⟨M, 0, none⟩)] w (Tells w (.agg (lall M))) := by
  obtain ⟨W, hW⟩ : ∃ W, w.alloc (.cells #[.nilIface, .nilIface, .nilIface, .nilIface] 60) = W := ⟨_, rfl⟩
  have hbl : Below w.heap.size w W := by rw [← hW]; exact (Below.refl w.heap.size w).alloc (Nat.le_refl _) _
  have HB := Lib.hid hbl
  obtain ⟨g, hg⟩ : ∃ g, w.heap.size = g := ⟨_, rfl⟩
  have hx : Cel W g [.nilIface, .nilIface, .nilIface, .nilIface] := by rw [← hW, ← hg]; exact cel_new4 w _ _ _ _ _
  have HX := Lib.hid hx
  have c0 : W.cell? ⟨g, 0, none⟩ = some .nilIface := hx.c 0 (by simp)
  have c1 : W.cell? ⟨g, 1, none⟩ = some .nilIface := hx.c 1 (by simp)
  have c2 : W.cell? ⟨g, 2, none⟩ = some .nilIface := hx.c 2 (by simp)
  have c3 : W.cell? ⟨g, 3, none⟩ = some .nilIface := hx.c 3 (by simp)
  have fz : ∀ j, W.frozen? ⟨g, j, none⟩ = false := hx.fz
  clear hx
  clear hbl
  go_enter Tryz.func38, Tryz.ntmps38
  go_wp2_with fail
  refine wp_region_held_drew (S := (fun wx => True)) (by kernel_rfl) trivial (fun hHeld => ?_)
  refine wpAnyH_take (i := 0) (oi := { dst := some 3, op := Op.move (Operand.tmp 0), type := 62, pos := "list.go:32", after := #[], guard := none }) (v := ?_) rfl (by kernel_rfl) (by kernel_rfl) (by kernel_rfl) (fun _ _ _ h => h) (Or.inl ⟨by rfl, ?_⟩) (by assumption) ?_
  rotate_left 1
  · intro w hSw; (try dsimp only at hSw); go_simp; try (with_reducible rfl)
  try simp only [Act.put, List.setIfInBounds_toArray, List.set_cons_zero, List.set_cons_succ]
  refine wpAnyH_take (i := 1) (oi := { dst := some 4, op := Op.nilCheck (Operand.tmp 3), type := 0, pos := "list.go:32", after := #[{ on := 0, ground := Ground.data }], guard := none }) (v := ?_) rfl (by kernel_rfl) (by kernel_rfl) (by kernel_rfl) (fun _ _ _ h => h) (Or.inl ⟨by rfl, ?_⟩) (by assumption) ?_
  rotate_left 1
  · intro w hSw; (try dsimp only at hSw); go_simp; try (with_reducible rfl)
  try simp only [Act.put, List.setIfInBounds_toArray, List.set_cons_zero, List.set_cons_succ]
  refine wpAnyH_take (i := 2) (oi := { dst := some 5, op := Op.fieldAddr 25 (Operand.tmp 4) 2, type := 0, pos := "list.go:32", after := #[{ on := 1, ground := Ground.data }], guard := none }) (v := ?_) rfl (by kernel_rfl) (by kernel_rfl) (by kernel_rfl) (fun _ _ _ h => h) (Or.inl ⟨by rfl, ?_⟩) (by assumption) ?_
  rotate_left 1
  · intro w hSw; (try dsimp only at hSw); go_simp; try (with_reducible rfl)
  try simp only [Act.put, List.setIfInBounds_toArray, List.set_cons_zero, List.set_cons_succ]
  refine wpAnyH_take (i := 3) (oi := { dst := some 6, op := Op.build 94 #[(0, Operand.tmp 5)], type := 94, pos := "list.go:32", after := #[{ on := 2, ground := Ground.data }], guard := none }) (v := ?_) rfl (by kernel_rfl) (by kernel_rfl) (by kernel_rfl) (fun _ _ _ h => h) (Or.inl ⟨by rfl, ?_⟩) (by assumption) ?_
  rotate_left 1
  · intro w hSw; (try dsimp only at hSw); go_simp; try (with_reducible rfl)
  try simp only [Act.put, List.setIfInBounds_toArray, List.set_cons_zero, List.set_cons_succ]
  refine wpAnyH_take (i := 4) (oi := { dst := some 7, op := Op.makeInterface 94 (Operand.tmp 6), type := 59, pos := "list.go:32", after := #[{ on := 3, ground := Ground.data }], guard := none }) (v := ?_) rfl (by kernel_rfl) (by kernel_rfl) (by kernel_rfl) (fun _ _ _ h => h) (Or.inl ⟨by rfl, ?_⟩) (by assumption) ?_
  rotate_left 1
  · intro w hSw; (try dsimp only at hSw); go_simp; try (with_reducible rfl)
  try simp only [Act.put, List.setIfInBounds_toArray, List.set_cons_zero, List.set_cons_succ]
  refine wpAnyH_take (i := 5) (oi := { dst := some 8, op := Op.move (Operand.tmp 0), type := 62, pos := "list.go:32", after := #[], guard := none }) (v := ?_) rfl (by kernel_rfl) (by kernel_rfl) (by kernel_rfl) (fun _ _ _ h => h) (Or.inl ⟨by rfl, ?_⟩) (by assumption) ?_
  rotate_left 1
  · intro w hSw; (try dsimp only at hSw); go_simp; try (with_reducible rfl)
  try simp only [Act.put, List.setIfInBounds_toArray, List.set_cons_zero, List.set_cons_succ]
  refine wpAnyH_take (i := 6) (oi := { dst := some 9, op := Op.nilCheck (Operand.tmp 8), type := 0, pos := "list.go:32", after := #[{ on := 5, ground := Ground.data }], guard := none }) (v := ?_) rfl (by kernel_rfl) (by kernel_rfl) (by kernel_rfl) (fun _ _ _ h => h) (Or.inl ⟨by rfl, ?_⟩) (by assumption) ?_
  rotate_left 1
  · intro w hSw; (try dsimp only at hSw); go_simp; try (with_reducible rfl)
  try simp only [Act.put, List.setIfInBounds_toArray, List.set_cons_zero, List.set_cons_succ]
  refine wpAnyH_take (i := 7) (oi := { dst := some 10, op := Op.fieldAddr 25 (Operand.tmp 9) 3, type := 0, pos := "list.go:32", after := #[{ on := 6, ground := Ground.data }], guard := none }) (v := ?_) rfl (by kernel_rfl) (by kernel_rfl) (by kernel_rfl) (fun _ _ _ h => h) (Or.inl ⟨by rfl, ?_⟩) (by assumption) ?_
  rotate_left 1
  · intro w hSw; (try dsimp only at hSw); go_simp; try (with_reducible rfl)
  try simp only [Act.put, List.setIfInBounds_toArray, List.set_cons_zero, List.set_cons_succ]
  refine wpAnyH_take (i := 8) (oi := { dst := some 11, op := Op.build 97 #[(0, Operand.tmp 10)], type := 97, pos := "list.go:32", after := #[{ on := 7, ground := Ground.data }], guard := none }) (v := ?_) rfl (by kernel_rfl) (by kernel_rfl) (by kernel_rfl) (fun _ _ _ h => h) (Or.inl ⟨by rfl, ?_⟩) (by assumption) ?_
  rotate_left 1
  · intro w hSw; (try dsimp only at hSw); go_simp; try (with_reducible rfl)
  try simp only [Act.put, List.setIfInBounds_toArray, List.set_cons_zero, List.set_cons_succ]
  refine wpAnyH_take (i := 9) (oi := { dst := some 12, op := Op.makeInterface 97 (Operand.tmp 11), type := 59, pos := "list.go:32", after := #[{ on := 8, ground := Ground.data }], guard := none }) (v := ?_) rfl (by kernel_rfl) (by kernel_rfl) (by kernel_rfl) (fun _ _ _ h => h) (Or.inl ⟨by rfl, ?_⟩) (by assumption) ?_
  rotate_left 1
  · intro w hSw; (try dsimp only at hSw); go_simp; try (with_reducible rfl)
  try simp only [Act.put, List.setIfInBounds_toArray, List.set_cons_zero, List.set_cons_succ]
  refine wpAnyH_take (i := 10) (oi := { dst := some 13, op := Op.move (Operand.tmp 0), type := 62, pos := "list.go:32", after := #[], guard := none }) (v := ?_) rfl (by kernel_rfl) (by kernel_rfl) (by kernel_rfl) (fun _ _ _ h => h) (Or.inl ⟨by rfl, ?_⟩) (by assumption) ?_
  rotate_left 1
  · intro w hSw; (try dsimp only at hSw); go_simp; try (with_reducible rfl)
  try simp only [Act.put, List.setIfInBounds_toArray, List.set_cons_zero, List.set_cons_succ]
  refine wpAnyH_take (i := 11) (oi := { dst := some 14, op := Op.nilCheck (Operand.tmp 13), type := 0, pos := "list.go:32", after := #[{ on := 10, ground := Ground.data }], guard := none }) (v := ?_) rfl (by kernel_rfl) (by kernel_rfl) (by kernel_rfl) (fun _ _ _ h => h) (Or.inl ⟨by rfl, ?_⟩) (by assumption) ?_
  rotate_left 1
  · intro w hSw; (try dsimp only at hSw); go_simp; try (with_reducible rfl)
  try simp only [Act.put, List.setIfInBounds_toArray, List.set_cons_zero, List.set_cons_succ]
  refine wpAnyH_take (i := 12) (oi := { dst := some 15, op := Op.fieldAddr 25 (Operand.tmp 14) 4, type := 0, pos := "list.go:32", after := #[{ on := 11, ground := Ground.data }], guard := none }) (v := ?_) rfl (by kernel_rfl) (by kernel_rfl) (by kernel_rfl) (fun _ _ _ h => h) (Or.inl ⟨by rfl, ?_⟩) (by assumption) ?_
  rotate_left 1
  · intro w hSw; (try dsimp only at hSw); go_simp; try (with_reducible rfl)
  try simp only [Act.put, List.setIfInBounds_toArray, List.set_cons_zero, List.set_cons_succ]
  refine wpAnyH_take (i := 13) (oi := { dst := some 16, op := Op.build 97 #[(0, Operand.tmp 15)], type := 97, pos := "list.go:32", after := #[{ on := 12, ground := Ground.data }], guard := none }) (v := ?_) rfl (by kernel_rfl) (by kernel_rfl) (by kernel_rfl) (fun _ _ _ h => h) (Or.inl ⟨by rfl, ?_⟩) (by assumption) ?_
  rotate_left 1
  · intro w hSw; (try dsimp only at hSw); go_simp; try (with_reducible rfl)
  try simp only [Act.put, List.setIfInBounds_toArray, List.set_cons_zero, List.set_cons_succ]
  refine wpAnyH_take (i := 14) (oi := { dst := some 17, op := Op.makeInterface 97 (Operand.tmp 16), type := 59, pos := "list.go:32", after := #[{ on := 13, ground := Ground.data }], guard := none }) (v := ?_) rfl (by kernel_rfl) (by kernel_rfl) (by kernel_rfl) (fun _ _ _ h => h) (Or.inl ⟨by rfl, ?_⟩) (by assumption) ?_
  rotate_left 1
  · intro w hSw; (try dsimp only at hSw); go_simp; try (with_reducible rfl)
  try simp only [Act.put, List.setIfInBounds_toArray, List.set_cons_zero, List.set_cons_succ]
  refine wpAnyH_take (i := 15) (oi := { dst := some 18, op := Op.move (Operand.tmp 0), type := 62, pos := "list.go:32", after := #[], guard := none }) (v := ?_) rfl (by kernel_rfl) (by kernel_rfl) (by kernel_rfl) (fun _ _ _ h => h) (Or.inl ⟨by rfl, ?_⟩) (by assumption) ?_
  rotate_left 1
  · intro w hSw; (try dsimp only at hSw); go_simp; try (with_reducible rfl)
  try simp only [Act.put, List.setIfInBounds_toArray, List.set_cons_zero, List.set_cons_succ]
  refine wpAnyH_take (i := 16) (oi := { dst := some 19, op := Op.nilCheck (Operand.tmp 18), type := 0, pos := "list.go:32", after := #[{ on := 15, ground := Ground.data }], guard := none }) (v := ?_) rfl (by kernel_rfl) (by kernel_rfl) (by kernel_rfl) (fun _ _ _ h => h) (Or.inl ⟨by rfl, ?_⟩) (by assumption) ?_
  rotate_left 1
  · intro w hSw; (try dsimp only at hSw); go_simp; try (with_reducible rfl)
  try simp only [Act.put, List.setIfInBounds_toArray, List.set_cons_zero, List.set_cons_succ]
  refine wpAnyH_take (i := 17) (oi := { dst := some 20, op := Op.fieldAddr 25 (Operand.tmp 19) 5, type := 0, pos := "list.go:32", after := #[{ on := 16, ground := Ground.data }], guard := none }) (v := ?_) rfl (by kernel_rfl) (by kernel_rfl) (by kernel_rfl) (fun _ _ _ h => h) (Or.inl ⟨by rfl, ?_⟩) (by assumption) ?_
  rotate_left 1
  · intro w hSw; (try dsimp only at hSw); go_simp; try (with_reducible rfl)
  try simp only [Act.put, List.setIfInBounds_toArray, List.set_cons_zero, List.set_cons_succ]
  refine wpAnyH_take (i := 18) (oi := { dst := some 21, op := Op.build 97 #[(0, Operand.tmp 20)], type := 97, pos := "list.go:32", after := #[{ on := 17, ground := Ground.data }], guard := none }) (v := ?_) rfl (by kernel_rfl) (by kernel_rfl) (by kernel_rfl) (fun _ _ _ h => h) (Or.inl ⟨by rfl, ?_⟩) (by assumption) ?_
  rotate_left 1
  · intro w hSw; (try dsimp only at hSw); go_simp; try (with_reducible rfl)
  try simp only [Act.put, List.setIfInBounds_toArray, List.set_cons_zero, List.set_cons_succ]
  refine wpAnyH_take (i := 19) (oi := { dst := some 22, op := Op.makeInterface 97 (Operand.tmp 21), type := 59, pos := "list.go:32", after := #[{ on := 18, ground := Ground.data }], guard := none }) (v := ?_) rfl (by kernel_rfl) (by kernel_rfl) (by kernel_rfl) (fun _ _ _ h => h) (Or.inl ⟨by rfl, ?_⟩) (by assumption) ?_
  rotate_left 1
  · intro w hSw; (try dsimp only at hSw); go_simp; try (with_reducible rfl)
  try simp only [Act.put, List.setIfInBounds_toArray, List.set_cons_zero, List.set_cons_succ]
  refine wpAnyH_take (i := 20) (oi := { dst := some 23, op := Op.build 60 #[(0, Operand.tmp 7), (1, Operand.tmp 12), (2, Operand.tmp 17), (3, Operand.tmp 22)], type := 60, pos := "list.go:32", after := #[{ on := 4, ground := Ground.data }, { on := 9, ground := Ground.data }, { on := 14, ground := Ground.data }, { on := 19, ground := Ground.data }], guard := none }) (v := ?_) rfl (by kernel_rfl) (by kernel_rfl) (by kernel_rfl) (fun _ _ _ h => h) (Or.inl ⟨by rfl, ?_⟩) (by assumption) ?_
  rotate_left 1
  · intro w hSw; (try dsimp only at hSw); go_simp; try (with_reducible rfl)
  try simp only [Act.put, List.setIfInBounds_toArray, List.set_cons_zero, List.set_cons_succ]
  refine wpAnyH_ready (rs := [21]) (by kernel_rfl) (by simp) ?_
  refine AllReadyH.cons (o := { dst := none, op := Op.store 60 (Operand.tmp 2) (Operand.tmp 23), type := 0, pos := "list.go:32", after := #[{ on := 20, ground := Ground.data }, { on := 0, ground := Ground.phase }, { on := 1, ground := Ground.phase }, { on := 2, ground := Ground.phase }, { on := 3, ground := Ground.phase }, { on := 4, ground := Ground.phase }, { on := 5, ground := Ground.phase }, { on := 6, ground := Ground.phase }, { on := 7, ground := Ground.phase }, { on := 8, ground := Ground.phase }, { on := 9, ground := Ground.phase }, { on := 10, ground := Ground.phase }, { on := 11, ground := Ground.phase }, { on := 12, ground := Ground.phase }, { on := 13, ground := Ground.phase }, { on := 14, ground := Ground.phase }, { on := 15, ground := Ground.phase }, { on := 16, ground := Ground.phase }, { on := 17, ground := Ground.phase }, { on := 18, ground := Ground.phase }, { on := 19, ground := Ground.phase }, { on := 20, ground := Ground.phase }], guard := none }) rfl (fun K hK => ?_) (AllReadyH.nil)
  go_simp
  refine hK.out _ _ trivial (fun hHeld => ?_)
  clear hK K
  try simp only [Act.put, List.setIfInBounds_toArray, List.set_cons_zero, List.set_cons_succ]
  refine wpAnyH_done (by kernel_rfl) ?_ _
  clear hHeld
  go_wp2_with fail
  have h4 := (((HX.out.set (o := 0) (by simp) (lq M)).set (o := 1) (by simp) (lr M 3)).set (o := 2) (by simp) (lr M 4)).set (o := 3) (by simp) (lr M 5)
  simp only [List.set_cons_zero, List.set_cons_succ] at h4
  have y0 := h4.c 0 (by simp)
  have y1 := h4.c 1 (by simp)
  have y2 := h4.c 2 (by simp)
  have y3 := h4.c 3 (by simp)
  simp only [List.getElem_cons_zero, List.getElem_cons_succ] at y0 y1 y2 y3
  clear h4 c0 c1 c2 c3 fz
  unfold lq lr at y0 y1 y2 y3
  refine bodyPost_ret (by simp [results, Tryz.results38, go_sem, y0, y1, y2, y3]; rfl) rfl ⟨rfl, ?_⟩
  rw [hg]
  have hb := HB.out
  rw [hg] at hb
  exact ((((hb.setCell (by simp) _).setCell (by simp) _).setCell (by simp) _).setCell (by simp) _).drew
end Go.Proofs.YtdikgjbpjdnodaaGreat

/-
  Why a message may not be: Check.
-/
namespace Go.Proofs.YtdikgjbpjdnodaaGreat
open Go.RowKit Go.Shelf
set_option linter.unusedVariables false
set_option linter.unusedSimpArgs false
set_option maxRecDepth 100000

theorem m_countQ (M : Nat) (w : World) : (method 313 94 (.agg #[.pointer (some ⟨M, 2, none⟩)]) "ostiary/msg.count").run Tryz.prog w = .ok (92, .agg #[.pointer (some ⟨M, 2, none⟩)]) w := by kernel_rfl
theorem m_countR (M o : Nat) (w : World) : (method 313 97 (.agg #[.pointer (some ⟨M, o, none⟩)]) "ostiary/msg.count").run Tryz.prog w = .ok (125, .agg #[.pointer (some ⟨M, o, none⟩)]) w := by kernel_rfl
theorem m_checkQ (M : Nat) (w : World) : (method 313 94 (.agg #[.pointer (some ⟨M, 2, none⟩)]) "ostiary/msg.check").run Tryz.prog w = .ok (91, .agg #[.pointer (some ⟨M, 2, none⟩)]) w := by kernel_rfl
theorem m_checkR (M o : Nat) (w : World) : (method 313 97 (.agg #[.pointer (some ⟨M, o, none⟩)]) "ostiary/msg.check").run Tryz.prog w = .ok (124, .agg #[.pointer (some ⟨M, o, none⟩)]) w := by kernel_rfl

theorem ix_l0 (M : Nat) (w : World) : (Instr.index 60 (.agg #[.iface 94 (.agg #[.pointer (some ⟨M, 2, none⟩)]), .iface 97 (.agg #[.pointer (some ⟨M, 3, none⟩)]), .iface 97 (.agg #[.pointer (some ⟨M, 4, none⟩)]), .iface 97 (.agg #[.pointer (some ⟨M, 5, none⟩)])]) (.int .i64 0)).run Tryz.prog w = .ok (.iface 94 (.agg #[.pointer (some ⟨M, 2, none⟩)])) w := by kernel_rfl
theorem ix_l1 (M : Nat) (w : World) : (Instr.index 60 (.agg #[.iface 94 (.agg #[.pointer (some ⟨M, 2, none⟩)]), .iface 97 (.agg #[.pointer (some ⟨M, 3, none⟩)]), .iface 97 (.agg #[.pointer (some ⟨M, 4, none⟩)]), .iface 97 (.agg #[.pointer (some ⟨M, 5, none⟩)])]) (.int .i64 1)).run Tryz.prog w = .ok (.iface 97 (.agg #[.pointer (some ⟨M, 3, none⟩)])) w := by kernel_rfl
theorem ix_l2 (M : Nat) (w : World) : (Instr.index 60 (.agg #[.iface 94 (.agg #[.pointer (some ⟨M, 2, none⟩)]), .iface 97 (.agg #[.pointer (some ⟨M, 3, none⟩)]), .iface 97 (.agg #[.pointer (some ⟨M, 4, none⟩)]), .iface 97 (.agg #[.pointer (some ⟨M, 5, none⟩)])]) (.int .i64 2)).run Tryz.prog w = .ok (.iface 97 (.agg #[.pointer (some ⟨M, 4, none⟩)])) w := by kernel_rfl
theorem ix_l3 (M : Nat) (w : World) : (Instr.index 60 (.agg #[.iface 94 (.agg #[.pointer (some ⟨M, 2, none⟩)]), .iface 97 (.agg #[.pointer (some ⟨M, 3, none⟩)]), .iface 97 (.agg #[.pointer (some ⟨M, 4, none⟩)]), .iface 97 (.agg #[.pointer (some ⟨M, 5, none⟩)])]) (.int .i64 3)).run Tryz.prog w = .ok (.iface 97 (.agg #[.pointer (some ⟨M, 5, none⟩)])) w := by kernel_rfl

/-- A message whose texts are not too long. -/
structure Ms.Fine (m : Ms) : Prop where
  q : ∀ x ∈ m.q, x.n.length ≤ 1000000
  an : ∀ x ∈ m.an, x.n.length ≤ 1000000 ∧ x.d.length ≤ 1000000
  ns : ∀ x ∈ m.ns, x.n.length ≤ 1000000 ∧ x.d.length ≤ 1000000
  ar : ∀ x ∈ m.ar, x.n.length ≤ 1000000 ∧ x.d.length ≤ 1000000

theorem fst0_step {α : Type} (f : α → Int) (l : List α) (rest : List Int) (j : Nat) (hj : j < l.length) : fst0 ((l.drop j).map f ++ rest) = if f l[j] ≠ 0 then f l[j] else fst0 ((l.drop (j + 1)).map f ++ rest) := by
  rw [List.drop_eq_getElem_cons hj, List.map_cons, List.cons_append, fst0]
theorem fst0_end {α : Type} (f : α → Int) (l : List α) (rest : List Int) (j : Nat) (hj : l.length ≤ j) : fst0 ((l.drop j).map f ++ rest) = fst0 rest := by
  rw [List.drop_eq_nil_of_le hj]; rfl
/-- The errors of questions, of records. -/
def eqs (l : List Qn) : List Int := l.map fun x => (It.q x).err
def ers (l : List Rc) : List Int := l.map fun x => (It.r x).err
theorem its_errs (m : Ms) : m.its.map It.err = eqs m.q ++ (ers m.an ++ (ers m.ns ++ (ers m.ar ++ []))) := by
  unfold Ms.its eqs ers
  simp only [List.map_append, List.map_map, List.append_nil]
  rfl

set_option maxHeartbeats 16000000 in
theorem checkM_any {w : World} {hi : Nat} {u : Value} {m : Ms} (h : Mg w hi u m) (h1 : hi ≤ w.heap.size) (hf : m.Fine) :
    Calls Tryz.prog 13 #[u] w (Tells w (.int .i64 (chkM m))) := by
  obtain ⟨q, a, n, r, rfl, k1, k2, k3, k4⟩ := h
  have HmQ := fun M w => m_countQ M w
  have HmR := fun M o w => m_countR M o w
  have HkQ := fun M w => m_checkQ M w
  have HkR := fun M o w => m_checkR M o w
  have Hx0 := fun M w => ix_l0 M w
  have Hx1 := fun M w => ix_l1 M w
  have Hx2 := fun M w => ix_l2 M w
  have Hx3 := fun M w => ix_l3 M w
  obtain ⟨i0, hi0⟩ : ∃ i, m.id = i := ⟨_, rfl⟩
  obtain ⟨i1, hi1⟩ : ∃ i, m.fl = i := ⟨_, rfl⟩
  obtain ⟨R, hR⟩ : ∃ R, chkM m = R := ⟨_, rfl⟩
  rw [hi0, hi1, hR]
  unfold chkM at hR
  rw [hi0, hi1, its_errs] at hR
  obtain ⟨M, hM⟩ : ∃ M, w.heap.size = M := ⟨_, rfl⟩
  obtain ⟨W, hW⟩ : ∃ W, w.alloc (.cells #[.int .i64 i0, .int .i64 i1, q, a, n, r] 25) = W := ⟨_, rfl⟩
  have hb : Below w.heap.size w W := by rw [← hW]; exact (Below.refl _ _).alloc (Nat.le_refl _) _
  have hx : Cel W M [.int .i64 i0, .int .i64 i1, q, a, n, r] := by rw [← hW, ← hM]; exact cel_new6 w _ _ _ _ _ _ _
  have hWs : W.heap.size = M + 1 := by rw [← hW, World.size_alloc, hM]
  have HB := Lib.hid hb
  have HX := Lib.hid hx
  have HI0 := Lib.hid (fun wx => mbound_any i0 wx)
  have HI1 := Lib.hid (fun wx => mbound_any i1 wx)
  have HL := Lib.hid (fun wx (hb : Below w.heap.size w wx) (hx : Cel wx M [.int .i64 i0, .int .i64 i1, q, a, n, r]) => lists_any M wx (hx.lt (by simp)))
  have HCQ := Lib.hid (fun wx (hb : Below w.heap.size w wx) (hx : Cel wx M [.int .i64 i0, .int .i64 i1, q, a, n, r]) => countQ_any (hx.c 2 (by simp)) (Lst.below k1 hb h1))
  have HCA := Lib.hid (fun wx (hb : Below w.heap.size w wx) (hx : Cel wx M [.int .i64 i0, .int .i64 i1, q, a, n, r]) => countR_any (hx.c 3 (by simp)) (Lst.below k2 hb h1))
  have HCN := Lib.hid (fun wx (hb : Below w.heap.size w wx) (hx : Cel wx M [.int .i64 i0, .int .i64 i1, q, a, n, r]) => countR_any (hx.c 4 (by simp)) (Lst.below k3 hb h1))
  have HCR := Lib.hid (fun wx (hb : Below w.heap.size w wx) (hx : Cel wx M [.int .i64 i0, .int .i64 i1, q, a, n, r]) => countR_any (hx.c 5 (by simp)) (Lst.below k4 hb h1))
  have HKQ := Lib.hid (fun wx (hb : Below w.heap.size w wx) (hx : Cel wx M [.int .i64 i0, .int .i64 i1, q, a, n, r]) j hj => checkQ_any (hx.c 2 (by simp)) (Lst.below k1 hb h1) (Nat.le_trans h1 hb.size) j hj (hf.q _ (List.getElem_mem hj)))
  have HKA := Lib.hid (fun wx (hb : Below w.heap.size w wx) (hx : Cel wx M [.int .i64 i0, .int .i64 i1, q, a, n, r]) j hj => checkR_any (hx.c 3 (by simp)) (Lst.below k2 hb h1) (Nat.le_trans h1 hb.size) j hj (hf.an _ (List.getElem_mem hj)).1 (hf.an _ (List.getElem_mem hj)).2)
  have HKN := Lib.hid (fun wx (hb : Below w.heap.size w wx) (hx : Cel wx M [.int .i64 i0, .int .i64 i1, q, a, n, r]) j hj => checkR_any (hx.c 4 (by simp)) (Lst.below k3 hb h1) (Nat.le_trans h1 hb.size) j hj (hf.ns _ (List.getElem_mem hj)).1 (hf.ns _ (List.getElem_mem hj)).2)
  have HKR := Lib.hid (fun wx (hb : Below w.heap.size w wx) (hx : Cel wx M [.int .i64 i0, .int .i64 i1, q, a, n, r]) j hj => checkR_any (hx.c 5 (by simp)) (Lst.below k4 hb h1) (Nat.le_trans h1 hb.size) j hj (hf.ar _ (List.getElem_mem hj)).1 (hf.ar _ (List.getElem_mem hj)).2)
  have n1 := Lst.len k1
  have n2 := Lst.len k2
  have n3 := Lst.len k3
  have n4 := Lst.len k4
  have HR := Lib.hid hR
  clear hb k1 k2 k3 k4 hR
  by_cases hi : 0 ≤ i0 ∧ i0 ≤ 65535
  · by_cases hfl : 0 ≤ i1 ∧ i1 ≤ 65535
    · rw [decide_eq_true hi] at HI0
      rw [decide_eq_true hfl] at HI1
      have c0 : W.cell? ⟨M, 0, none⟩ = some (.int .i64 i0) := hx.c 0 (by simp)
      have c1 : W.cell? ⟨M, 1, none⟩ = some (.int .i64 i1) := hx.c 1 (by simp)
      clear hx
      have hR2 := HR.out
      rw [if_neg (by omega)] at hR2
      clear HR
      go_enter Tryz.func13, Tryz.ntmps13
      go_wp2_with fail
      refine (HI0.out _).mono ?_; rintro e w1 ⟨rfl, rfl⟩
      go_wp2_with fail
      refine (HI1.out _).mono ?_; rintro e w1 ⟨rfl, rfl⟩
      go_wp2_with fail
      refine (HL.out _ HB.out HX.out).mono ?_; rintro e w1 ⟨rfl, hb⟩
      replace HX := Lib.hid (HX.out.below (by simp) hb)
      replace HB := Lib.hid (bel_call HB.out hb)
      unfold lall lq lr
      clear hb c0 c1
      have HB2 := Lib.hid (bel_alloc HB.out (.cells #[.iface 94 (.agg #[.pointer (some ⟨M, 2, none⟩)]), .iface 97 (.agg #[.pointer (some ⟨M, 3, none⟩)]), .iface 97 (.agg #[.pointer (some ⟨M, 4, none⟩)]), .iface 97 (.agg #[.pointer (some ⟨M, 5, none⟩)])] 60))
      have HX2 := Lib.hid (HX.out.below (by simp) (bel_alloc (Below.refl w1.heap.size w1) (.cells #[.iface 94 (.agg #[.pointer (some ⟨M, 2, none⟩)]), .iface 97 (.agg #[.pointer (some ⟨M, 3, none⟩)]), .iface 97 (.agg #[.pointer (some ⟨M, 4, none⟩)]), .iface 97 (.agg #[.pointer (some ⟨M, 5, none⟩)])] 60)))
      replace HB := HB2
      replace HX := HX2
      clear HB2 HX2
      have HY := Lib.hid (cel_new4 w1 (.iface 94 (.agg #[.pointer (some ⟨M, 2, none⟩)])) (.iface 97 (.agg #[.pointer (some ⟨M, 3, none⟩)])) (.iface 97 (.agg #[.pointer (some ⟨M, 4, none⟩)])) (.iface 97 (.agg #[.pointer (some ⟨M, 5, none⟩)])) 60)
      go_wp2_with fail
      refine wp_loop_rounds 5 ?_
      rw [rounds_succ]
      go_wp2_with fail
      refine (HCQ.out _ HB.out HX.out).mono ?_; rintro e w2 ⟨rfl, hb⟩
      replace HX := Lib.hid (HX.out.below (by simp) hb)
      replace HB := Lib.hid (bel_call HB.out hb)
      replace HY := Lib.hid (HY.out.below (by simp) hb)
      clear hb
      by_cases g0 : 65535 < m.q.length
      · have t1 : decide ((65535 : Int) < m.q.length) = true := by simp; omega
        rw [if_pos (by omega)] at hR2
        have HR2 := Lib.hid hR2
        clear hR2
        go_wp2_with fail
        go_ret
        exact ⟨by rw [← HR2.out]; rfl, HB.out⟩
      have t10 : decide ((65535 : Int) < m.q.length) = false := by simp; omega
      go_wp2_with fail
      rw [rounds_succ]
      go_wp2_with fail
      refine (HCA.out _ HB.out HX.out).mono ?_; rintro e w3 ⟨rfl, hb⟩
      replace HX := Lib.hid (HX.out.below (by simp) hb)
      replace HB := Lib.hid (bel_call HB.out hb)
      replace HY := Lib.hid (HY.out.below (by simp) hb)
      clear hb
      by_cases g1 : 65535 < m.an.length
      · have t1 : decide ((65535 : Int) < m.an.length) = true := by simp; omega
        rw [if_pos (by omega)] at hR2
        have HR2 := Lib.hid hR2
        clear hR2
        go_wp2_with fail
        go_ret
        exact ⟨by rw [← HR2.out]; rfl, HB.out⟩
      have t11 : decide ((65535 : Int) < m.an.length) = false := by simp; omega
      go_wp2_with fail
      rw [rounds_succ]
      go_wp2_with fail
      refine (HCN.out _ HB.out HX.out).mono ?_; rintro e w4 ⟨rfl, hb⟩
      replace HX := Lib.hid (HX.out.below (by simp) hb)
      replace HB := Lib.hid (bel_call HB.out hb)
      replace HY := Lib.hid (HY.out.below (by simp) hb)
      clear hb
      by_cases g2 : 65535 < m.ns.length
      · have t1 : decide ((65535 : Int) < m.ns.length) = true := by simp; omega
        rw [if_pos (by omega)] at hR2
        have HR2 := Lib.hid hR2
        clear hR2
        go_wp2_with fail
        go_ret
        exact ⟨by rw [← HR2.out]; rfl, HB.out⟩
      have t12 : decide ((65535 : Int) < m.ns.length) = false := by simp; omega
      go_wp2_with fail
      rw [rounds_succ]
      go_wp2_with fail
      refine (HCR.out _ HB.out HX.out).mono ?_; rintro e w5 ⟨rfl, hb⟩
      replace HX := Lib.hid (HX.out.below (by simp) hb)
      replace HB := Lib.hid (bel_call HB.out hb)
      replace HY := Lib.hid (HY.out.below (by simp) hb)
      clear hb
      by_cases g3 : 65535 < m.ar.length
      · have t1 : decide ((65535 : Int) < m.ar.length) = true := by simp; omega
        rw [if_pos (by omega)] at hR2
        have HR2 := Lib.hid hR2
        clear hR2
        go_wp2_with fail
        go_ret
        exact ⟨by rw [← HR2.out]; rfl, HB.out⟩
      have t13 : decide ((65535 : Int) < m.ar.length) = false := by simp; omega
      go_wp2_with fail
      rw [if_neg (by omega)] at hR2
      replace HR := Lib.hid hR2
      clear hR2 t10 t11 t12 t13
      have l0 := HY.out.c 0 (by simp)
      have l1 := HY.out.c 1 (by simp)
      have l2 := HY.out.c 2 (by simp)
      have l3 := HY.out.c 3 (by simp)
      simp only [List.getElem_cons_zero, List.getElem_cons_succ] at l0 l1 l2 l3
      rw [rounds_succ]
      go_wp2_with fail
      clear l0 l1 l2 l3 HY
      refine wp_loop_rounds 5 ?_
      rw [rounds_succ]
      go_wp2_with fail
      refine (HCQ.out _ HB.out HX.out).mono ?_; rintro e w6 ⟨rfl, hb⟩
      replace HX := Lib.hid (HX.out.below (by simp) hb)
      replace HB := Lib.hid (bel_call HB.out hb)
      clear hb
      go_wp2_with fail
      go_loopg [35] m.q.length (fun g v35 wr => ∃ j : Nat, j + g = m.q.length ∧ v35 = .int .i64 j ∧ Hid (fst0 ((m.q.drop j).map (fun x => (It.q x).err) ++ (ers m.an ++ (ers m.ns ++ (ers m.ar ++ [])))) = R) ∧ Hid (Below w.heap.size w wr) ∧ Hid (Cel wr M [.int .i64 i0, .int .i64 i1, q, a, n, r]))
      case atStart => exact ⟨0, by omega, rfl, HR, HB, HX⟩
      case round =>
        clear HR HB HX
        obtain ⟨j, hj, rfl, HR, HB, HX⟩ := hrel
        by_cases hlt : j < m.q.length
        · have HK := Lib.hid (HKQ.out wr HB.out HX.out j hlt)
          have hst := HR.out
          rw [fst0_step _ _ _ _ hlt] at hst
          have hst : (if (It.q m.q[j]).err ≠ 0 then (It.q m.q[j]).err else fst0 ((m.q.drop (j + 1)).map (fun x => (It.q x).err) ++ (ers m.an ++ (ers m.ns ++ (ers m.ar ++ []))))) = R := hst
          obtain ⟨E, hE⟩ : ∃ E, (It.q m.q[j]).err = E := ⟨_, rfl⟩
          rw [hE] at HK hst
          clear hE
          by_cases hE0 : E = 0
          · subst hE0
            rw [if_neg (by simp)] at hst
            have HR2 := Lib.hid hst
            clear hst HR
            go_wp2_with fail
            refine HK.out.mono ?_; rintro e wx ⟨rfl, hb⟩
            replace HX := Lib.hid (HX.out.below (by simp) hb)
            replace HB := Lib.hid (bel_call HB.out hb)
            clear hb HK
            go_wp2_with fail
            go_roundg (m.q.length - (j + 1))
            case measure => omega
            case rel => exact ⟨j + 1, by omega, by go_num, HR2, HB, HX⟩
          · have tE : (E != 0) = true := by simpa using hE0
            rw [if_pos hE0] at hst
            have HR2 := Lib.hid hst
            clear hst HR
            go_wp2_with fail
            refine HK.out.mono ?_; rintro e wx ⟨rfl, hb⟩
            replace HB := Lib.hid (bel_call HB.out hb)
            clear hb HK
            go_wp2_with fail
            go_ret
            exact ⟨by rw [← HR2.out]; rfl, HB.out⟩
        have t1 : ¬ ((j : Int) < m.q.length) := by omega
        have hst := HR.out
        rw [fst0_end _ _ _ _ (by omega)] at hst
        clear HR
        have HR := Lib.hid hst
        clear hst
        go_wp2_with fail
        rw [rounds_succ]
        go_wp2_with fail
        refine (HCA.out _ HB.out HX.out).mono ?_; rintro e w7 ⟨rfl, hb⟩
        replace HX := Lib.hid (HX.out.below (by simp) hb)
        replace HB := Lib.hid (bel_call HB.out hb)
        clear hb
        go_wp2_with fail
        go_loopg [35] m.an.length (fun g v35 wr => ∃ j : Nat, j + g = m.an.length ∧ v35 = .int .i64 j ∧ Hid (fst0 ((m.an.drop j).map (fun x => (It.r x).err) ++ (ers m.ns ++ (ers m.ar ++ []))) = R) ∧ Hid (Below w.heap.size w wr) ∧ Hid (Cel wr M [.int .i64 i0, .int .i64 i1, q, a, n, r]))
        case atStart => exact ⟨0, by omega, rfl, HR, HB, HX⟩
        case round =>
          clear HR HB HX
          obtain ⟨j, hj, rfl, HR, HB, HX⟩ := hrel
          by_cases hlt : j < m.an.length
          · have HK := Lib.hid (HKA.out wr HB.out HX.out j hlt)
            have hst := HR.out
            rw [fst0_step _ _ _ _ hlt] at hst
            have hst : (if (It.r m.an[j]).err ≠ 0 then (It.r m.an[j]).err else fst0 ((m.an.drop (j + 1)).map (fun x => (It.r x).err) ++ (ers m.ns ++ (ers m.ar ++ [])))) = R := hst
            obtain ⟨E, hE⟩ : ∃ E, (It.r m.an[j]).err = E := ⟨_, rfl⟩
            rw [hE] at HK hst
            clear hE
            by_cases hE0 : E = 0
            · subst hE0
              rw [if_neg (by simp)] at hst
              have HR2 := Lib.hid hst
              clear hst HR
              go_wp2_with fail
              refine HK.out.mono ?_; rintro e wx ⟨rfl, hb⟩
              replace HX := Lib.hid (HX.out.below (by simp) hb)
              replace HB := Lib.hid (bel_call HB.out hb)
              clear hb HK
              go_wp2_with fail
              go_roundg (m.an.length - (j + 1))
              case measure => omega
              case rel => exact ⟨j + 1, by omega, by go_num, HR2, HB, HX⟩
            · have tE : (E != 0) = true := by simpa using hE0
              rw [if_pos hE0] at hst
              have HR2 := Lib.hid hst
              clear hst HR
              go_wp2_with fail
              refine HK.out.mono ?_; rintro e wx ⟨rfl, hb⟩
              replace HB := Lib.hid (bel_call HB.out hb)
              clear hb HK
              go_wp2_with fail
              go_ret
              exact ⟨by rw [← HR2.out]; rfl, HB.out⟩
          have t1 : ¬ ((j : Int) < m.an.length) := by omega
          have hst := HR.out
          rw [fst0_end _ _ _ _ (by omega)] at hst
          clear HR
          have HR := Lib.hid hst
          clear hst
          go_wp2_with fail
          rw [rounds_succ]
          go_wp2_with fail
          refine (HCN.out _ HB.out HX.out).mono ?_; rintro e w8 ⟨rfl, hb⟩
          replace HX := Lib.hid (HX.out.below (by simp) hb)
          replace HB := Lib.hid (bel_call HB.out hb)
          clear hb
          go_wp2_with fail
          go_loopg [35] m.ns.length (fun g v35 wr => ∃ j : Nat, j + g = m.ns.length ∧ v35 = .int .i64 j ∧ Hid (fst0 ((m.ns.drop j).map (fun x => (It.r x).err) ++ (ers m.ar ++ [])) = R) ∧ Hid (Below w.heap.size w wr) ∧ Hid (Cel wr M [.int .i64 i0, .int .i64 i1, q, a, n, r]))
          case atStart => exact ⟨0, by omega, rfl, HR, HB, HX⟩
          case round =>
            clear HR HB HX
            obtain ⟨j, hj, rfl, HR, HB, HX⟩ := hrel
            by_cases hlt : j < m.ns.length
            · have HK := Lib.hid (HKN.out wr HB.out HX.out j hlt)
              have hst := HR.out
              rw [fst0_step _ _ _ _ hlt] at hst
              have hst : (if (It.r m.ns[j]).err ≠ 0 then (It.r m.ns[j]).err else fst0 ((m.ns.drop (j + 1)).map (fun x => (It.r x).err) ++ (ers m.ar ++ []))) = R := hst
              obtain ⟨E, hE⟩ : ∃ E, (It.r m.ns[j]).err = E := ⟨_, rfl⟩
              rw [hE] at HK hst
              clear hE
              by_cases hE0 : E = 0
              · subst hE0
                rw [if_neg (by simp)] at hst
                have HR2 := Lib.hid hst
                clear hst HR
                go_wp2_with fail
                refine HK.out.mono ?_; rintro e wx ⟨rfl, hb⟩
                replace HX := Lib.hid (HX.out.below (by simp) hb)
                replace HB := Lib.hid (bel_call HB.out hb)
                clear hb HK
                go_wp2_with fail
                go_roundg (m.ns.length - (j + 1))
                case measure => omega
                case rel => exact ⟨j + 1, by omega, by go_num, HR2, HB, HX⟩
              · have tE : (E != 0) = true := by simpa using hE0
                rw [if_pos hE0] at hst
                have HR2 := Lib.hid hst
                clear hst HR
                go_wp2_with fail
                refine HK.out.mono ?_; rintro e wx ⟨rfl, hb⟩
                replace HB := Lib.hid (bel_call HB.out hb)
                clear hb HK
                go_wp2_with fail
                go_ret
                exact ⟨by rw [← HR2.out]; rfl, HB.out⟩
            have t1 : ¬ ((j : Int) < m.ns.length) := by omega
            have hst := HR.out
            rw [fst0_end _ _ _ _ (by omega)] at hst
            clear HR
            have HR := Lib.hid hst
            clear hst
            go_wp2_with fail
            rw [rounds_succ]
            go_wp2_with fail
            refine (HCR.out _ HB.out HX.out).mono ?_; rintro e w9 ⟨rfl, hb⟩
            replace HX := Lib.hid (HX.out.below (by simp) hb)
            replace HB := Lib.hid (bel_call HB.out hb)
            clear hb
            go_wp2_with fail
            go_loopg [35] m.ar.length (fun g v35 wr => ∃ j : Nat, j + g = m.ar.length ∧ v35 = .int .i64 j ∧ Hid (fst0 ((m.ar.drop j).map (fun x => (It.r x).err) ++ []) = R) ∧ Hid (Below w.heap.size w wr) ∧ Hid (Cel wr M [.int .i64 i0, .int .i64 i1, q, a, n, r]))
            case atStart => exact ⟨0, by omega, rfl, HR, HB, HX⟩
            case round =>
              clear HR HB HX
              obtain ⟨j, hj, rfl, HR, HB, HX⟩ := hrel
              by_cases hlt : j < m.ar.length
              · have HK := Lib.hid (HKR.out wr HB.out HX.out j hlt)
                have hst := HR.out
                rw [fst0_step _ _ _ _ hlt] at hst
                have hst : (if (It.r m.ar[j]).err ≠ 0 then (It.r m.ar[j]).err else fst0 ((m.ar.drop (j + 1)).map (fun x => (It.r x).err) ++ [])) = R := hst
                obtain ⟨E, hE⟩ : ∃ E, (It.r m.ar[j]).err = E := ⟨_, rfl⟩
                rw [hE] at HK hst
                clear hE
                by_cases hE0 : E = 0
                · subst hE0
                  rw [if_neg (by simp)] at hst
                  have HR2 := Lib.hid hst
                  clear hst HR
                  go_wp2_with fail
                  refine HK.out.mono ?_; rintro e wx ⟨rfl, hb⟩
                  replace HX := Lib.hid (HX.out.below (by simp) hb)
                  replace HB := Lib.hid (bel_call HB.out hb)
                  clear hb HK
                  go_wp2_with fail
                  go_roundg (m.ar.length - (j + 1))
                  case measure => omega
                  case rel => exact ⟨j + 1, by omega, by go_num, HR2, HB, HX⟩
                · have tE : (E != 0) = true := by simpa using hE0
                  rw [if_pos hE0] at hst
                  have HR2 := Lib.hid hst
                  clear hst HR
                  go_wp2_with fail
                  refine HK.out.mono ?_; rintro e wx ⟨rfl, hb⟩
                  replace HB := Lib.hid (bel_call HB.out hb)
                  clear hb HK
                  go_wp2_with fail
                  go_ret
                  exact ⟨by rw [← HR2.out]; rfl, HB.out⟩
              have t1 : ¬ ((j : Int) < m.ar.length) := by omega
              have hst := HR.out
              rw [fst0_end _ _ _ _ (by omega)] at hst
              clear HR
              have HR := Lib.hid hst
              clear hst
              go_wp2_with fail
              rw [rounds_succ]
              go_wp2_with fail
              go_ret
              exact ⟨by rw [← HR.out]; rfl, HB.out⟩
    · rw [decide_eq_true hi] at HI0
      rw [decide_eq_false hfl] at HI1
      have hR2 := HR.out
      rw [if_pos (by omega)] at hR2
      have HR2 := Lib.hid hR2
      have c0 : W.cell? ⟨M, 0, none⟩ = some (.int .i64 i0) := hx.c 0 (by simp)
      have c1 : W.cell? ⟨M, 1, none⟩ = some (.int .i64 i1) := hx.c 1 (by simp)
      clear hx HR hR2
      go_enter Tryz.func13, Tryz.ntmps13
      go_wp2_with fail
      refine (HI0.out _).mono ?_; rintro e w1 ⟨rfl, rfl⟩
      go_wp2_with fail
      refine (HI1.out _).mono ?_; rintro e w1 ⟨rfl, rfl⟩
      go_wp2_with fail
      go_ret
      exact ⟨by rw [← HR2.out]; rfl, HB.out⟩
  · rw [decide_eq_false hi] at HI0
    have hR2 := HR.out
    rw [if_pos (by omega)] at hR2
    have HR2 := Lib.hid hR2
    have c0 : W.cell? ⟨M, 0, none⟩ = some (.int .i64 i0) := hx.c 0 (by simp)
    clear hx HR hR2
    go_enter Tryz.func13, Tryz.ntmps13
    go_wp2_with fail
    refine (HI0.out _).mono ?_; rintro e w1 ⟨rfl, rfl⟩
    go_wp2_with fail
    go_ret
    exact ⟨by rw [← HR2.out]; rfl, HB.out⟩
end Go.Proofs.YtdikgjbpjdnodaaGreat
