/-
  What is said besides, as the statements compare and copy it: SameEdns, BigEdns, CopyEdns.
-/
import Derived.Test.YtcjgbholgbjejaaX02
import Derived.Deep.RegionHeld
import Derived.Test.YtcjgbholgbjejaaX00
namespace Go.Proofs.Ytcjgbholgbjejaa
open Go.RowKit Go.Shelf
set_option linter.unusedVariables false
set_option linter.unusedSimpArgs false
set_option maxRecDepth 100000

set_option maxHeartbeats 1000000 in
theorem sameE_yes {w : World} {hi hi' : Nat} {u v : Value} {e : Ed} (h : Eg w hi u e) (h' : Eg w hi' v e) (h1 : hi ≤ w.heap.size) (h2 : hi' ≤ w.heap.size) :
    Calls Try.prog 13 #[u, v] w (Tells w (.bool true)) := by
  obtain ⟨o, rfl, hs⟩ := h
  obtain ⟨o', rfl, hs'⟩ := h'
  obtain ⟨es, ex, ev, eb, l⟩ := e
  simp only at hs hs' ⊢
  have HN := Lib.hid (Lst.len hs)
  obtain ⟨a, c, rfl⟩ := Lst.shape hs
  obtain ⟨a', c', rfl⟩ := Lst.shape hs'
  have hb0 : Below w.heap.size w ((w.alloc (.cells #[.int .i64 es, .int .i64 ex, .int .i64 ev, .bool eb, .slice a l.length c] 30)).alloc (.cells #[.int .i64 es, .int .i64 ex, .int .i64 ev, .bool eb, .slice a' l.length c'] 30)) := ((Below.refl _ _).alloc (Nat.le_refl _) _).alloc (by simp) _
  have hx := (cel_new w (.int .i64 es) (.int .i64 ex) (.int .i64 ev) (.bool eb) (.slice a l.length c) 30).below (by simp) ((Below.refl _ _).alloc (Nat.le_refl _) (.cells #[.int .i64 es, .int .i64 ex, .int .i64 ev, .bool eb, .slice a' l.length c'] 30))
  have hy := cel_new (w.alloc (.cells #[.int .i64 es, .int .i64 ex, .int .i64 ev, .bool eb, .slice a l.length c] 30)) (.int .i64 es) (.int .i64 ex) (.int .i64 ev) (.bool eb) (.slice a' l.length c') 30
  rw [World.size_alloc] at hy
  have HS := Lib.hid (show SO _ hi _ l from Lst.below hs hb0 h1)
  have HS' := Lib.hid (show SO _ hi' _ l from Lst.below hs' hb0 h2)
  have hbb := fun wx => (show (binOp .neq 4 (.bool eb) (.bool eb)).run Try.prog wx = .ok (.bool false) wx by cases eb <;> kernel_rfl)
  obtain ⟨N, hN⟩ : ∃ N, w.heap.size = N := ⟨_, rfl⟩
  have HB0 := Lib.hid hb0
  rw [hN] at hx hy HB0 h1 h2
  have HX0 := Lib.hid hx
  have HY0 := Lib.hid hy
  have hsz : ((w.alloc (.cells #[.int .i64 es, .int .i64 ex, .int .i64 ev, .bool eb, .slice a l.length c] 30)).alloc (.cells #[.int .i64 es, .int .i64 ex, .int .i64 ev, .bool eb, .slice a' l.length c'] 30)).heap.size = N + 2 := by simp [hN]
  obtain ⟨W, hW⟩ : ∃ W, (w.alloc (.cells #[.int .i64 es, .int .i64 ex, .int .i64 ev, .bool eb, .slice a l.length c] 30)).alloc (.cells #[.int .i64 es, .int .i64 ex, .int .i64 ev, .bool eb, .slice a' l.length c'] 30) = W := ⟨_, rfl⟩
  rw [hW] at HB0 HX0 HY0 HS HS' hsz
  obtain ⟨c0, c1, c2, c3, c4⟩ := HX0.out.five
  obtain ⟨d0, d1, d2, d3, d4⟩ := HY0.out.five
  have HSZ := Lib.hid hsz
  have HD0 := Lib.hid (Below.refl W.heap.size W)
  have HH := Lib.hid (And.intro h1 h2)
  clear hs hs' hb0 hx hy hsz h1 h2
  go_enter Try.func13, Try.ntmps13
  go_wp2_with fail
  clear c0 c1 c2 c3 c4 d0 d1 d2 d3 d4
  go_loopg [5] l.length (fun g v5 wr => ∃ k : Nat, k + g = l.length ∧ v5 = .int .i64 k ∧ Hid (Below W.heap.size W wr))
  case atStart => exact ⟨0, by omega, rfl, by first | exact HD0 | (rw [hW]; exact HD0)⟩
  case round =>
    clear HD0
    obtain ⟨k, hk, rfl, HB⟩ := hrel
    have hlen := HN.out
    obtain ⟨x0, x1, x2, x3, x4⟩ := (HX0.out.below (by simp) HB.out).five
    obtain ⟨y0, y1, y2, y3, y4⟩ := (HY0.out.below (by simp) HB.out).five
    by_cases hlt : k < l.length
    · obtain ⟨b, off, c2, he, hb, hc⟩ := HS.out.at_ k hlt
      obtain ⟨b', off', c2', he', hb', hc'⟩ := HS'.out.at_ k hlt
      injection he with he hn3 hc3
      injection he' with he' hn3' hc3'
      clear hn3 hc3 hn3' hc3'
      subst he; subst he'
      obtain ⟨p0, p1⟩ := hc.keep fun o => HB.out.cell (p := ⟨b, o, none⟩) (by have := HSZ.out; have := HH.out.1; show b < W.heap.size; omega)
      obtain ⟨q0, q1⟩ := hc'.keep fun o => HB.out.cell (p := ⟨b', o, none⟩) (by have := HSZ.out; have := HH.out.2; show b' < W.heap.size; omega)
      have HE := fun wx => neqO l[k] wx
      obtain ⟨x, hx⟩ : ∃ x, l[k] = x := ⟨_, rfl⟩
      rw [hx] at p0 p1 q0 q1 HE
      have HB2 := Lib.hid (fun n => below_drewN HB.out n)
      clear hc hc' hx HB
      go_wp2_with fail
      go_quiet (fail)
      go_wp2_with fail
      go_roundg (l.length - (k + 1))
      case measure => omega
      case rel => exact ⟨k + 1, by omega, by go_num, HB2.out _⟩
    · have t1 : ¬ ((k : Int) < l.length) := by omega
      have HBB := Lib.hid (HB0.out.trans (HB.out.mono (by have := HSZ.out; rw [hN] at *; omega)))
      go_wp2_with fail
      go_ret
      exact ⟨rfl, by rw [hN]; exact HBB.out⟩

section
variable {w : World} {q : Nat} {a0 a1 a2 a3 a4 : Value}
/-- Five cells stored one after another. -/
def put5 (w : World) (q : Nat) (b0 b1 b2 b3 b4 : Value) : World :=
  ((((w.setCell ⟨q, 0, none⟩ b0).setCell ⟨q, 1, none⟩ b1).setCell ⟨q, 2, none⟩ b2).setCell ⟨q, 3, none⟩ b3).setCell ⟨q, 4, none⟩ b4
theorem cel_put5 (h : Cel w q [a0, a1, a2, a3, a4]) (b0 b1 b2 b3 b4 : Value) : Cel (put5 w q b0 b1 b2 b3 b4) q [b0, b1, b2, b3, b4] := by
  have := ((((h.set (o := 0) (by simp) b0).set (o := 1) (by simp) b1).set (o := 2) (by simp) b2).set (o := 3) (by simp) b3).set (o := 4) (by simp) b4
  simp only [List.set_cons_zero, List.set_cons_succ] at this
  exact this
theorem aside_put5 (w : World) (q : Nat) (b0 b1 b2 b3 b4 : Value) : Aside (fun k => k = q) w (put5 w q b0 b1 b2 b3 b4) := by
  have st : ∀ (x : World) (o : Nat) (v : Value), Aside (fun k => k = q) x (x.setCell ⟨q, o, none⟩ v) := fun x o v => Aside.setCell x (p := ⟨q, o, none⟩) v rfl
  exact ((((st _ _ _).trans (st _ _ _)).trans (st _ _ _)).trans (st _ _ _)).trans (st _ _ _)
end

theorem run_appOt {w : World} {B hi : Nat} {v u : Value} {l m : List Ot} (h : OwnO w B v l) (hx : SO w hi u m) (hnm : l.length + m.length ≤ 1000000) (hB : B ≤ w.heap.size) :
    ∃ a' c' w', (Builtin.append_ #[28, 28] 28 #[v, u]).run Try.prog w = .ok (.slice a' (l.length + m.length) c') w' ∧ OwnO w' B (.slice a' (l.length + m.length) c') (l ++ m) ∧ Aside (fun b => v.ownBlock = some b) w w' ∧
      ((Value.slice a' (l.length + m.length) c').ownBlock = v.ownBlock ∨ (Value.slice a' (l.length + m.length) c').ownBlock = some w.heap.size) := by
  obtain ⟨i0, hi, hz0, hz1, hz2⟩ := info_parts info_ot
  obtain ⟨a', c', w', r1, r2, r3, r4⟩ := row_more 24 Try.underlying28 hi hz0 hz1 hz2 (by rfl) (by decide) (by decide) h hx (by rw [aco_len]) (aco_one m) hnm hB
  exact ⟨a', c', w', r1, by unfold OwnO; rw [aco_app, List.length_append]; exact r2, r3, r4⟩

end Go.Proofs.Ytcjgbholgbjejaa

/-
  May something be said: bounded, Check.
-/
namespace Go.Proofs.Ytcjgbholgbjejaa
open Go.RowKit Go.Shelf
set_option linter.unusedVariables false
set_option linter.unusedSimpArgs false
set_option maxRecDepth 100000

theorem wr64 (n : Int) (h0 : -4000000000000000000 ≤ n) (h1 : n ≤ 4000000000000000000) : IntKind.i64.wrap n = n := by
  rw [IntKind.wrap_i64]
  omega

theorem bounded_any (n m : Int) (w : World) : Calls Try.prog 45 #[.int .i64 n, .int .i64 m] w (Tell0 w (.bool (bnd n m))) := by
  by_cases h : 0 ≤ n
  · have t1 : decide (0 ≤ n) = true := by simp [h]
    have e : bnd n m = decide (n ≤ m) := by unfold bnd; simp [h]
    rw [e]
    obtain ⟨r, hr⟩ : ∃ r, decide (n ≤ m) = r := ⟨_, rfl⟩
    rw [hr]
    go_enter Try.func45, Try.ntmps45
    go_wp2
    go_ret
    exact ⟨rfl, rfl⟩
  · have t1 : decide (0 ≤ n) = false := by simp [h]
    have e : bnd n m = false := by unfold bnd; simp [h]
    rw [e]
    go_enter Try.func45, Try.ntmps45
    go_wp2
    go_ret
    exact ⟨rfl, rfl⟩

theorem szO_le (M : Nat) : ∀ l : List Ot, (∀ x ∈ l, x.d.length ≤ M) → szO l ≤ l.length * (4 + M)
  | [], _ => by simp [szO]
  | x :: r, h => by
    have ih := szO_le M r fun y hy => h y (by simp [hy])
    have hx := h x (by simp)
    have e : szO (x :: r) = 4 + x.d.length + szO r := by simp [szO]
    rw [e, List.length_cons, Nat.add_mul]
    omega
theorem szO_app (a b : List Ot) : szO (a ++ b) = szO a + szO b := by simp [szO]

set_option maxHeartbeats 4000000 in
theorem checkE_any {w : World} {hi : Nat} {u : Value} {e : Ed} (h : Eg w hi u e) (h1 : hi ≤ w.heap.size) (hl : e.o.length ≤ 900000) (hd : ∀ x ∈ e.o, x.d.length ≤ 1000000) :
    Calls Try.prog 26 #[u] w (Tells w (.int .i64 (chkE e))) := by
  obtain ⟨o, rfl, hs⟩ := h
  obtain ⟨es, ex, ev, eb, l⟩ := e
  obtain ⟨r, hr⟩ : ∃ r, chkE ⟨es, ex, ev, eb, l⟩ = r := ⟨_, rfl⟩
  rw [hr]
  unfold chkE at hr
  simp only at hs hr hl hd ⊢
  have H0 := Lib.hid (fun wx => bounded_any es 65535 wx)
  have H1 := Lib.hid (fun wx => bounded_any ex 127 wx)
  have H2 := Lib.hid (fun wx => bounded_any ev 255 wx)
  obtain ⟨b0, hb0⟩ : ∃ b, bnd es 65535 = b := ⟨_, rfl⟩
  obtain ⟨b1, hb1⟩ : ∃ b, bnd ex 127 = b := ⟨_, rfl⟩
  obtain ⟨b2, hb2⟩ : ∃ b, bnd ev 255 = b := ⟨_, rfl⟩
  rw [hb0] at H0 hr
  rw [hb1] at H1 hr
  rw [hb2] at H2 hr
  have HN := Lib.hid (Lst.len hs)
  have HD := Lib.hid hd
  have HL := Lib.hid hl
  obtain ⟨a, c, rfl⟩ := Lst.shape hs
  have hbl : Below w.heap.size w (w.alloc (.cells #[.int .i64 es, .int .i64 ex, .int .i64 ev, .bool eb, .slice a l.length c] 30)) := (Below.refl _ _).alloc (Nat.le_refl _) _
  have hx := cel_new w (.int .i64 es) (.int .i64 ex) (.int .i64 ev) (.bool eb) (.slice a l.length c) 30
  have HS := Lib.hid (show SO w hi _ l from hs)
  have HB := Lib.hid hbl
  obtain ⟨N, hN⟩ : ∃ N, w.heap.size = N := ⟨_, rfl⟩
  obtain ⟨W, hW⟩ : ∃ W, w.alloc (.cells #[.int .i64 es, .int .i64 ex, .int .i64 ev, .bool eb, .slice a l.length c] 30) = W := ⟨_, rfl⟩
  rw [hW] at HB hx
  rw [hN] at hx HB
  have HSW := Lib.hid (show N + 1 ≤ W.heap.size by rw [← hW, World.size_alloc, hN]; exact Nat.le_refl _)
  have HHI := Lib.hid (show hi ≤ N by omega)
  obtain ⟨c0, c1, c2, c3, c4⟩ := hx.five
  clear hs hbl hx hb0 hb1 hb2 h1 hl hd
  by_cases hall : b0 = true ∧ b1 = true ∧ b2 = true
  · obtain ⟨rfl, rfl, rfl⟩ := hall
    simp only [true_and] at hr
    have HR := Lib.hid hr
    clear hr
    go_enter Try.func26, Try.ntmps26
    go_wp2_with fail
    refine (H0.out _).mono ?_; rintro e w2 ⟨rfl, rfl⟩
    go_wp2_with fail
    refine (H1.out _).mono ?_; rintro e w2 ⟨rfl, rfl⟩
    go_wp2_with fail
    refine (H2.out _).mono ?_; rintro e w2 ⟨rfl, rfl⟩
    go_wp2_with fail
    clear c0 c1 c2 c3 c4
    go_loopg [3, 25] l.length (fun g v3 v25 wr => ∃ k : Nat, k + g = l.length ∧ v25 = .int .i64 k ∧ v3 = .int .i64 (szO (l.take k)) ∧ Hid ((l.take k).all (fun x => bnd x.c 65535) = true) ∧ Hid (Below N w wr) ∧ N + 1 ≤ wr.heap.size)
    case atStart => exact ⟨0, by omega, rfl, rfl, by simp [Hid], by first | exact HB | (rw [hW]; exact HB), by first | exact HSW.out | (rw [hW]; exact HSW.out)⟩
    case round =>
      clear hW
      obtain ⟨k, hk, rfl, rfl, HA, HBR, hsz⟩ := hrel
      have hlen := HN.out
      by_cases hlt : k < l.length
      · obtain ⟨b, off, c2', he, hb, hc⟩ := HS.out.at_ k hlt
        injection he with he hn3 hc3
        clear hn3 hc3
        subst he
        obtain ⟨p0, p1⟩ := hc.keep fun o => HBR.out.cell (p := ⟨b, o, none⟩) (Nat.lt_of_lt_of_le hb HHI.out)
        have HTK := Lib.hid (show l.take (k + 1) = l.take k ++ [l[k]] by rw [List.take_add_one, List.getElem?_eq_getElem hlt]; rfl)
        have HM := Lib.hid (List.getElem_mem hlt)
        have HDX := Lib.hid (HD.out l[k] (List.getElem_mem hlt))
        obtain ⟨x, hx⟩ : ∃ x, l[k] = x := ⟨_, rfl⟩
        rw [hx] at p0 p1 HTK HM HDX
        have HC := Lib.hid (fun wx => bounded_any x.c 65535 wx)
        obtain ⟨bb, hbb⟩ : ∃ b, bnd x.c 65535 = b := ⟨_, rfl⟩
        rw [hbb] at HC
        have HBB := Lib.hid hbb
        have hs1 := szO_le 1000000 (l.take k) (fun y hy => HD.out y (List.mem_of_mem_take hy))
        have hs2 : (l.take k).length = k := by rw [List.length_take]; omega
        have hs4 : szO (l.take (k + 1)) = szO (l.take k) + (4 + x.d.length) := by rw [HTK.out, szO_app]; simp [szO]
        obtain ⟨s, hsk⟩ : ∃ s, szO (l.take k) = s := ⟨_, rfl⟩
        rw [hs2, hsk] at hs1
        rw [hsk] at hs4 ⊢
        have HS4 := Lib.hid hs4
        have hd9 : x.d.length ≤ 1000000 := HDX.out
        have hl9 := HL.out
        have hw1 : IntKind.i64.wrap ((4 : Int) + x.d.length) = (4 : Int) + x.d.length := wr64 _ (by omega) (by omega)
        have hw2 : IntKind.i64.wrap ((s : Int) + ((4 : Int) + x.d.length)) = (s : Int) + ((4 : Int) + x.d.length) := wr64 _ (by omega) (by omega)
        have hds : (bs x.d).size = x.d.length := bs_size x.d
        have HB2 := Lib.hid (HBR.out.alloc (by omega) (.cells #[.int .i64 x.c, .string (bs x.d)] 61) : Below N w _)
        have HSZ := Lib.hid (show N + 1 ≤ (wr.alloc (.cells #[.int .i64 x.c, .string (bs x.d)] 61)).heap.size by simp; omega)
        clear hc hx hb hbb hs1 hs2 hs4 hsk hsz HBR
        cases bb with
        | false =>
          have HE := Lib.hid (show r = 5 by
            rw [← HR.out, if_neg]
            intro h
            have := List.all_eq_true.mp h x HM.out
            rw [HBB.out] at this
            cases this)
          clear HA
          go_wp2_with fail
          refine (HC.out _).mono ?_; rintro e w2 ⟨rfl, rfl⟩
          go_wp2_with fail
          go_ret
          exact ⟨by rw [HE.out]; rfl, by first | exact HB2.out | (rw [hN]; exact HB2.out)⟩
        | true =>
          have HA2 := Lib.hid (show (l.take (k + 1)).all (fun x => bnd x.c 65535) = true by rw [HTK.out, List.all_append, HA.out]; simp [HBB.out])
          clear HA
          go_wp2_with fail
          refine (HC.out _).mono ?_; rintro e w2 ⟨rfl, rfl⟩
          go_wp2_with fail
          go_roundg (l.length - (k + 1))
          case measure => omega
          case rel => exact ⟨k + 1, by omega, by go_num, by rw [HS4.out]; go_num, HA2, HB2, HSZ.out⟩
      · have t1 : ¬ ((k : Int) < l.length) := by omega
        have hkl : l.take k = l := List.take_of_length_le (by omega)
        rw [hkl] at HA ⊢
        obtain ⟨s, hsk⟩ : ∃ s, szO l = s := ⟨_, rfl⟩
        have hr2 := HR.out
        rw [if_pos HA.out, hsk] at hr2
        rw [hsk]
        clear hkl HA hsk
        by_cases hbig : 65535 < s
        · rw [if_pos hbig] at hr2
          subst hr2
          have t2 : decide ((65535 : Int) < s) = true := by simp; omega
          go_wp2_with fail
          go_ret
          exact ⟨rfl, by first | exact HBR.out | (rw [hN]; exact HBR.out)⟩
        · rw [if_neg hbig] at hr2
          subst hr2
          have t2 : decide ((65535 : Int) < s) = false := by simp; omega
          go_wp2_with fail
          go_ret
          exact ⟨rfl, by first | exact HBR.out | (rw [hN]; exact HBR.out)⟩
  · have HE : r = 5 := by rw [← hr, if_neg (fun h => hall ⟨h.1, h.2.1, h.2.2.1⟩)]
    subst HE
    have HBO := HB
    clear hr HN HD HL HS HHI
    cases b0 with
    | false =>
      go_enter Try.func26, Try.ntmps26
      go_wp2_with fail
      refine (H0.out _).mono ?_; rintro e w2 ⟨rfl, rfl⟩
      go_wp2_with fail
      go_ret
      exact ⟨rfl, by first | exact HBO.out | (rw [hN]; exact HBO.out)⟩
    | true =>
      cases b1 with
      | false =>
        go_enter Try.func26, Try.ntmps26
        go_wp2_with fail
        refine (H0.out _).mono ?_; rintro e w2 ⟨rfl, rfl⟩
        go_wp2_with fail
        refine (H1.out _).mono ?_; rintro e w2 ⟨rfl, rfl⟩
        go_wp2_with fail
        go_ret
        exact ⟨rfl, by first | exact HBO.out | (rw [hN]; exact HBO.out)⟩
      | true =>
        cases b2 with
        | true => exact absurd ⟨rfl, rfl, rfl⟩ hall
        | false =>
          go_enter Try.func26, Try.ntmps26
          go_wp2_with fail
          refine (H0.out _).mono ?_; rintro e w2 ⟨rfl, rfl⟩
          go_wp2_with fail
          refine (H1.out _).mono ?_; rintro e w2 ⟨rfl, rfl⟩
          go_wp2_with fail
          refine (H2.out _).mono ?_; rintro e w2 ⟨rfl, rfl⟩
          go_wp2_with fail
          go_ret
          exact ⟨rfl, by first | exact HBO.out | (rw [hN]; exact HBO.out)⟩
end Go.Proofs.Ytcjgbholgbjejaa

/-
  The records of a list that are of the type, and those that are not: opts, others.
-/
namespace Go.Proofs.Ytcjgbholgbjejaa
open Go.RowKit Go.Shelf
set_option linter.unusedVariables false
set_option linter.unusedSimpArgs false
set_option maxRecDepth 100000

theorem isO_any (x : Rc) (w : World) : Calls Try.prog 47 #[.agg #[.string (bs x.n), .int .i64 x.t, .int .i64 x.c, .int .i64 x.l, .string (bs x.d)]] w (Tells w (.bool (isO x))) := by
  obtain ⟨n, t, c, l, d⟩ := x
  by_cases h : t = 41
  · have e : isO ⟨n, t, c, l, d⟩ = true := by unfold isO; simp [h]
    subst h
    rw [e]
    go_enter Try.func47, Try.ntmps47
    go_wp2
    go_ret
    exact ⟨rfl, (Below.refl _ _).alloc (Nat.le_refl _) _⟩
  · have e : isO ⟨n, t, c, l, d⟩ = false := by unfold isO; simp [h]
    rw [e]
    have t1 : (t == 41) = false := by simpa using h
    go_enter Try.func47, Try.ntmps47
    go_wp2
    go_ret
    exact ⟨by simp [h], (Below.refl _ _).alloc (Nat.le_refl _) _⟩
theorem notO_any (x : Rc) (w : World) : Calls Try.prog 51 #[.agg #[.string (bs x.n), .int .i64 x.t, .int .i64 x.c, .int .i64 x.l, .string (bs x.d)]] w (Tells w (.bool (!isO x))) := by
  obtain ⟨n, t, c, l, d⟩ := x
  by_cases h : t = 41
  · have e : isO ⟨n, t, c, l, d⟩ = true := by unfold isO; simp [h]
    subst h
    rw [e]
    go_enter Try.func51, Try.ntmps51
    go_wp2
    go_ret
    exact ⟨rfl, (Below.refl _ _).alloc (Nat.le_refl _) _⟩
  · have e : isO ⟨n, t, c, l, d⟩ = false := by unfold isO; simp [h]
    rw [e]
    have t1 : (t != 41) = true := by simpa using h
    go_enter Try.func51, Try.ntmps51
    go_wp2
    go_ret
    exact ⟨by simp [h], (Below.refl _ _).alloc (Nat.le_refl _) _⟩

/-- A row of the call's own, or a place in front of somebody else's to which no room belongs. -/
def Kp (w : World) (B : Nat) (v : Value) (l : List Rc) : Prop := OwnRc w B v l ∨ (l = [] ∧ ∃ a, v = .slice (some a) 0 0)
section
variable {w w' : World} {B : Nat} {v : Value} {l : List Rc}
theorem Kp.below (h : Kp w B v l) (hb : Below w.heap.size w w') : Kp w' B v l := h.imp (fun h => row_below h hb) id
theorem Kp.aside {G : Nat → Prop} (h : Kp w B v l) (ha : Aside G w w') (hG : ∀ k, B ≤ k → ¬ G k) : Kp w' B v l := h.imp (fun h => row_aside h ha fun k hk => hG k (World.ownsRow.lt h k hk).1) id
theorem Kp.base {B' : Nat} (h : Kp w B v l) (hB : B' ≤ B) : Kp w B' v l := h.imp (fun h => row_base h hB) id
theorem Kp.shape (h : Kp w B v l) : ∃ a c, v = .slice a l.length c := by
  rcases h with h | ⟨rfl, a, rfl⟩
  · exact row_shape h
  · exact ⟨_, _, rfl⟩
theorem Kp.sr (h : Kp w B v l) (hl : l.length ≤ 1000000) : SR w w.heap.size v l := by
  rcases h with h | ⟨rfl, a, rfl⟩
  · exact Lst.own h hl
  · exact ⟨some a, 0, rfl, by simp, fun h => (by cases h), fun h => absurd h (by simp)⟩
theorem kp_start (w : World) (B : Nat) (a : Option Addr) : Kp w B (.slice a 0 0) [] := by
  cases a with
  | none => exact .inl (World.ownsRow_nil _ _ _ _)
  | some a => exact .inr ⟨rfl, a, rfl⟩
/-- A record more. -/
theorem Kp.app (h : Kp w B v l) {hi : Nat} {u : Value} {x : Rc} (hx : SR w hi u [x]) (hl : l.length + 1 ≤ 1000000) (hB : B ≤ w.heap.size) :
    ∃ a c w', (Builtin.append_ #[23, 23] 23 #[v, u]).run Try.prog w = .ok (.slice a (l.length + 1) c) w' ∧ Kp w' B (.slice a (l.length + 1) c) (l ++ [x]) ∧ Aside (fun b => B ≤ b) w w' := by
  rcases h with h | ⟨rfl, a, rfl⟩
  · obtain ⟨a, c, w', h1, h2, h3, _⟩ := run_appRc h hx hl hB
    exact ⟨a, c, w', h1, .inl h2, h3.mono fun k _ hk => (World.ownsRow.lt h k hk).1⟩
  · obtain ⟨ua, uc, rfl, _, _, h2⟩ := hx
    obtain ⟨b, off, rfl, _, h4⟩ := h2 (by simp)
    obtain ⟨i0, hi0, hz0, hz1, hz2⟩ := info_parts info_rc
    have hr := run_append_grow (P := Try.prog) w 23 23 48 i0 _ Try.underlying23 hi0 hz0 a 0 0 [] (by simp) (by simp) ⟨b, off, none⟩ 1 uc (acr [x]) (by rw [acr_len, hz1]; rfl) (fun j v hv => by rw [WideShapes.add_plain]; exact h4 j v hv) (by omega) (by decide) (by rw [hz2]; decide)
    have hg := grownCap_ge w (0 + 1) 0 48
    have hcm := grownCap_le_maxLen w (0 + 1) 0 48 (by decide)
    obtain ⟨G, hG⟩ : ∃ G, grownCap w (0 + 1) 0 48 = G := ⟨_, rfl⟩
    rw [hG] at hr hg hcm
    refine ⟨_, _, _, hr, .inl ⟨by rw [acr_len], .inr ⟨w.heap.size, _, _, rfl, hB, World.alloc_heap_new w.drew _, hg, hcm, ?_, ?_⟩⟩, ?_⟩
    · have e1 : (acr [x]).length = 5 := rfl
      simp only [Array.size_append, List.size_toArray, size_zeroCells, e1, List.length_nil, List.nil_append, List.length_singleton]
      show 0 + 5 + (G - (0 + 1)) * 5 = G * 5
      omega
    · simp [acr, cr]
    · exact ⟨rfl, rfl, rfl, by simp, fun k hk hg => Below.heap_alloc w.drew _ k hk⟩
end

set_option maxHeartbeats 1000000 in
theorem those_opts {w : World} {hi : Nat} {u : Value} {l : List Rc} (h : SR w hi u l) (h1 : hi ≤ w.heap.size) (hl : l.length ≤ 900000) :
    Calls Try.prog 46 #[u, .func (.func 47) #[] #[]] w (fun e w' => ∃ v, e = .returned v ∧ Kp w' w.heap.size v (l.filter isO) ∧ Below w.heap.size w w') := by
  have HX := Lib.hid h
  have HN := Lib.hid (Lst.len h)
  have HL := Lib.hid hl
  obtain ⟨a, c, rfl⟩ := Lst.shape h
  obtain ⟨N, hN⟩ : ∃ N, w.heap.size = N := ⟨_, rfl⟩
  have HK0 := Lib.hid (kp_start w N a)
  have HB0 := Lib.hid (show Below N w w from Below.refl _ _)
  have HHI := Lib.hid (show hi ≤ N by omega)
  clear h h1 hl
  go_enter Try.func46, Try.ntmps46
  go_wp2_with fail
  go_loopg [5, 12] l.length (fun g v5 v12 wr => ∃ k : Nat, k + g = l.length ∧ v12 = .int .i64 k ∧ Hid (Kp wr N v5 ((l.take k).filter isO)) ∧ Hid (Below N w wr) ∧ N ≤ wr.heap.size)
  case atStart => exact ⟨0, by omega, rfl, by simpa using HK0, HB0, by omega⟩
  case round =>
    clear HK0 HB0
    obtain ⟨k, hk, rfl, HK, HB, hsz⟩ := hrel
    have hlen := HN.out
    by_cases hlt : k < l.length
    · obtain ⟨b, off, c2, he, hb, hc⟩ := HX.out.at_ k hlt
      injection he with he hn3 hc3
      clear hn3 hc3
      subst he
      obtain ⟨c0, c1, c2, c3, c4⟩ := hc.keep fun o => HB.out.cell (p := ⟨b, o, none⟩) (Nat.lt_of_lt_of_le hb HHI.out)
      have HTK := Lib.hid (show l.take (k + 1) = l.take k ++ [l[k]] by rw [List.take_add_one, List.getElem?_eq_getElem hlt]; rfl)
      obtain ⟨x, hx⟩ : ∃ x, l[k] = x := ⟨_, rfl⟩
      rw [hx] at c0 c1 c2 c3 c4 HTK
      have HC := Lib.hid (fun wx => isO_any x wx)
      obtain ⟨L, hL⟩ : ∃ L, (l.take k).filter isO = L := ⟨_, rfl⟩
      rw [hL] at HK
      have HLL := Lib.hid (show L.length ≤ 900000 by rw [← hL]; exact Nat.le_trans (List.length_filter_le _ _) (Nat.le_trans (by rw [List.length_take]; omega) HL.out))
      have HTF := Lib.hid (show (l.take (k + 1)).filter isO = L ++ [x].filter isO by rw [HTK.out, List.filter_append, hL])
      obtain ⟨g, hg⟩ : ∃ g, wr.heap.size = g := ⟨_, rfl⟩
      have HQC := Lib.hid (show Cel (wr.alloc (.cells #[.string (bs x.n), .int .i64 x.t, .int .i64 x.c, .int .i64 x.l, .string (bs x.d)] 48)) g [.string (bs x.n), .int .i64 x.t, .int .i64 x.c, .int .i64 x.l, .string (bs x.d)] by
        have := cel_new wr (.string (bs x.n)) (.int .i64 x.t) (.int .i64 x.c) (.int .i64 x.l) (.string (bs x.d)) 48
        rwa [hg] at this)
      have hb1 : Below wr.heap.size wr (wr.alloc (.cells #[.string (bs x.n), .int .i64 x.t, .int .i64 x.c, .int .i64 x.l, .string (bs x.d)] 48)) := (Below.refl _ _).alloc (Nat.le_refl _) _
      have HGN := Lib.hid (show N ≤ g by omega)
      replace HK := Lib.hid (HK.out.below hb1)
      replace HB := Lib.hid (HB.out.alloc hsz (.cells #[.string (bs x.n), .int .i64 x.t, .int .i64 x.c, .int .i64 x.l, .string (bs x.d)] 48))
      clear hc hx hb hb1 hL hsz
      go_wp2_with fail
      refine (HC.out _).mono ?_; rintro e w3 ⟨rfl, hb⟩
      have HQ3 := Lib.hid (HQC.out.below (by simp) hb)
      replace HK := Lib.hid (HK.out.below hb)
      replace HB := Lib.hid (HB.out.trans (hb.mono (by have := HGN.out; simp; omega)))
      have HS3 := Lib.hid (show g < w3.heap.size from HQ3.out.lt (by simp))
      clear hb
      by_cases hp : isO x = true
      · rw [hp]
        have hone := sr_one w3 x
        have hb4 : Below w3.heap.size w3 (w3.alloc (.cells #[.string (bs x.n), .int .i64 x.t, .int .i64 x.c, .int .i64 x.l, .string (bs x.d)] 48)) := (Below.refl _ _).alloc (Nat.le_refl _) _
        have hsz4 : N ≤ (w3.alloc (.cells #[.string (bs x.n), .int .i64 x.t, .int .i64 x.c, .int .i64 x.l, .string (bs x.d)] 48)).heap.size := by have := HS3.out; have := HGN.out; simp; omega
        obtain ⟨a6, c6, w6, hr, hk6, ha6⟩ := (HK.out.below hb4).app hone (by have := HLL.out; omega) hsz4
        have hf : (l.take (k + 1)).filter isO = L ++ [x] := by rw [HTF.out, List.filter_cons_of_pos (by simpa using hp), List.filter_nil]
        have HK6 := Lib.hid (show Kp w6 N (.slice a6 (L.length + 1) c6) ((l.take (k + 1)).filter isO) by rw [hf]; exact hk6)
        have HB6 := Lib.hid (below_aside (HB.out.alloc (by have := HS3.out; have := HGN.out; omega) _) ha6 (fun k hk => ⟨by omega, by omega⟩))
        have HSZ := Lib.hid (Nat.le_trans hsz4 ha6.size)
        obtain ⟨av, cv, rfl⟩ := HK.out.shape
        have HR := Lib.hid hr
        obtain ⟨q0, q1, q2, q3, q4⟩ := HQ3.out.five
        clear hone hb4 hsz4 hr hk6 ha6 hf HK HB HQC HQ3
        go_wp2_with (at_builtin; refine wpList_append_run (.tmp 19) (.tmp 21) 23 23 rfl rfl rfl rfl HR.out ?_)
        go_roundg (l.length - (k + 1))
        case measure => omega
        case rel => exact ⟨k + 1, by omega, by go_num, HK6, HB6, HSZ.out⟩
      · have hp2 : (isO x) = false := by simpa using hp
        rw [hp2]
        have hfe : (l.take (k + 1)).filter isO = L := by rw [HTF.out, List.filter_cons_of_neg (by simpa using hp), List.filter_nil, List.append_nil]
        have HK6 := HK
        rw [← hfe] at HK6
        clear hfe
        have HSZ := Lib.hid (show N ≤ w3.heap.size by have := HS3.out; have := HGN.out; omega)
        clear HK HQC HQ3
        go_wp2_with fail
        go_roundg (l.length - (k + 1))
        case measure => omega
        case rel => exact ⟨k + 1, by omega, by go_num, HK6, HB, HSZ.out⟩
    · have t1 : ¬ ((k : Int) < l.length) := by omega
      have hkl : l.take k = l := List.take_of_length_le (by omega)
      rw [hkl] at HK
      clear hkl
      go_wp2_with fail
      go_ret
      exact ⟨_, rfl, by first | exact HK.out | (rw [hN]; exact HK.out), by first | exact HB.out | (rw [hN]; exact HB.out)⟩

set_option maxHeartbeats 1000000 in
theorem those_others {w : World} {hi : Nat} {u : Value} {l : List Rc} (h : SR w hi u l) (h1 : hi ≤ w.heap.size) (hl : l.length ≤ 900000) :
    Calls Try.prog 46 #[u, .func (.func 51) #[] #[]] w (fun e w' => ∃ v, e = .returned v ∧ Kp w' w.heap.size v (l.filter (fun x => !isO x)) ∧ Below w.heap.size w w') := by
  have HX := Lib.hid h
  have HN := Lib.hid (Lst.len h)
  have HL := Lib.hid hl
  obtain ⟨a, c, rfl⟩ := Lst.shape h
  obtain ⟨N, hN⟩ : ∃ N, w.heap.size = N := ⟨_, rfl⟩
  have HK0 := Lib.hid (kp_start w N a)
  have HB0 := Lib.hid (show Below N w w from Below.refl _ _)
  have HHI := Lib.hid (show hi ≤ N by omega)
  clear h h1 hl
  go_enter Try.func46, Try.ntmps46
  go_wp2_with fail
  go_loopg [5, 12] l.length (fun g v5 v12 wr => ∃ k : Nat, k + g = l.length ∧ v12 = .int .i64 k ∧ Hid (Kp wr N v5 ((l.take k).filter (fun x => !isO x))) ∧ Hid (Below N w wr) ∧ N ≤ wr.heap.size)
  case atStart => exact ⟨0, by omega, rfl, by simpa using HK0, HB0, by omega⟩
  case round =>
    clear HK0 HB0
    obtain ⟨k, hk, rfl, HK, HB, hsz⟩ := hrel
    have hlen := HN.out
    by_cases hlt : k < l.length
    · obtain ⟨b, off, c2, he, hb, hc⟩ := HX.out.at_ k hlt
      injection he with he hn3 hc3
      clear hn3 hc3
      subst he
      obtain ⟨c0, c1, c2, c3, c4⟩ := hc.keep fun o => HB.out.cell (p := ⟨b, o, none⟩) (Nat.lt_of_lt_of_le hb HHI.out)
      have HTK := Lib.hid (show l.take (k + 1) = l.take k ++ [l[k]] by rw [List.take_add_one, List.getElem?_eq_getElem hlt]; rfl)
      obtain ⟨x, hx⟩ : ∃ x, l[k] = x := ⟨_, rfl⟩
      rw [hx] at c0 c1 c2 c3 c4 HTK
      have HC := Lib.hid (fun wx => notO_any x wx)
      obtain ⟨L, hL⟩ : ∃ L, (l.take k).filter (fun x => !isO x) = L := ⟨_, rfl⟩
      rw [hL] at HK
      have HLL := Lib.hid (show L.length ≤ 900000 by rw [← hL]; exact Nat.le_trans (List.length_filter_le _ _) (Nat.le_trans (by rw [List.length_take]; omega) HL.out))
      have HTF := Lib.hid (show (l.take (k + 1)).filter (fun x => !isO x) = L ++ [x].filter (fun x => !isO x) by rw [HTK.out, List.filter_append, hL])
      obtain ⟨g, hg⟩ : ∃ g, wr.heap.size = g := ⟨_, rfl⟩
      have HQC := Lib.hid (show Cel (wr.alloc (.cells #[.string (bs x.n), .int .i64 x.t, .int .i64 x.c, .int .i64 x.l, .string (bs x.d)] 48)) g [.string (bs x.n), .int .i64 x.t, .int .i64 x.c, .int .i64 x.l, .string (bs x.d)] by
        have := cel_new wr (.string (bs x.n)) (.int .i64 x.t) (.int .i64 x.c) (.int .i64 x.l) (.string (bs x.d)) 48
        rwa [hg] at this)
      have hb1 : Below wr.heap.size wr (wr.alloc (.cells #[.string (bs x.n), .int .i64 x.t, .int .i64 x.c, .int .i64 x.l, .string (bs x.d)] 48)) := (Below.refl _ _).alloc (Nat.le_refl _) _
      have HGN := Lib.hid (show N ≤ g by omega)
      replace HK := Lib.hid (HK.out.below hb1)
      replace HB := Lib.hid (HB.out.alloc hsz (.cells #[.string (bs x.n), .int .i64 x.t, .int .i64 x.c, .int .i64 x.l, .string (bs x.d)] 48))
      clear hc hx hb hb1 hL hsz
      go_wp2_with fail
      refine (HC.out _).mono ?_; rintro e w3 ⟨rfl, hb⟩
      have HQ3 := Lib.hid (HQC.out.below (by simp) hb)
      replace HK := Lib.hid (HK.out.below hb)
      replace HB := Lib.hid (HB.out.trans (hb.mono (by have := HGN.out; simp; omega)))
      have HS3 := Lib.hid (show g < w3.heap.size from HQ3.out.lt (by simp))
      clear hb
      by_cases hp : (!isO x) = true
      · rw [hp]
        have hone := sr_one w3 x
        have hb4 : Below w3.heap.size w3 (w3.alloc (.cells #[.string (bs x.n), .int .i64 x.t, .int .i64 x.c, .int .i64 x.l, .string (bs x.d)] 48)) := (Below.refl _ _).alloc (Nat.le_refl _) _
        have hsz4 : N ≤ (w3.alloc (.cells #[.string (bs x.n), .int .i64 x.t, .int .i64 x.c, .int .i64 x.l, .string (bs x.d)] 48)).heap.size := by have := HS3.out; have := HGN.out; simp; omega
        obtain ⟨a6, c6, w6, hr, hk6, ha6⟩ := (HK.out.below hb4).app hone (by have := HLL.out; omega) hsz4
        have hf : (l.take (k + 1)).filter (fun x => !isO x) = L ++ [x] := by rw [HTF.out, List.filter_cons_of_pos (by simpa using hp), List.filter_nil]
        have HK6 := Lib.hid (show Kp w6 N (.slice a6 (L.length + 1) c6) ((l.take (k + 1)).filter (fun x => !isO x)) by rw [hf]; exact hk6)
        have HB6 := Lib.hid (below_aside (HB.out.alloc (by have := HS3.out; have := HGN.out; omega) _) ha6 (fun k hk => ⟨by omega, by omega⟩))
        have HSZ := Lib.hid (Nat.le_trans hsz4 ha6.size)
        obtain ⟨av, cv, rfl⟩ := HK.out.shape
        have HR := Lib.hid hr
        obtain ⟨q0, q1, q2, q3, q4⟩ := HQ3.out.five
        clear hone hb4 hsz4 hr hk6 ha6 hf HK HB HQC HQ3
        go_wp2_with (at_builtin; refine wpList_append_run (.tmp 19) (.tmp 21) 23 23 rfl rfl rfl rfl HR.out ?_)
        go_roundg (l.length - (k + 1))
        case measure => omega
        case rel => exact ⟨k + 1, by omega, by go_num, HK6, HB6, HSZ.out⟩
      · have hp2 : (!isO x) = false := by simpa using hp
        rw [hp2]
        have hfe : (l.take (k + 1)).filter (fun x => !isO x) = L := by rw [HTF.out, List.filter_cons_of_neg (by simpa using hp), List.filter_nil, List.append_nil]
        have HK6 := HK
        rw [← hfe] at HK6
        clear hfe
        have HSZ := Lib.hid (show N ≤ w3.heap.size by have := HS3.out; have := HGN.out; omega)
        clear HK HQC HQ3
        go_wp2_with fail
        go_roundg (l.length - (k + 1))
        case measure => omega
        case rel => exact ⟨k + 1, by omega, by go_num, HK6, HB, HSZ.out⟩
    · have t1 : ¬ ((k : Int) < l.length) := by omega
      have hkl : l.take k = l := List.take_of_length_le (by omega)
      rw [hkl] at HK
      clear hkl
      go_wp2_with fail
      go_ret
      exact ⟨_, rfl, by first | exact HK.out | (rw [hN]; exact HK.out), by first | exact HB.out | (rw [hN]; exact HB.out)⟩
theorem opts_any {w : World} {hi : Nat} {u : Value} {l : List Rc} (h : SR w hi u l) (h1 : hi ≤ w.heap.size) (hl : l.length ≤ 900000) :
    Calls Try.prog 31 #[u] w (fun e w' => ∃ v, e = .returned v ∧ Kp w' w.heap.size v (opL l) ∧ Below w.heap.size w w') := by
  have H := Lib.hid (those_opts h h1 hl)
  obtain ⟨a, c, rfl⟩ := Lst.shape h
  clear h
  go_enter Try.func31, Try.ntmps31
  go_wp2_with fail
  refine H.out.mono ?_; rintro e w1 ⟨v, rfl, hs, hb⟩
  have HS := Lib.hid hs
  have HB := Lib.hid hb
  clear hs hb
  go_wp2_with fail
  go_ret
  exact ⟨_, rfl, HS.out, HB.out⟩
theorem others_any {w : World} {hi : Nat} {u : Value} {l : List Rc} (h : SR w hi u l) (h1 : hi ≤ w.heap.size) (hl : l.length ≤ 900000) :
    Calls Try.prog 36 #[u] w (fun e w' => ∃ v, e = .returned v ∧ Kp w' w.heap.size v (noL l) ∧ Below w.heap.size w w') := by
  have H := Lib.hid (those_others h h1 hl)
  obtain ⟨a, c, rfl⟩ := Lst.shape h
  clear h
  go_enter Try.func36, Try.ntmps36
  go_wp2_with fail
  refine H.out.mono ?_; rintro e w1 ⟨v, rfl, hs, hb⟩
  have HS := Lib.hid hs
  have HB := Lib.hid hb
  clear hs hb
  go_wp2_with fail
  go_ret
  exact ⟨_, rfl, HS.out, HB.out⟩
end Go.Proofs.Ytcjgbholgbjejaa

/-
  The room behind copied records is as it was.
-/
namespace Go.Proofs.Ytcjgbholgbjejaa
open Go.RowKit Go.Shelf
set_option linter.unusedVariables false
set_option linter.unusedSimpArgs false
set_option maxRecDepth 100000

theorem CpR.spot {w : World} {B : Nat} {v : Value} {l : List Rc} (h : CpR w B v l) : ∃ g c, v = .slice (some ⟨g, 0, none⟩) l.length c ∧ l.length + 1 ≤ c ∧ w.cell? ⟨g, l.length * 5 + 1, none⟩ = some (.int .i64 7) := by
  obtain ⟨a, c, rfl, h1⟩ := h
  have hc := row_cap h1
  rw [List.length_append, List.length_singleton] at hc
  have hcells := fun g hg => World.ownsRow.cells h1 (g := g) hg
  rcases h1.2 with ⟨_, h0⟩ | ⟨g, cap, cur, h2, _⟩
  · simp at h0
  · injection h2 with h2 h3 h4
    subst h2
    refine ⟨g, c, rfl, hc, ?_⟩
    have := hcells g rfl (l.length * 5 + 1) (.int .i64 7) (by
      rw [acr_app, List.getElem?_append_right (by rw [acr_len]; omega), acr_len, Nat.add_sub_cancel_left]
      rfl)
    rw [WideShapes.add_plain, Nat.zero_add] at this
    exact this
theorem CpQ.spot {w : World} {B : Nat} {v : Value} {l : List Qn} (h : CpQ w B v l) : ∃ g c, v = .slice (some ⟨g, 0, none⟩) l.length c ∧ l.length + 1 ≤ c ∧ w.cell? ⟨g, l.length * 3 + 1, none⟩ = some (.int .i64 7) := by
  obtain ⟨a, c, rfl, h1⟩ := h
  have hc := row_cap h1
  rw [List.length_append, List.length_singleton] at hc
  have hcells := fun g hg => World.ownsRow.cells h1 (g := g) hg
  rcases h1.2 with ⟨_, h0⟩ | ⟨g, cap, cur, h2, _⟩
  · simp at h0
  · injection h2 with h2 h3 h4
    subst h2
    refine ⟨g, c, rfl, hc, ?_⟩
    have := hcells g rfl (l.length * 3 + 1) (.int .i64 7) (by
      rw [acq_app, List.getElem?_append_right (by rw [acq_len]; omega), acq_len, Nat.add_sub_cancel_left]
      rfl)
    rw [WideShapes.add_plain, Nat.zero_add] at this
    exact this

set_option maxHeartbeats 2000000 in
theorem keptR_any {w : World} {B : Nat} {v : Value} {l : List Rc} (h : CpR w B v l) (hl : l.length ≤ 900000) : Calls Try.prog 42 #[v] w fun e w' => e = .returned (.bool true) ∧ w = w' := by
  obtain ⟨g, c, rfl, hc, h7⟩ := h.spot
  obtain ⟨n, hn⟩ : ∃ n, l.length = n := ⟨_, rfl⟩
  rw [hn] at hc h7 hl ⊢
  clear h hn
  have hcut : ∀ wx, (Instr.slice 23 (.slice (some ⟨g, 0, none⟩) n c) none (some (.int .i64 ((n : Int) + 1))) none).run Try.prog wx = .ok (.slice (some ⟨g, 0, none⟩) (n + 1) c) wx := fun wx => by
    rw [show ((n : Int) + 1) = ((n + 1 : Nat) : Int) by omega]
    exact cut_rc _ n (n + 1) c hc wx
  have e1 : ((n + 1 : Nat) : Int) - 1 = n := by omega
  have e2 : ((n : Int) + 1) - 1 = n := by omega
  go_enter Try.func42, Try.ntmps42
  go_wp2
  go_ret
  exact ⟨rfl, rfl⟩
/-- A message's copy, with marks behind its lists. -/
def CpM (w : World) (B : Nat) (v : Value) (m : Ms) : Prop := ∃ q a n r, v = .agg #[.int .i64 m.id, .int .i64 m.fl, q, a, n, r] ∧ CpQ w B q m.q ∧ CpR w B a m.an ∧ CpR w B n m.ns ∧ CpR w B r m.ar
theorem CpM.below {w w' : World} {B : Nat} {v : Value} {m : Ms} (h : CpM w B v m) (hb : Below w.heap.size w w') : CpM w' B v m := by
  obtain ⟨q, a, n, r, rfl, h1, h2, h3, h4⟩ := h
  exact ⟨q, a, n, r, rfl, h1.below hb, h2.below hb, h3.below hb, h4.below hb⟩
theorem CpM.mg {w : World} {B : Nat} {v : Value} {m : Ms} (h : CpM w B v m) (hl : m.q.length + m.an.length + m.ns.length + m.ar.length ≤ 900000) : Mg w w.heap.size v m := by
  obtain ⟨q, a, n, r, rfl, h1, h2, h3, h4⟩ := h
  exact ⟨q, a, n, r, rfl, h1.sq (by omega), h2.sr (by omega), h3.sr (by omega), h4.sr (by omega)⟩

set_option maxHeartbeats 4000000 in
theorem keptM_any {w : World} {B hi : Nat} {u v : Value} {m : Ms} (h : CpM w B u m) (h2 : Mg w hi v m) (h1 : hi ≤ w.heap.size) (hl : m.q.length + m.an.length + m.ns.length + m.ar.length ≤ 900000) :
    Calls Try.prog 20 #[u, v] w (Tells w (.bool true)) := by
  have HMG := Lib.hid (h.mg hl)
  have HM2 := Lib.hid (h2.wide h1)
  obtain ⟨q, a, n, r, rfl, cq, ca, cn, cr⟩ := h
  obtain ⟨q', a', n', r', rfl, hq, ha, hn, hr⟩ := h2
  obtain ⟨qa, qc, rfl⟩ := Lst.shape hq
  obtain ⟨aa, ac, rfl⟩ := Lst.shape ha
  obtain ⟨na, nc, rfl⟩ := Lst.shape hn
  obtain ⟨ra, rc, rfl⟩ := Lst.shape hr
  have HCA := Lib.hid (fun wx (hb : Below w.heap.size w wx) => keptR_any (ca.below hb) (by omega))
  have HCN := Lib.hid (fun wx (hb : Below w.heap.size w wx) => keptR_any (cn.below hb) (by omega))
  have HCR := Lib.hid (fun wx (hb : Below w.heap.size w wx) => keptR_any (cr.below hb) (by omega))
  obtain ⟨g, c, rfl, hc, h7⟩ := cq.spot
  obtain ⟨a1, c1, rfl, _⟩ := ca
  obtain ⟨a2, c2, rfl, _⟩ := cn
  obtain ⟨a3, c3, rfl, _⟩ := cr
  obtain ⟨i0, hi0⟩ : ∃ i, m.id = i := ⟨_, rfl⟩
  obtain ⟨f0, hf0⟩ : ∃ i, m.fl = i := ⟨_, rfl⟩
  obtain ⟨lq, hlq⟩ : ∃ i, m.q.length = i := ⟨_, rfl⟩
  obtain ⟨la, hla⟩ : ∃ i, m.an.length = i := ⟨_, rfl⟩
  obtain ⟨ln, hln⟩ : ∃ i, m.ns.length = i := ⟨_, rfl⟩
  obtain ⟨lr, hlr⟩ : ∃ i, m.ar.length = i := ⟨_, rfl⟩
  rw [hi0, hf0, hlq, hla, hln, hlr] at HMG HM2
  rw [hi0, hf0, hlq, hla, hln, hlr]
  rw [hlq] at hc h7
  rw [hla] at HCA
  rw [hln] at HCN
  rw [hlr] at HCR
  rw [hlq, hla, hln, hlr] at hl
  have hcut : ∀ wx, (Instr.slice 22 (.slice (some ⟨g, 0, none⟩) lq c) none (some (.int .i64 ((lq : Int) + 1))) none).run Try.prog wx = .ok (.slice (some ⟨g, 0, none⟩) (lq + 1) c) wx := fun wx => by
    rw [show ((lq : Int) + 1) = ((lq + 1 : Nat) : Int) by omega]
    exact cut_qn _ lq (lq + 1) c hc wx
  have e1 : ((lq + 1 : Nat) : Int) - 1 = lq := by omega
  have e2 : ((lq : Int) + 1) - 1 = lq := by omega
  have hb0 : Below w.heap.size w ((w.alloc (.cells #[.int .i64 i0, .int .i64 f0, .slice (some ⟨g, 0, none⟩) lq c, .slice a1 la c1, .slice a2 ln c2, .slice a3 lr c3] 25)).alloc (.cells #[.int .i64 i0, .int .i64 f0, .slice qa lq qc, .slice aa la ac, .slice na ln nc, .slice ra lr rc] 25)) := ((Below.refl _ _).alloc (Nat.le_refl _) _).alloc (by simp) _
  obtain ⟨N, hN⟩ : ∃ N, w.heap.size = N := ⟨_, rfl⟩
  have hx := (cel_new6 w (.int .i64 i0) (.int .i64 f0) (.slice (some ⟨g, 0, none⟩) lq c) (.slice a1 la c1) (.slice a2 ln c2) (.slice a3 lr c3) 25).below (by simp) ((Below.refl _ _).alloc (Nat.le_refl _) (.cells #[.int .i64 i0, .int .i64 f0, .slice qa lq qc, .slice aa la ac, .slice na ln nc, .slice ra lr rc] 25))
  rw [hN] at hx
  have hgl : g < w.heap.size := World.block_lt_of_cell? w _ h7
  have HX := Lib.hid hx
  have HB := Lib.hid hb0
  have H7 := Lib.hid h7
  have HGL := Lib.hid hgl
  replace HMG := Lib.hid (HMG.out.later hb0)
  replace HM2 := Lib.hid (HM2.out.later hb0)
  clear hx hb0 h7 hgl hq ha hn hr h1 cq hi0 hf0 hlq hla hln hlr
  go_enter Try.func20, Try.ntmps20
  go_wp2_with fail
  refine (sameM_yes HMG.out HM2.out (Nat.le_refl _) (Nat.le_refl _)).mono ?_; rintro e w1 ⟨rfl, hb⟩
  replace HB := Lib.hid (bel_call HB.out hb)
  replace HX := Lib.hid (HX.out.below (by simp) hb)
  have k7 : w1.cell? ⟨g, lq * 3 + 1, none⟩ = some (.int .i64 7) := (HB.out.cell (p := ⟨g, lq * 3 + 1, none⟩) HGL.out).trans H7.out
  obtain ⟨c0, d1, d2, d3, d4, d5⟩ := HX.out.six
  clear hb
  go_wp2_with fail
  refine (HCA.out _ HB.out).mono ?_; rintro e w2 ⟨rfl, rfl⟩
  go_wp2_with fail
  refine (HCN.out _ HB.out).mono ?_; rintro e w2 ⟨rfl, rfl⟩
  go_wp2_with fail
  refine (HCR.out _ HB.out).mono ?_; rintro e w2 ⟨rfl, rfl⟩
  go_wp2_with fail
  go_ret
  exact ⟨rfl, HB.out⟩
end Go.Proofs.Ytcjgbholgbjejaa

/-
  A region whose loads are fixed by what holds till its last operation, a store, comes up.
-/
namespace Go.Proofs.Ytcjgbholgbjejaa
open Go.RowKit Go.Shelf
set_option linter.unusedVariables false
set_option linter.unusedSimpArgs false

section
variable {P : Program} {md : Region.Mode} {ops : Array Oper} {Q : Exit → Act → World → Prop} {S : World → Prop} {k : Nat}

/-- In whatever order; S holds behind each operation but number k. -/
def Till (P : Program) (md : Region.Mode) (ops : Array Oper) (Q : Exit → Act → World → Prop) (S : World → Prop) (k : Nat) (n : Nat) (l : Array Bool) (a : Act) (w : World) : Prop :=
  match n with
  | 0 => Region.ready md ops l = [] ∧ Q .normal a w
  | n + 1 => (Region.ready md ops l = [] → Q .normal a w) ∧ ∀ i, i ∈ Region.ready md ops l → wpOp P ops Q i (fun a' w' => (i ≠ k → S w') ∧ Till P md ops Q S k n (l.setIfInBounds i true) a' w') a w

theorem Till.any (n : Nat) : ∀ (l : Array Bool) (a : Act) (w : World), Till P md ops Q S k n l a w → wpAny P md ops Q n l a w := by
  induction n with
  | zero => exact fun _ _ _ h => h
  | succ n ih => exact fun l a w h => ⟨h.1, fun i hi => wpOp_mono (fun a' w' hh => ih _ a' w' hh.2) (h.2 i hi)⟩

/-- While i has not come up, nothing that waits for it may. -/
theorem not_ready {i j : Nat} {l : Array Bool} (hi : i ∈ Region.ready md ops l) {o : Oper} (ho : ops[j]? = some o) (hj : j ∈ Region.ready md ops l) {e : Edge} (he : e ∈ o.after) (hb : Region.binds md e = true) : e.on ≠ i := by
  rintro rfl
  obtain ⟨_, o', ho', hall⟩ := mem_ready.1 hj
  obtain rfl : o = o' := by rw [ho] at ho'; exact Option.some.inj ho'
  have h1 := hall e he hb
  have h0 := (mem_ready.1 hi).1
  by_cases hs : e.on < l.size
  · simp only [Array.getD, hs, dite_true] at h0 h1
    rw [h0] at h1
    cases h1
  · simp only [Array.getD, hs, dite_false] at h1
    cases h1

/-- What yields the same wherever S holds may be taken first, if number k waits for it. -/
theorem till_first {i : Nat} {oi ok : Oper} {v : Value} (hi : ops[i]? = some oi) (hk : ops[k]? = some ok) {e : Edge} (he : e ∈ ok.after) (hbe : Region.binds md e = true) (hei : e.on = i) (hns : Region.noSelect ops = true)
    (hQ : ∀ c a w, Q (.panic c) (a.put oi.dst v) w → Q (.panic c) a w) (n : Nat) : ∀ (l : Array Bool) (a : Act) (w : World),
      (∀ j oj, ops[j]? = some oj → j ≠ i → l.getD j true = false → (∀ e ∈ oj.after, Region.binds md e = true → e.on ≠ i) → oi.apart ops oj = true) →
      i ∈ Region.ready md ops l → YieldsIf P ops S oi v a → S w → Till P md ops Q S k n (l.setIfInBounds i true) (a.put oi.dst v) w → Till P md ops Q S k (n + 1) l a w := by
  have hsel := Region.noSelect_spec hns
  induction n with
  | zero =>
    intro l a w _ hr hy hS H
    refine ⟨fun h => absurd (h ▸ hr) (by simp), fun j hj => ?_⟩
    rcases Nat.decEq j i with hji | rfl
    · have hm := ready_mono hj hji
      rw [H.1] at hm
      exact absurd hm (by simp)
    · exact hy.wpOp hi hS ⟨fun _ => hS, H⟩
  | succ n ih =>
    intro l a w hf hr hy hS H
    refine ⟨fun h => absurd (h ▸ hr) (by simp), fun j hj => ?_⟩
    rcases Nat.decEq j i with hji | rfl
    · obtain ⟨hun, oj, hoj, _⟩ := mem_ready.1 hj
      have hjk : j ≠ k := by
        rintro rfl
        exact not_ready hr hk hj he hbe hei
      have hap := hf j oj hoj hji hun fun e' he' hb' => not_ready hr hoj hj he' hb'
      refine wpOp_mono ?_ (wpOp_putIf hoj hap (fun cs b => hsel i oi cs b hi) (fun cs b => hsel j oj cs b hoj) hQ hy (H.2 j (ready_mono hj hji)))
      rintro a' w' ⟨hy', hS', hT⟩
      refine ⟨hS', ih _ a' w' (fun m om hm hmi hmu hmn => hf m om hm hmi ?_ hmn) (ready_mono hr (Ne.symm hji)) hy' (hS' hjk) ?_⟩
      · rcases Nat.decEq j m with hjm | rfl
        · rwa [getD_set_ne true hjm] at hmu
        · exact hun
      · rw [Array.setIfInBounds_comm _ _ hji]
        exact hT
    · exact hy.wpOp hi hS ⟨fun _ => hS, H⟩

/-- Number k waits for number i. -/
def waitsB (md : Region.Mode) (ops : Array Oper) (k i : Nat) : Bool := match ops[k]? with
  | some o => o.after.any fun e => Region.binds md e && e.on == i
  | none => false

theorem till_take {i : Nat} {oi : Oper} {v : Value} {n : Nat} {l : Array Bool} {a : Act} {w : World} (hi : ops[i]? = some oi) (hs : Region.noSelect ops = true) (hf : Region.free md ops l i = true)
    (hr : (Region.ready md ops l).contains i = true) (hQ : ∀ c a w, Q (.panic c) (a.put oi.dst v) w → Q (.panic c) a w) (hy : YieldsIf P ops S oi v a) (hS : S w)
    (h : Till P md ops Q S k n (l.setIfInBounds i true) (a.put oi.dst v) w) (hw : waitsB md ops k i = true := by kernel_rfl) : Till P md ops Q S k (n + 1) l a w := by
  unfold waitsB at hw
  split at hw
  · rename_i ok hk
    obtain ⟨e, he, hbe⟩ := Array.any_eq_true'.mp hw
    rw [Bool.and_eq_true] at hbe
    exact till_first hi hk he hbe.1 (by simpa using hbe.2) hs hQ n l a w (Region.free_spec hi hf) (by simpa using hr) hy hS h
  · cases hw

def TillAll (P : Program) (md : Region.Mode) (ops : Array Oper) (Q : Exit → Act → World → Prop) (S : World → Prop) (k : Nat) (n : Nat) (l : Array Bool) (a : Act) (w : World) (rs : List Nat) : Prop :=
  ∀ i, i ∈ rs → wpOp P ops Q i (fun a' w' => (i ≠ k → S w') ∧ Till P md ops Q S k n (l.setIfInBounds i true) a' w') a w
theorem TillAll.nil {n : Nat} {l : Array Bool} {a : Act} {w : World} : TillAll P md ops Q S k n l a w [] := fun _ h => by cases h
theorem TillAll.cons {n : Nat} {l : Array Bool} {a : Act} {w : World} {i : Nat} {o : Oper} {rs : List Nat} (ho : ops[i]? = some o)
    (h : ∀ K' : Act → World → Prop, Shut (∀ a w, S w → (S w → Till P md ops Q S k n (l.setIfInBounds i true) a w) → K' a w) → if Region.wanted o (yielded ops a.tmps) = true then Oper.wp P o a w K' Q else K' (a.put o.dst undef) w)
    (hs : TillAll P md ops Q S k n l a w rs) (hik : i ≠ k := by decide) : TillAll P md ops Q S k n l a w (i :: rs) := fun j hj => by
  rcases List.mem_cons.1 hj with rfl | hj
  · exact wpOp_step ho fun K' hK => h K' fun a w hS hW => hK a w ⟨fun _ => hS, hW hS⟩
  · exact hs j hj
/-- The last one. -/
theorem TillAll.last {n : Nat} {l : Array Bool} {a : Act} {w : World} {o : Oper} {rs : List Nat} (ho : ops[k]? = some o)
    (h : ∀ K' : Act → World → Prop, Shut (∀ a w, True → (True → Till P md ops Q S k n (l.setIfInBounds k true) a w) → K' a w) → if Region.wanted o (yielded ops a.tmps) = true then Oper.wp P o a w K' Q else K' (a.put o.dst undef) w)
    (hs : TillAll P md ops Q S k n l a w rs) : TillAll P md ops Q S k n l a w (k :: rs) := fun j hj => by
  rcases List.mem_cons.1 hj with rfl | hj
  · exact wpOp_step ho fun K' hK => h K' fun a w _ hW => hK a w ⟨fun hk => absurd rfl hk, hW trivial⟩
  · exact hs j hj
theorem till_ready {rs : List Nat} {n : Nat} {l : Array Bool} {a : Act} {w : World} (hr : Region.ready md ops l = rs) (hne : rs ≠ []) (h : TillAll P md ops Q S k n l a w rs) : Till P md ops Q S k (n + 1) l a w :=
  ⟨fun h0 => absurd (hr ▸ h0) hne, hr ▸ h⟩
theorem till_done {l : Array Bool} {a : Act} {w : World} (hr : Region.ready md ops l = []) (h : Q .normal a w) (n : Nat) : Till P md ops Q S k n l a w := by
  cases n with
  | zero => exact ⟨hr, h⟩
  | succ n => exact ⟨fun _ => h, fun i hi => by rw [hr] at hi; cases hi⟩
theorem wp_region_till {id : Nat} {a : Act} {w : World} (k : Nat) (hm : P.follows .mixedOrders = true) (hS : S w.drew)
    (h : S w.drew → Till P .any ops Q S k ops.size (Array.replicate ops.size false) a w.drew) : (Code.region id ops true).wp P Q a w :=
  wp_region_any hm (Till.any _ _ _ _ (h hS))
end
end Go.Proofs.Ytcjgbholgbjejaa

/-
  A region whose loads are fixed by what holds till the first of some last operations, stores, comes up.
-/
namespace Go.Proofs.Ytcjgbholgbjejaa
open Go.RowKit Go.Shelf
set_option linter.unusedVariables false
set_option linter.unusedSimpArgs false

section
variable {P : Program} {md : Region.Mode} {ops : Array Oper} {Q : Exit → Act → World → Prop} {S : World → Prop} {ks : List Nat}

/-- In whatever order; S holds behind each operation but those of ks. -/
def Tilk (P : Program) (md : Region.Mode) (ops : Array Oper) (Q : Exit → Act → World → Prop) (S : World → Prop) (ks : List Nat) (n : Nat) (l : Array Bool) (a : Act) (w : World) : Prop :=
  match n with
  | 0 => Region.ready md ops l = [] ∧ Q .normal a w
  | n + 1 => (Region.ready md ops l = [] → Q .normal a w) ∧ ∀ i, i ∈ Region.ready md ops l → wpOp P ops Q i (fun a' w' => (i ∉ ks → S w') ∧ Tilk P md ops Q S ks n (l.setIfInBounds i true) a' w') a w

theorem Tilk.any (n : Nat) : ∀ (l : Array Bool) (a : Act) (w : World), Tilk P md ops Q S ks n l a w → wpAny P md ops Q n l a w := by
  induction n with
  | zero => exact fun _ _ _ h => h
  | succ n ih => exact fun l a w h => ⟨h.1, fun i hi => wpOp_mono (fun a' w' hh => ih _ a' w' hh.2) (h.2 i hi)⟩

/-- What yields the same wherever S holds may be taken first, if all of ks wait for it. -/
theorem tilk_first {i : Nat} {oi : Oper} {v : Value} (hi : ops[i]? = some oi) (hw : ∀ k ∈ ks, waitsB md ops k i = true) (hns : Region.noSelect ops = true)
    (hQ : ∀ c a w, Q (.panic c) (a.put oi.dst v) w → Q (.panic c) a w) (n : Nat) : ∀ (l : Array Bool) (a : Act) (w : World),
      (∀ j oj, ops[j]? = some oj → j ≠ i → l.getD j true = false → (∀ e ∈ oj.after, Region.binds md e = true → e.on ≠ i) → oi.apart ops oj = true) →
      i ∈ Region.ready md ops l → YieldsIf P ops S oi v a → S w → Tilk P md ops Q S ks n (l.setIfInBounds i true) (a.put oi.dst v) w → Tilk P md ops Q S ks (n + 1) l a w := by
  have hsel := Region.noSelect_spec hns
  induction n with
  | zero =>
    intro l a w _ hr hy hS H
    refine ⟨fun h => absurd (h ▸ hr) (by simp), fun j hj => ?_⟩
    rcases Nat.decEq j i with hji | rfl
    · have hm := ready_mono hj hji
      rw [H.1] at hm
      exact absurd hm (by simp)
    · exact hy.wpOp hi hS ⟨fun _ => hS, H⟩
  | succ n ih =>
    intro l a w hf hr hy hS H
    refine ⟨fun h => absurd (h ▸ hr) (by simp), fun j hj => ?_⟩
    rcases Nat.decEq j i with hji | rfl
    · obtain ⟨hun, oj, hoj, _⟩ := mem_ready.1 hj
      have hjk : j ∉ ks := by
        intro hjk
        have hwj := hw j hjk
        unfold waitsB at hwj
        rw [hoj] at hwj
        obtain ⟨e, he, hbe⟩ := Array.any_eq_true'.mp hwj
        rw [Bool.and_eq_true] at hbe
        exact not_ready hr hoj hj he hbe.1 (by simpa using hbe.2)
      have hap := hf j oj hoj hji hun fun e' he' hb' => not_ready hr hoj hj he' hb'
      refine wpOp_mono ?_ (wpOp_putIf hoj hap (fun cs b => hsel i oi cs b hi) (fun cs b => hsel j oj cs b hoj) hQ hy (H.2 j (ready_mono hj hji)))
      rintro a' w' ⟨hy', hS', hT⟩
      refine ⟨hS', ih _ a' w' (fun m om hm hmi hmu hmn => hf m om hm hmi ?_ hmn) (ready_mono hr (Ne.symm hji)) hy' (hS' hjk) ?_⟩
      · rcases Nat.decEq j m with hjm | rfl
        · rwa [getD_set_ne true hjm] at hmu
        · exact hun
      · rw [Array.setIfInBounds_comm _ _ hji]
        exact hT
    · exact hy.wpOp hi hS ⟨fun _ => hS, H⟩

theorem tilk_take {i : Nat} {oi : Oper} {v : Value} {n : Nat} {l : Array Bool} {a : Act} {w : World} (hi : ops[i]? = some oi) (hs : Region.noSelect ops = true) (hf : Region.free md ops l i = true)
    (hr : (Region.ready md ops l).contains i = true) (hQ : ∀ c a w, Q (.panic c) (a.put oi.dst v) w → Q (.panic c) a w) (hy : YieldsIf P ops S oi v a) (hS : S w)
    (h : Tilk P md ops Q S ks n (l.setIfInBounds i true) (a.put oi.dst v) w) (hw : (ks.all fun k => waitsB md ops k i) = true := by kernel_rfl) : Tilk P md ops Q S ks (n + 1) l a w :=
  tilk_first hi (List.all_eq_true.mp hw) hs hQ n l a w (Region.free_spec hi hf) (by simpa using hr) hy hS h

def TilkAll (P : Program) (md : Region.Mode) (ops : Array Oper) (Q : Exit → Act → World → Prop) (S : World → Prop) (ks : List Nat) (n : Nat) (l : Array Bool) (a : Act) (w : World) (rs : List Nat) : Prop :=
  ∀ i, i ∈ rs → wpOp P ops Q i (fun a' w' => (i ∉ ks → S w') ∧ Tilk P md ops Q S ks n (l.setIfInBounds i true) a' w') a w
theorem TilkAll.nil {n : Nat} {l : Array Bool} {a : Act} {w : World} : TilkAll P md ops Q S ks n l a w [] := fun _ h => by cases h
theorem TilkAll.cons {n : Nat} {l : Array Bool} {a : Act} {w : World} {i : Nat} {o : Oper} {rs : List Nat} (ho : ops[i]? = some o)
    (h : ∀ K' : Act → World → Prop, Shut (∀ a w, S w → (S w → Tilk P md ops Q S ks n (l.setIfInBounds i true) a w) → K' a w) → if Region.wanted o (yielded ops a.tmps) = true then Oper.wp P o a w K' Q else K' (a.put o.dst undef) w)
    (hs : TilkAll P md ops Q S ks n l a w rs) (hik : i ∉ ks := by decide) : TilkAll P md ops Q S ks n l a w (i :: rs) := fun j hj => by
  rcases List.mem_cons.1 hj with rfl | hj
  · exact wpOp_step ho fun K' hK => h K' fun a w hS hW => hK a w ⟨fun _ => hS, hW hS⟩
  · exact hs j hj
/-- One of the last. -/
theorem TilkAll.last {i : Nat} {n : Nat} {l : Array Bool} {a : Act} {w : World} {o : Oper} {rs : List Nat} (ho : ops[i]? = some o)
    (h : ∀ K' : Act → World → Prop, Shut (∀ a w, True → (True → Tilk P md ops Q S ks n (l.setIfInBounds i true) a w) → K' a w) → if Region.wanted o (yielded ops a.tmps) = true then Oper.wp P o a w K' Q else K' (a.put o.dst undef) w)
    (hs : TilkAll P md ops Q S ks n l a w rs) (hik : i ∈ ks := by decide) : TilkAll P md ops Q S ks n l a w (i :: rs) := fun j hj => by
  rcases List.mem_cons.1 hj with rfl | hj
  · exact wpOp_step ho fun K' hK => h K' fun a w _ hW => hK a w ⟨fun hk => absurd hik hk, hW trivial⟩
  · exact hs j hj
theorem tilk_ready {rs : List Nat} {n : Nat} {l : Array Bool} {a : Act} {w : World} (hr : Region.ready md ops l = rs) (hne : rs ≠ []) (h : TilkAll P md ops Q S ks n l a w rs) : Tilk P md ops Q S ks (n + 1) l a w :=
  ⟨fun h0 => absurd (hr ▸ h0) hne, hr ▸ h⟩
theorem tilk_done {l : Array Bool} {a : Act} {w : World} (hr : Region.ready md ops l = []) (h : Q .normal a w) (n : Nat) : Tilk P md ops Q S ks n l a w := by
  cases n with
  | zero => exact ⟨hr, h⟩
  | succ n => exact ⟨fun _ => h, fun i hi => by rw [hr] at hi; cases hi⟩
theorem wp_region_tilk {id : Nat} {a : Act} {w : World} (ks : List Nat) (hm : P.follows .mixedOrders = true) (hS : S w.drew)
    (h : S w.drew → Tilk P .any ops Q S ks ops.size (Array.replicate ops.size false) a w.drew) : (Code.region id ops true).wp P Q a w :=
  wp_region_any hm (Tilk.any _ _ _ _ (h hS))
end
end Go.Proofs.Ytcjgbholgbjejaa

/-
  The records of a list in memory of their own: copied.
-/
namespace Go.Proofs.Ytcjgbholgbjejaa
open Go.RowKit Go.Shelf
set_option linter.unusedVariables false
set_option linter.unusedSimpArgs false
set_option maxRecDepth 100000

/-- A record in a box, and a row of the call's own. -/
structure Cpd (w wr : World) (N g : Nat) (v : Value) (L : List Rc) (x : Rc) : Prop where
  bel : Below N w wr
  own : OwnRc wr N v L
  cel : Cel wr g [.string (bs x.n), .int .i64 x.t, .int .i64 x.c, .int .i64 x.l, .string (bs x.d)]
  ge : N ≤ g
  ne : ∀ j, v.ownBlock = some j → j ≠ g
section
variable {w wr w' : World} {N g : Nat} {v : Value} {L : List Rc} {x : Rc}
theorem Cpd.lt (h : Cpd w wr N g v L x) : g < wr.heap.size := h.cel.lt (by simp)
theorem Cpd.later (h : Cpd w wr N g v L x) (hb : Below wr.heap.size wr w') : Cpd w w' N g v L x :=
  ⟨below_aside h.bel (Aside.of_all hb : Aside (fun _ => False) wr w') (fun k hk => ⟨by have := h.lt; have := h.ge; omega, id⟩), row_below h.own hb, h.cel.below (by simp) hb, h.ge, h.ne⟩
theorem Cpd.put0 (h : Cpd w wr N g v L x) : Cpd w (wr.setCell ⟨g, 0, none⟩ (.string (bs x.n))) N g v L x := by
  have hst : Aside (fun k => k = g) wr (wr.setCell ⟨g, 0, none⟩ (.string (bs x.n))) := Aside.setCell wr (p := ⟨g, 0, none⟩) _ rfl
  exact ⟨below_aside h.bel hst (fun k hk => ⟨by have := h.lt; have := h.ge; omega, by have := h.ge; omega⟩), row_aside h.own hst h.ne, h.cel.set (o := 0) (by simp) _, h.ge, h.ne⟩
theorem Cpd.put4 (h : Cpd w wr N g v L x) : Cpd w (wr.setCell ⟨g, 4, none⟩ (.string (bs x.d))) N g v L x := by
  have hst : Aside (fun k => k = g) wr (wr.setCell ⟨g, 4, none⟩ (.string (bs x.d))) := Aside.setCell wr (p := ⟨g, 4, none⟩) _ rfl
  exact ⟨below_aside h.bel hst (fun k hk => ⟨by have := h.lt; have := h.ge; omega, by have := h.ge; omega⟩), row_aside h.own hst h.ne, h.cel.set (o := 4) (by simp) _, h.ge, h.ne⟩
end

set_option maxHeartbeats 2000000 in
theorem copied_any {w : World} {hi : Nat} {u : Value} {l : List Rc} (h : SR w hi u l) (h1 : hi ≤ w.heap.size) (hl : l.length ≤ 900000) (hb : ∀ x ∈ l, x.n.length ≤ 1000000 ∧ x.d.length ≤ 1000000) :
    Calls Try.prog 53 #[u] w (fun e w' => ∃ v, e = .returned v ∧ OwnRc w' w.heap.size v l ∧ Below w.heap.size w w') := by
  have HX := Lib.hid h
  have HN := Lib.hid (Lst.len h)
  have HL := Lib.hid hl
  have HBD := Lib.hid hb
  obtain ⟨a, c, rfl⟩ := Lst.shape h
  obtain ⟨N, hN⟩ : ∃ N, w.heap.size = N := ⟨_, rfl⟩
  have HK0 := Lib.hid (show OwnRc w N (.slice none 0 0) [] from World.ownsRow_nil _ _ _ _)
  have HB0 := Lib.hid (show Below N w w from Below.refl _ _)
  have HHI := Lib.hid (show hi ≤ N by omega)
  clear h h1 hl hb
  go_enter Try.func53, Try.ntmps53
  go_wp2_with fail
  go_loopg [3, 8] l.length (fun g v3 v8 wr => ∃ k : Nat, k + g = l.length ∧ v8 = .int .i64 k ∧ Hid (OwnRc wr N v3 (l.take k)) ∧ Hid (Below N w wr) ∧ N ≤ wr.heap.size)
  case atStart => exact ⟨0, by omega, rfl, by simpa using HK0, HB0, by omega⟩
  case round =>
    clear HK0 HB0
    obtain ⟨k, hk, rfl, HK, HB, hsz⟩ := hrel
    have hlen := HN.out
    by_cases hlt : k < l.length
    · obtain ⟨b, off, c2, he, hb, hc⟩ := HX.out.at_ k hlt
      injection he with he hn3 hc3
      clear hn3 hc3
      subst he
      obtain ⟨c0, c1, c2, c3, c4⟩ := hc.keep fun o => HB.out.cell (p := ⟨b, o, none⟩) (Nat.lt_of_lt_of_le hb HHI.out)
      have HTK := Lib.hid (show l.take (k + 1) = l.take k ++ [l[k]] by rw [List.take_add_one, List.getElem?_eq_getElem hlt]; rfl)
      have HBX := Lib.hid (HBD.out l[k] (List.getElem_mem hlt))
      obtain ⟨x, hx⟩ : ∃ x, l[k] = x := ⟨_, rfl⟩
      rw [hx] at c0 c1 c2 c3 c4 HTK HBX
      have HCN := Lib.hid (fun wx => clone_any (bs x.n) (by rw [bs_size]; exact HBX.out.1) wx)
      have HCD := Lib.hid (fun wx => clone_any (bs x.d) (by rw [bs_size]; exact HBX.out.2) wx)
      obtain ⟨L, hL⟩ : ∃ L, l.take k = L := ⟨_, rfl⟩
      have HLL := Lib.hid (show L.length = k by rw [← hL, List.length_take]; omega)
      rw [hL] at HK HTK
      obtain ⟨g, hg⟩ : ∃ g, wr.heap.size = g := ⟨_, rfl⟩
      have hq : Cel (wr.alloc (.cells #[.string (bs x.n), .int .i64 x.t, .int .i64 x.c, .int .i64 x.l, .string (bs x.d)] 48)) g [.string (bs x.n), .int .i64 x.t, .int .i64 x.c, .int .i64 x.l, .string (bs x.d)] := by
        have := cel_new wr (.string (bs x.n)) (.int .i64 x.t) (.int .i64 x.c) (.int .i64 x.l) (.string (bs x.d)) 48
        rwa [hg] at this
      have hb1 : Below wr.heap.size wr (wr.alloc (.cells #[.string (bs x.n), .int .i64 x.t, .int .i64 x.c, .int .i64 x.l, .string (bs x.d)] 48)) := (Below.refl _ _).alloc (Nat.le_refl _) _
      have hcp : Cpd w (wr.alloc (.cells #[.string (bs x.n), .int .i64 x.t, .int .i64 x.c, .int .i64 x.l, .string (bs x.d)] 48)) N g _ L x :=
        ⟨HB.out.alloc hsz _, row_below HK.out hb1, hq, by omega, fun j hj => by have := (World.ownsRow.lt HK.out j hj).2; omega⟩
      have HC := Lib.hid (hcp.later (Below.refl _ _).drew)
      obtain ⟨av, cv, rfl⟩ := row_shape HK.out
      clear hc hx hb hb1 hsz hq hcp HK HB
      go_wp2_with fail
      refine wp_region_held_drew (S := (fun wx => Cel wx g [.string (bs x.n), .int .i64 x.t, .int .i64 x.c, .int .i64 x.l, .string (bs x.d)])) (by kernel_rfl) HC.out.cel (fun hHeld => ?_)
      refine wpAnyH_take (i := 0) (oi := { dst := some 12, op := Op.fieldAddr 48 (Operand.tmp 5) 0, type := 0, pos := "list.go:47", after := #[], guard := none }) (v := ?_) rfl (by kernel_rfl) (by kernel_rfl) (by kernel_rfl) (fun _ _ _ h => h) (Or.inl ⟨by rfl, ?_⟩) (by assumption) ?_
      rotate_left 1
      · intro w hSw; (try dsimp only at hSw); (try obtain ⟨r0, r1, r2, r3, r4⟩ := hSw.five); go_simp; try (with_reducible rfl)
      try simp only [Act.put, List.setIfInBounds_toArray, List.set_cons_zero, List.set_cons_succ]
      refine wpAnyH_take (i := 1) (oi := { dst := some 13, op := Op.load 9 (Operand.tmp 12), type := 9, pos := "list.go:47", after := #[{ on := 0, ground := Ground.data }], guard := none }) (v := ?_) rfl (by kernel_rfl) (by kernel_rfl) (by kernel_rfl) (fun _ _ _ h => h) (Or.inl ⟨by rfl, ?_⟩) (by assumption) ?_
      rotate_left 1
      · intro w hSw; (try dsimp only at hSw); (try obtain ⟨r0, r1, r2, r3, r4⟩ := hSw.five); go_simp; try (with_reducible rfl)
      try simp only [Act.put, List.setIfInBounds_toArray, List.set_cons_zero, List.set_cons_succ]
      refine wpAnyH_take (i := 3) (oi := { dst := some 15, op := Op.fieldAddr 48 (Operand.tmp 5) 4, type := 0, pos := "list.go:47", after := #[], guard := none }) (v := ?_) rfl (by kernel_rfl) (by kernel_rfl) (by kernel_rfl) (fun _ _ _ h => h) (Or.inl ⟨by rfl, ?_⟩) (by assumption) ?_
      rotate_left 1
      · intro w hSw; (try dsimp only at hSw); (try obtain ⟨r0, r1, r2, r3, r4⟩ := hSw.five); go_simp; try (with_reducible rfl)
      try simp only [Act.put, List.setIfInBounds_toArray, List.set_cons_zero, List.set_cons_succ]
      refine wpAnyH_take (i := 4) (oi := { dst := some 16, op := Op.load 9 (Operand.tmp 15), type := 9, pos := "list.go:47", after := #[{ on := 3, ground := Ground.data }], guard := none }) (v := ?_) rfl (by kernel_rfl) (by kernel_rfl) (by kernel_rfl) (fun _ _ _ h => h) (Or.inl ⟨by rfl, ?_⟩) (by assumption) ?_
      rotate_left 1
      · intro w hSw; (try dsimp only at hSw); (try obtain ⟨r0, r1, r2, r3, r4⟩ := hSw.five); go_simp; try (with_reducible rfl)
      try simp only [Act.put, List.setIfInBounds_toArray, List.set_cons_zero, List.set_cons_succ]
      refine wpAnyH_ready (rs := [2]) (by kernel_rfl) (by simp) ?_
      refine AllReadyH.cons (o := { dst := some 14, op := Op.call { callee := Callee.value (Operand.func 52), args := #[Operand.tmp 13], argTypes := #[9] }, type := 9, pos := "list.go:47", after := #[{ on := 1, ground := Ground.data }], guard := none }) rfl (fun K hK => ?_) (AllReadyH.nil)
      go_simp
      refine (HCN.out _).mono ?_; rintro e w1 ⟨rfl, hb⟩
      replace HC := Lib.hid (HC.out.later hb)
      clear hb
      try go_wp2_with fail
      refine hK.out _ _ HC.out.cel (fun hHeld => ?_)
      clear hK K
      try simp only [Act.put, List.setIfInBounds_toArray, List.set_cons_zero, List.set_cons_succ]
      refine wpAnyH_take (i := 6) (oi := { dst := some 18, op := Op.fieldAddr 48 (Operand.tmp 5) 0, type := 0, pos := "list.go:47", after := #[{ on := 0, ground := Ground.phase }, { on := 1, ground := Ground.phase }, { on := 2, ground := Ground.phase }, { on := 3, ground := Ground.phase }, { on := 4, ground := Ground.phase }, { on := 5, ground := Ground.textOnly Departure.lateStoresUnsure }], guard := none }) (v := ?_) rfl (by kernel_rfl) (by kernel_rfl) (by kernel_rfl) (fun _ _ _ h => h) (Or.inl ⟨by rfl, ?_⟩) (by assumption) ?_
      rotate_left 1
      · intro w hSw; (try dsimp only at hSw); (try obtain ⟨r0, r1, r2, r3, r4⟩ := hSw.five); go_simp; try (with_reducible rfl)
      try simp only [Act.put, List.setIfInBounds_toArray, List.set_cons_zero, List.set_cons_succ]
      refine wpAnyH_ready (rs := [5]) (by kernel_rfl) (by simp) ?_
      refine AllReadyH.cons (o := { dst := some 17, op := Op.call { callee := Callee.value (Operand.func 52), args := #[Operand.tmp 16], argTypes := #[9] }, type := 9, pos := "list.go:47", after := #[{ on := 4, ground := Ground.data }, { on := 2, ground := Ground.chain }], guard := none }) rfl (fun K hK => ?_) (AllReadyH.nil)
      go_simp
      refine (HCD.out _).mono ?_; rintro e w1 ⟨rfl, hb⟩
      replace HC := Lib.hid (HC.out.later hb)
      clear hb
      try go_wp2_with fail
      refine hK.out _ _ HC.out.cel (fun hHeld => ?_)
      clear hK K
      try simp only [Act.put, List.setIfInBounds_toArray, List.set_cons_zero, List.set_cons_succ]
      refine wpAnyH_ready (rs := [7]) (by kernel_rfl) (by simp) ?_
      refine AllReadyH.cons (o := { dst := none, op := Op.store 9 (Operand.tmp 18) (Operand.tmp 14), type := 0, pos := "list.go:47", after := #[{ on := 6, ground := Ground.data }, { on := 2, ground := Ground.data }, { on := 5, ground := Ground.chain }, { on := 0, ground := Ground.phase }, { on := 1, ground := Ground.phase }, { on := 2, ground := Ground.phase }, { on := 3, ground := Ground.phase }, { on := 4, ground := Ground.phase }, { on := 5, ground := Ground.textOnly Departure.lateStoresUnsure }], guard := none }) rfl (fun K hK => ?_) (AllReadyH.nil)
      obtain ⟨r0, r1, r2, r3, r4⟩ := HC.out.cel.five
      have fz := HC.out.cel.fz
      go_simp
      clear r0 r1 r2 r3 r4 fz
      replace HC := Lib.hid HC.out.put0
      refine hK.out _ _ HC.out.cel (fun hHeld => ?_)
      clear hK K
      try simp only [Act.put, List.setIfInBounds_toArray, List.set_cons_zero, List.set_cons_succ]
      refine wpAnyH_take (i := 8) (oi := { dst := some 19, op := Op.fieldAddr 48 (Operand.tmp 5) 4, type := 0, pos := "list.go:47", after := #[{ on := 0, ground := Ground.phase }, { on := 1, ground := Ground.phase }, { on := 2, ground := Ground.phase }, { on := 3, ground := Ground.phase }, { on := 4, ground := Ground.phase }, { on := 5, ground := Ground.phase }, { on := 6, ground := Ground.phase }, { on := 7, ground := Ground.phase }], guard := none }) (v := ?_) rfl (by kernel_rfl) (by kernel_rfl) (by kernel_rfl) (fun _ _ _ h => h) (Or.inl ⟨by rfl, ?_⟩) (by assumption) ?_
      rotate_left 1
      · intro w hSw; (try dsimp only at hSw); (try obtain ⟨r0, r1, r2, r3, r4⟩ := hSw.five); go_simp; try (with_reducible rfl)
      try simp only [Act.put, List.setIfInBounds_toArray, List.set_cons_zero, List.set_cons_succ]
      refine wpAnyH_ready (rs := [9]) (by kernel_rfl) (by simp) ?_
      refine AllReadyH.cons (o := { dst := none, op := Op.store 9 (Operand.tmp 19) (Operand.tmp 17), type := 0, pos := "list.go:47", after := #[{ on := 8, ground := Ground.data }, { on := 5, ground := Ground.data }, { on := 7, ground := Ground.chain }, { on := 0, ground := Ground.phase }, { on := 1, ground := Ground.phase }, { on := 2, ground := Ground.phase }, { on := 3, ground := Ground.phase }, { on := 4, ground := Ground.phase }, { on := 5, ground := Ground.phase }, { on := 6, ground := Ground.phase }, { on := 7, ground := Ground.phase }], guard := none }) rfl (fun K hK => ?_) (AllReadyH.nil)
      obtain ⟨r0, r1, r2, r3, r4⟩ := HC.out.cel.five
      have fz := HC.out.cel.fz
      go_simp
      clear r0 r1 r2 r3 r4 fz
      replace HC := Lib.hid HC.out.put4
      refine hK.out _ _ HC.out.cel (fun hHeld => ?_)
      clear hK K
      try simp only [Act.put, List.setIfInBounds_toArray, List.set_cons_zero, List.set_cons_succ]
      refine wpAnyH_done (by kernel_rfl) ?_ _
      clear hHeld
      obtain ⟨WE, hWE⟩ : ∃ X, (w1.setCell ⟨g, 0, none⟩ (.string (bs x.n))).setCell ⟨g, 4, none⟩ (.string (bs x.d)) = X := ⟨_, rfl⟩
      rw [hWE] at HC ⊢
      clear hWE
      have HT : Hid (l.take (k + 1) = L ++ [x]) := HTK
      have hone := sr_one WE x
      have hb4 : Below WE.heap.size WE (WE.alloc (.cells #[.string (bs x.n), .int .i64 x.t, .int .i64 x.c, .int .i64 x.l, .string (bs x.d)] 48)) := (Below.refl _ _).alloc (Nat.le_refl _) _
      have hc4 := HC.out.later hb4
      obtain ⟨a6, c6, w6, hr, hk6, ha6, _⟩ := run_appRc hc4.own hone (by have := HLL.out; have := HL.out; simp; omega) (by have := hc4.lt; have := hc4.ge; omega)
      rw [List.length_singleton] at hr hk6
      have HR := Lib.hid hr
      have hlo := World.ownsRow.lt hc4.own
      have HB6 := Lib.hid (below_aside hc4.bel ha6 (fun j hj => ⟨by have := hc4.lt; have := hc4.ge; omega, fun hg => by have := (hlo _ hg).1; omega⟩))
      have HSZ := Lib.hid (show N ≤ w6.heap.size by have := ha6.size; have := hc4.lt; have := hc4.ge; omega)
      have HK6 := Lib.hid (show OwnRc w6 N (.slice a6 (L.length + 1) c6) (l.take (k + 1)) by rw [HT.out]; exact hk6)
      obtain ⟨q0, q1, q2, q3, q4⟩ := HC.out.cel.five
      clear hone hb4 hc4 hr hk6 ha6 hlo HC HT
      go_wp2_with (at_builtin; refine wpList_append_run (.tmp 20) (.tmp 22) 23 23 rfl rfl rfl rfl HR.out ?_)
      go_roundg (l.length - (k + 1))
      case measure => omega
      case rel => exact ⟨k + 1, by omega, by go_num, HK6, HB6, HSZ.out⟩
    · have t1 : ¬ ((k : Int) < l.length) := by omega
      have hkl : l.take k = l := List.take_of_length_le (by omega)
      rw [hkl] at HK
      clear hkl
      go_wp2_with fail
      go_ret
      exact ⟨_, rfl, by first | exact HK.out | (rw [hN]; exact HK.out), by first | exact HB.out | (rw [hN]; exact HB.out)⟩
end Go.Proofs.Ytcjgbholgbjejaa
