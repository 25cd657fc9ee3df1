/-
  The statement HeadParses.
-/
import Derived.Test.YtknfgcmidpgifaaDoorZ08
import Derived.Laws.OwnMore
import Derived.Test.YtknfgcmidpgifaaDoorRows
import Derived.Test.YtknfgcmidpgifaaDoorZ02
import Derived.SizedLaws
import Derived.HandedShaped
import Derived.LaidLaws
import Derived.Lay
import Derived.Lib.LaidU8T
import Derived.PinnedBridge
import Derived.Shelf.Vars
import Derived.Stop.Joined
namespace Go.Proofs.YtknfgcmidpgifaaDoor
open Go.RowKit Go.Shelf
set_option linter.unusedVariables false
set_option linter.unusedSimpArgs false
set_option maxRecDepth 100000

theorem par_few (b : List UInt8) : (parH b).1.fs.length ≤ 32 := by
  have h0 : z0.fs.length ≤ 32 := by decide
  unfold parH
  split
  · exact h0
  · cases linesB b with
    | nil => exact h0
    | cons l ls =>
      rw [par1]
      split
      · exact h0
      · unfold par2
        split
        · exact h0
        · split
          · exact h0
          · exact (flds_len ls [] (by simp)).1

/-- A head is told: its fields lie in a row of the call's own. -/
def Told (w : World) (m t : List UInt8) (v : Int) (f : List Fd) (k : Nat) (st : Int) (e : Ending) (w' : World) : Prop :=
  ∃ a c, e = .returned (.tuple #[.agg #[.string (bs m), .string (bs t), .int .i64 v, .slice a k c], .int .i64 st]) ∧ OwnF w' w.heap.size (.slice a k c) f ∧ Below w.heap.size w w'
theorem told_of {w w' : World} {e : Ending} {m t : List UInt8} {v st : Int} {f : List Fd} {k : Nat} (hk : f.length = k) (h : HedPost w (⟨m, t, v, f⟩, st) e w') : Told w m t v f k st e w' := by
  obtain ⟨x, rfl, ho, hb⟩ := h
  obtain ⟨a, c, rfl, hof⟩ := Ho.agg ho
  subst hk
  exact ⟨a, c, rfl, hof, hb⟩
theorem row_len {w : World} {B e k n : Nat} {v : Value} {xs : List Value} (h : w.ownsRow B e k v n xs) : xs.length = n * k := h.1
/-- A row's own block, where it is not empty. -/
theorem row_blk {w : World} {B e k n c : Nat} {a : Option Addr} {xs : List Value} (h : w.ownsRow B e k (.slice a n c) n xs) (hn : 0 < n) : ∃ g, a = some ⟨g, 0, none⟩ := by
  obtain ⟨_, ⟨h1, _⟩ | ⟨g, cap, cur, h1, _⟩⟩ := h
  · injection h1 with _ h2 _; omega
  · injection h1 with h2 _ _; exact ⟨g, h2⟩

set_option maxHeartbeats 8000000 in
theorem parses_law {w : World} {bv : Value} {b : List UInt8} (hs : Sl w 0 w.heap.size bv (iz b)) (hE : Env w) : Calls Tryd.prog 3 #[bv] w (Tells w (.bool true)) := by
  have HS := Lib.hid hs
  have HEL := Lib.hid (fun (wx : World) (hb : Below w.heap.size w wx) => hE.later hb)
  obtain ⟨ab, cb, rfl⟩ := sl_shape hs rfl
  by_cases hbl : 6000 < b.length
  · have t6 : (6000 : Int) < b.length := by omega
    have HA := Lib.hid (awake_any hE)
    clear hbl hs hE
    go_enter Tryd.func3, Tryd.ntmps3
    go_wp2_with fail
    refine (HA.out).mono ?_; rintro e w1 ⟨rfl, hb⟩
    have HB1 := Lib.hid hb
    clear hb
    go_wp2_with fail
    go_ret
    exact ⟨rfl, HB1.out⟩
  · have t6 : ¬ ((6000 : Int) < b.length) := by omega
    have HBL := Lib.hid (show b.length ≤ 6000 by omega)
    have HLT := Lib.hid (lent_any HS.out (by rw [iz_len]; omega))
    unfold LentPost at HLT
    rw [iz_len] at HLT
    have hfew := par_few b
    have HPB0 := Lib.hid (fun (wx : World) (v : Value) (h : Sl wx 0 wx.heap.size v (iz b)) (he : Env wx) => parse_any b h he (by have := HBL.out; omega))
    have HRB0 := Lib.hid (fun (wx : World) (v : Value) (h : Sl wx 0 wx.heap.size v (iz b)) => rparse_any b h (by have := HBL.out; omega))
    obtain ⟨X, hX⟩ : ∃ X, parH b = X := ⟨_, rfl⟩
    simp only [hX] at HPB0 HRB0
    rw [hX] at hfew
    obtain ⟨⟨zm, zt, zv, zf⟩, st⟩ := X
    simp only at hfew
    obtain ⟨kf, hkf⟩ : ∃ k, zf.length = k := ⟨_, rfl⟩
    have HPB := Lib.hid (fun (wx : World) (v : Value) (h : Sl wx 0 wx.heap.size v (iz b)) (he : Env wx) => show Calls Tryd.prog 6 #[v] wx (Told wx zm zt zv zf kf st) from (HPB0.out wx v h he).mono fun e w' h => told_of hkf h)
    have HRB := Lib.hid (fun (wx : World) (v : Value) (h : Sl wx 0 wx.heap.size v (iz b)) => show Calls Tryd.prog 7 #[v] wx (Told wx zm zt zv zf kf st) from (HRB0.out wx v h).mono fun e w' h => told_of hkf h)
    have HKF := Lib.hid hkf
    rw [hkf] at hfew
    unfold Told at HPB HRB
    clear hX hbl hs hE hkf HPB0 HRB0
    go_enter Tryd.func3, Tryd.ntmps3
    go_wp2_with fail
    refine (HLT.out).mono ?_; rintro e w1 ⟨rfl, b1, ll1⟩
    obtain ⟨N, hN⟩ : ∃ N, w.heap.size = N := ⟨_, rfl⟩
    rw [hN] at ll1 ⊢
    have HNN := Lib.hid hN
    have HN1 := Lib.hid (show N < w1.heap.size from ll1.lt)
    have HB1 := Lib.hid b1
    have HL1 := Lib.hid ll1
    have HIN := Lib.hid (fun (wx : World) (h : LentAt wx N (iz b)) => show Sl wx 0 wx.heap.size (.slice (some ⟨N, 0, none⟩) b.length (b.length + 3)) (iz b) from by have := h.in_; rw [iz_len] at this; exact this.wide (Nat.zero_le _) h.lt)
    have HP1 := Lib.hid (HPB.out w1 _ (HIN.out w1 ll1) (HEL.out w1 b1))
    clear b1 ll1 hN
    go_wp2_with fail
    refine (HP1.out).mono ?_; rintro e w2 ⟨a2, c2, rfl, ho2, b2⟩
    obtain ⟨P, hP⟩ : ∃ P, w2.heap.size = P := ⟨_, rfl⟩
    have hba : Below w2.heap.size w2 (w2.alloc (.cells #[.string (bs zm), .string (bs zt), .int .i64 zv, .slice a2 kf c2] 27)) := (Below.refl _ _).alloc (Nat.le_refl _) _
    have hx4 := cel_new4 w2 (.string (bs zm)) (.string (bs zt)) (.int .i64 zv) (.slice a2 kf c2) 27
    obtain ⟨w3, hw3⟩ : ∃ wx, w2.alloc (.cells #[.string (bs zm), .string (bs zt), .int .i64 zv, .slice a2 kf c2] 27) = wx := ⟨_, rfl⟩
    have hs3 : w3.heap.size = P + 1 := by rw [← hw3, World.size_alloc, hP]
    rw [hw3] at hba hx4
    rw [hP] at hx4
    have HLO := Lib.hid (fun q (hq : (Value.slice a2 kf c2).ownBlock = some q) => show w1.heap.size ≤ q ∧ q < P from by have := OwnF.lt ho2 q hq; omega)
    have HB3 := Lib.hid (bel_call (bel_call HB1.out b2) hba)
    have HL3 := Lib.hid ((HL1.out.later' b2).later' hba)
    have HO3 := Lib.hid (OwnF.below ho2 (hba))
    have HX3 := Lib.hid hx4
    have HS3 := Lib.hid hs3
    have HP3 := Lib.hid (show w1.heap.size ≤ P by rw [← hP]; exact b2.size)
    have HW3 := Lib.hid hw3
    have HPP := Lib.hid hP
    have HR3 := Lib.hid (HRB.out w3 _ (slb HS.out HB3.out))
    clear ho2 b2 hba hx4 hs3 hw3 hP
    go_wp2_with fail
    rw [HPP.out, HW3.out]
    refine (HR3.out).mono ?_; rintro e w4 ⟨a4, c4, rfl, ho4, b4⟩
    obtain ⟨Q, hQ⟩ : ∃ Q, w4.heap.size = Q := ⟨_, rfl⟩
    have hba : Below w4.heap.size w4 (w4.alloc (.cells #[.string (bs zm), .string (bs zt), .int .i64 zv, .slice a4 kf c4] 27)) := (Below.refl _ _).alloc (Nat.le_refl _) _
    have hx5 := cel_new4 w4 (.string (bs zm)) (.string (bs zt)) (.int .i64 zv) (.slice a4 kf c4) 27
    obtain ⟨w5, hw5⟩ : ∃ wx, w4.alloc (.cells #[.string (bs zm), .string (bs zt), .int .i64 zv, .slice a4 kf c4] 27) = wx := ⟨_, rfl⟩
    have hs5 : w5.heap.size = Q + 1 := by rw [← hw5, World.size_alloc, hQ]
    rw [hw5] at hba hx5
    rw [hQ] at hx5
    have hb5 := bel_call b4 hba
    have HB5 := Lib.hid (bel_call HB3.out hb5)
    have HL5 := Lib.hid (HL3.out.later' hb5)
    have HO5 := Lib.hid (OwnF.below HO3.out hb5)
    have HY5 := Lib.hid (OwnF.below ho4 hba)
    have HX5 := Lib.hid (HX3.out.below (by simp) hb5)
    have HZ5 := Lib.hid hx5
    have HS5 := Lib.hid hs5
    have HPQ := Lib.hid (show P < Q by have := b4.size; have := HS3.out; omega)
    have HYL := Lib.hid (fun q (hq : (Value.slice a4 kf c4).ownBlock = some q) => show P < q ∧ q < Q from by have := OwnF.lt ho4 q hq; have := HS3.out; omega)
    have HW5 := Lib.hid hw5
    have HQQ := Lib.hid hQ
    have HSH := Lib.hid (sameH_yes (h := ⟨zm, zt, zv, zf⟩) (u := .agg #[.string (bs zm), .string (bs zt), .int .i64 zv, .slice a2 kf c2]) (v := .agg #[.string (bs zm), .string (bs zt), .int .i64 zv, .slice a4 kf c4]) (by have := HKF.out; subst this; exact hv_own HO5.out (by omega)) (by have := HKF.out; subst this; exact hv_own HY5.out (by omega)) (Nat.le_refl w5.heap.size) (Nat.le_refl _))
    have HPW := Lib.hid (show w4.heap.size = Q from hQ)
    obtain ⟨y0, y1, y2, y3⟩ := HX5.out.four
    obtain ⟨u0, u1, u2, u3⟩ := hx5.four
    have hpq := HPQ.out
    have y0' : w4.cell? ⟨P, 0, none⟩ = some (.string (bs zm)) := (HX3.out.below (by simp) b4).four.1
    have y1' : w4.cell? ⟨P, 1, none⟩ = some (.string (bs zt)) := (HX3.out.below (by simp) b4).four.2.1
    have y2' : w4.cell? ⟨P, 2, none⟩ = some (.int .i64 zv) := (HX3.out.below (by simp) b4).four.2.2.1
    have y3' : w4.cell? ⟨P, 3, none⟩ = some (.slice a2 kf c2) := (HX3.out.below (by simp) b4).four.2.2.2
    have hpl : P < w4.heap.size := by rw [hQ]; exact hpq
    clear ho4 b4 hba hx5 hs5 hw5 hQ hb5
    go_wp2_with fail
    rw [HQQ.out, HW5.out]
    refine (HSH.out).mono ?_; rintro e w6 ⟨rfl, b6⟩
    have HB6 := Lib.hid (bel_call HB5.out b6)
    have HL6 := Lib.hid (HL5.out.later' b6)
    have HO6 := Lib.hid (OwnF.below HO5.out b6)
    have HY6 := Lib.hid (OwnF.below HY5.out b6)
    have HX6 := Lib.hid (HX5.out.below (by simp) b6)
    have HZ6 := Lib.hid (HZ5.out.below (by simp) b6)
    have HS6 := Lib.hid (show Q < w6.heap.size by have := b6.size; have := HS5.out; omega)
    have HKP := Lib.hid (kept_any (HS.out.below HB6.out (Nat.le_refl _)) (by rw [iz_len]; have := HBL.out; omega) HL6.out HL6.out.lt)
    unfold KeptPost at HKP
    rw [iz_len] at HKP
    clear y0 y1 y2 y3 u0 u1 u2 u3 y0' y1' y2' y3' hpl hpq b6 HSH
    go_wp2_with fail
    refine (HKP.out).mono ?_; rintro e w7 ⟨rfl, b7⟩
    have HB7 := Lib.hid (bel_call HB6.out b7)
    have HL7 := Lib.hid (HL6.out.later' b7)
    have HRW := Lib.hid (show w7.ownsRow w1.heap.size 33 2 (.slice a2 kf c2) kf (acf zf) from by have h := OwnF.below HO6.out b7; unfold OwnF at h; rwa [HKF.out] at h)
    have HY7 := Lib.hid (OwnF.below HY6.out b7)
    have HX7 := Lib.hid (HX6.out.below (by simp) b7)
    have HZ7 := Lib.hid (HZ6.out.below (by simp) b7)
    have HS7 := Lib.hid (Nat.lt_of_lt_of_le HS6.out b7.size)
    have HWN := Lib.hid (show w.heap.size ≤ w1.heap.size from HB1.out.size)
    clear b7 HKP
    go_wp2_with fail
    go_loopg [9] kf (fun n v9 wr => ∃ (i : Nat) (xs : List Value), i + n = kf ∧ v9 = .int .i64 i ∧ Hid (wr.ownsRow w1.heap.size 33 2 (.slice a2 kf c2) kf xs) ∧ Hid (Aside (fun q => (Value.slice a2 kf c2).ownBlock = some q) w7 wr))
    case atStart => exact ⟨0, _, by omega, rfl, HRW, Lib.hid (Aside.of_all (Below.refl _ _))⟩
    case round =>
      clear HRW
      obtain ⟨i, xs, hi, rfl, HRo, HAs⟩ := hrel
      have hxr : wr.cell? ⟨P, 3, none⟩ = some (.slice a2 kf c2) := (HAs.out.cell (p := ⟨P, 3, none⟩) (by have := HPQ.out; have := HS7.out; show P < w7.heap.size; omega) (fun hg => by have := HLO.out P hg; omega)).trans (HX7.out.c 3 (by simp))
      by_cases hlt : i < kf
      · obtain ⟨g, hg⟩ := row_blk HRo.out (by omega)
        subst hg
        have hxl := row_len HRo.out
        obtain ⟨u0, hu0⟩ : ∃ u, xs[i * 2]? = some u := ⟨_, List.getElem?_eq_getElem (by omega)⟩
        obtain ⟨u1, hu1⟩ : ∃ u, xs[i * 2 + 1]? = some u := ⟨_, List.getElem?_eq_getElem (by omega)⟩
        have k0 := (HRo.out.cellAt (i * 2) (by omega)).trans hu0
        have k1 := (HRo.out.cellAt (i * 2 + 1) (by omega)).trans hu1
        have f0 := HRo.out.frozenAt (i * 2)
        have f1 := HRo.out.frozenAt (i * 2 + 1)
        clear hxl hu0 hu1
        go_wp2_with fail
        go_roundg (kf - (i + 1))
        case measure => omega
        case rel =>
          have hst1 : Aside (fun k => k = g) wr (wr.setCell ⟨g, i * 2, none⟩ (.string ⟨#[]⟩)) := Aside.setCell wr (p := ⟨g, i * 2, none⟩) _ rfl
          have hst2 : Aside (fun k => k = g) (wr.setCell ⟨g, i * 2, none⟩ (.string ⟨#[]⟩)) ((wr.setCell ⟨g, i * 2, none⟩ (.string ⟨#[]⟩)).setCell ⟨g, i * 2 + 1, none⟩ (.string ⟨#[]⟩)) := Aside.setCell _ (p := ⟨g, i * 2 + 1, none⟩) _ rfl
          exact ⟨i + 1, (xs.set (i * 2) (.string ⟨#[]⟩)).set (i * 2 + 1) (.string ⟨#[]⟩), by omega, by go_num, Lib.hid (((HRo.out.stored (i * 2) _).1.stored (i * 2 + 1) _).1), Lib.hid ((HAs.out.trans (hst1.mono fun k _ hk => by subst hk; rfl)).trans (hst2.mono fun k _ hk => by subst hk; rfl))⟩
      · have ti : ¬ ((i : Int) < kf) := by omega
        have HBr := Lib.hid (below_aside HB7.out HAs.out (fun q hq => ⟨by have := HB7.out.size; omega, fun hg => by have := HLO.out q hg; have := HWN.out; omega⟩))
        have HLr := Lib.hid (show LentAt wr N (iz b) from (HAs.out.block N HL7.out.lt (fun hg => by have := HLO.out N hg; have := HN1.out; omega)).trans HL7.out)
        have HYr := Lib.hid (show OwnF wr w3.heap.size (.slice a4 kf c4) zf from row_aside HY7.out HAs.out (fun q hq hg => by have := HLO.out q hg; have := HYL.out q hq; omega))
        have HZr := Lib.hid (HZ7.out.aside (by simp) HAs.out (fun hg => by have := HLO.out Q hg; have := HPQ.out; omega))
        have HSr := Lib.hid (Nat.lt_of_lt_of_le HS7.out HAs.out.size)
        have HP8 := Lib.hid (HPB.out wr _ (HIN.out wr HLr.out) (HEL.out wr HBr.out))
        clear hlt
        go_wp2_with fail
        clear hxr
        refine (HP8.out).mono ?_; rintro e w8 ⟨a6, c6, rfl, ho6, b8⟩
        obtain ⟨R, hR⟩ : ∃ R, w8.heap.size = R := ⟨_, rfl⟩
        have hba : Below w8.heap.size w8 (w8.alloc (.cells #[.string (bs zm), .string (bs zt), .int .i64 zv, .slice a6 kf c6] 27)) := (Below.refl _ _).alloc (Nat.le_refl _) _
        obtain ⟨w9, hw9⟩ : ∃ wx, w8.alloc (.cells #[.string (bs zm), .string (bs zt), .int .i64 zv, .slice a6 kf c6] 27) = wx := ⟨_, rfl⟩
        rw [hw9] at hba
        have hb9 := bel_call b8 hba
        have HB9 := Lib.hid (bel_call HBr.out hb9)
        have HY9 := Lib.hid (OwnF.below HYr.out hb9)
        have HO9 := Lib.hid (OwnF.below ho6 hba)
        obtain ⟨y0, y1, y2, y3⟩ := (HZr.out.below (by simp) b8).four
        have hql : Q < w8.heap.size := Nat.lt_of_lt_of_le HSr.out b8.size
        have hqn : Q < R := by rw [← hR]; exact hql
        have HW9 := Lib.hid hw9
        have HSH := Lib.hid (sameH_yes (h := ⟨zm, zt, zv, zf⟩) (u := .agg #[.string (bs zm), .string (bs zt), .int .i64 zv, .slice a6 kf c6]) (v := .agg #[.string (bs zm), .string (bs zt), .int .i64 zv, .slice a4 kf c4]) (by have := HKF.out; subst this; exact hv_own HO9.out (by omega)) (by have := HKF.out; subst this; exact hv_own HY9.out (by omega)) (Nat.le_refl w9.heap.size) (Nat.le_refl _))
        clear ho6 b8 hba hb9 hw9 hR
        go_wp2_with fail
        rw [HW9.out]
        refine (HSH.out).mono ?_; rintro e w10 ⟨rfl, b10⟩
        have HB10 := Lib.hid (bel_call HB9.out b10)
        have HAW := Lib.hid (awake_any (HEL.out w10 HB10.out))
        clear y0 y1 y2 y3 hql hqn b10
        go_wp2_with fail
        refine (HAW.out).mono ?_; rintro e w11 ⟨rfl, b11⟩
        have HB11 := Lib.hid (bel_call HB10.out b11)
        clear b11
        go_wp2_with fail
        go_ret
        exact ⟨rfl, HB11.out⟩
end Go.Proofs.YtknfgcmidpgifaaDoor

/-
  What a card leans on: the wrap with the world's shape and what is laid; the tables and the number that the library's functions lean on.
-/
namespace Go.Proofs.YtknfgcmidpgifaaDoor
open Go.RowKit Go.Shelf
set_option linter.unusedVariables false
set_option linter.unusedSimpArgs false
set_option maxRecDepth 100000

/-- A law's contract at every world that fits: what is laid lies so, and the world has its shape. -/
theorem handed_laid {H : Type} {enc : TypeId × Value → H} {a : Assume} {C : Checked} {os : Os} {f : FuncId} {fn : Func} {s : ChangeSpec} {conds : List PathCond} {apart fresh handsOn again : Bool} {l : List (String × DataW Unit)}
    (own : ownKnob C.prog.godebug = none) (started : os.Started) (noInit : C.prog.inits.idxOf? f = none) (hfn : C.prog.funcs[f]? = some fn)
    (witness : ∃ (w : World) (tape : Tape) (i : Input), w.os = os ∧ (w.forCall tape i).Shaped C.prog ∧ i.vars = [] ∧ Input.okWide C.prog (w.forCall tape i) .any w.heap.size f i ∧
      ((s.pre enc C.prog fn conds apart (w.forCall tape i).memory i.args ∧ laidMetH C.prog l (w.forCall tape i).memory) ∧ sizedMet enc C.prog fn (OpenSpec.ofChange s) apart (w.forCall tape i).memory i.args) ∧ a.holds C.prog (lone (Frame.enter C.prog f i.args .normal) [] (w.forCall tape i)))
    (contract : ∀ (W : World) (base : Nat) (args : Array Value) (ds gs : List (DataW H)) (before : List MemPlace),
      (∀ (j : Nat) t v, fn.params[j]? = some t → args[j]? = some v → Value.okWide C.prog W .any base t v) →
      DataW.Whole enc C.prog fn.params.toList s.vars apart W args.toList ds gs before →
      (DataW.weightsEach C.prog (fn.params.toList ++ s.plain.varTypes C.prog) (ds ++ gs)).all (· ≤ reachBytes) = true → laidMetH C.prog l W → W.ShapedOpen C.prog →
      Calls C.prog f args W fun e W' => ∃ v, e = .returned v ∧ s.post enc C.prog fn apart fresh handsOn again W args v W') :
    ReturnsInHanded a C os f .any (fun w args => (s.pre enc C.prog fn conds apart w args ∧ laidMetH C.prog l w) ∧ sizedMet enc C.prog fn (OpenSpec.ofChange s) apart w args) (s.post enc C.prog fn apart fresh handsOn again) := by
  refine returnsInHanded_of_calls own started noInit witness ?_
  intro w tape i _ hsh _ hok hpre _
  obtain ⟨_, _, _, fn', hfn', _, _, _, _, hval⟩ := hok
  obtain rfl : fn' = fn := Option.some.inj (hfn'.symm.trans hfn)
  obtain ⟨⟨⟨ds, gs, before, hw, _⟩, hl⟩, hz⟩ := hpre
  have hw' := DataW.Whole.of_heap (w' := w.forCall tape i) (by rfl) hw
  refine (contract (w.forCall tape i) w.heap.size i.args ds gs before hval hw' (hz.weights hw) (laidMetH.of_heap (w := (w.forCall tape i).memory) (by rfl) hl) hsh).mono fun e W' ⟨v, he, hp⟩ => ?_
  subst he
  exact ChangeSpec.post_blind hp

theorem first_is : Rows.laid_unicode_utf8_first = Lib.firstData := Pinned.utf8First_eq
theorem accept_is : (Rows.laid_unicode_utf8_acceptRanges : DataW Unit) = Lib.acceptData := by kernel_rfl
/-- The tables lie, and MaxLen holds some number. -/
theorem env_of {w : World} {l : List (String × DataW Unit)} (h : laidMet Tryd.prog l w) (hs : w.ShapedOpen Tryd.prog) (h1 : ("unicode/utf8.first", Rows.laid_unicode_utf8_first) ∈ l) (h2 : ("unicode/utf8.acceptRanges", Rows.laid_unicode_utf8_acceptRanges) ∈ l) : Env w :=
  ⟨utf8Tabs_of_readsT (U8Types.of260 Tryd.lays260) ⟨by kernel_rfl, by kernel_rfl, by kernel_rfl, by kernel_rfl, by kernel_rfl, by kernel_rfl, by kernel_rfl⟩ (first_is ▸ Lib.laidMet.reads h h1) (accept_is ▸ Lib.laidMet.reads h h2),
    cell_of_shapedOpen_int (g := Tryd.lays143_ren.g 1) (t := 3) (zero := #[.int .i64 0]) (k := .i64) hs (of_decide_eq_true (by kernel_rfl)) (by kernel_rfl) rfl (by kernel_rfl) (by kernel_rfl) Tryd.underlying3⟩
end Go.Proofs.YtknfgcmidpgifaaDoor
