/-
  A whole message of the call's own is written over: OverMessage.
-/
import Derived.Test.YtcjgbholgbjejaaX04
import Derived.Test.YtcjgbholgbjejaaX07
import Derived.Test.YtcjgbholgbjejaaX03
namespace Go.Proofs.Ytcjgbholgbjejaa
open Go.RowKit Go.Shelf
set_option linter.unusedVariables false
set_option linter.unusedSimpArgs false
set_option maxRecDepth 100000

/-- A block has so many cells, and none is shut. -/
def Fit (w : World) (g L : Nat) : Prop := ∃ xs : List Value, xs.length = L ∧ Cel w g xs
theorem Fit.set {w : World} {g L : Nat} (h : Fit w g L) (b o : Nat) (v : Value) : Fit (w.setCell ⟨b, o, none⟩ v) g L := by
  obtain ⟨xs, hl, hc⟩ := h
  by_cases hb : b = g
  · subst hb
    by_cases ho : o < xs.length
    · exact ⟨_, by rw [List.length_set]; exact hl, hc.set ho v⟩
    · refine ⟨xs, hl, fun j hj => ?_, fun j => by rw [World.frozen?_setCell]; exact hc.fz j⟩
      rw [World.cell?_setCell_other _ _ _ _ (fun e => by have := congrArg Addr.off e; simp only at this; omega)]
      exact hc.c j hj
  · exact ⟨xs, hl, hc.other (a := ⟨b, o, none⟩) hb _⟩
theorem Fit.later {w w' : World} {g L : Nat} (h : Fit w g L) (hg : g < w.heap.size) (hb : Below w.heap.size w w') : Fit w' g L := by
  obtain ⟨xs, hl, hc⟩ := h
  have ha : Aside (fun _ => False) w w' := Aside.of_all hb
  exact ⟨xs, hl, fun j hj => ha.cell_lt (hc.c j hj) id, fun j => (ha.frozen (p := ⟨g, j, none⟩) hg id).trans (hc.fz j)⟩
/-- A list that may be written over. -/
def Rw (w : World) (B N : Nat) (a : Option Addr) (L : Nat) : Prop := (a = none ∧ L = 0) ∨ ∃ g, a = some ⟨g, 0, none⟩ ∧ B ≤ g ∧ g < N ∧ Fit w g L
theorem Rw.of {w : World} {B k n m c : Nat} {e : TypeId} {a : Option Addr} {xs : List Value} (h : w.ownsRow B e k (.slice a m c) n xs) (hm : m = n) : Rw w B w.heap.size a (m * k) := by
  rcases row_how h with ⟨h1, h2, h3⟩ | ⟨g, rfl, h3⟩
  · exact .inl ⟨h1, by rw [h3]; omega⟩
  · have := World.ownsRow.lt h g rfl
    exact .inr ⟨g, rfl, this.1, this.2, xs, by rw [hm]; exact h.1, row_cel h⟩
/-- What is known while it is written over. -/
structure Ov (w wr : World) (B N : Nat) (qa aa na ra : Option Addr) (lq la ln lr : Nat) : Prop where
  bel : Below B w wr
  lo : B ≤ N
  hi : N < wr.heap.size
  q : Rw wr B N qa (lq * 3)
  a : Rw wr B N aa (la * 5)
  n : Rw wr B N na (ln * 5)
  r : Rw wr B N ra (lr * 5)
section
variable {w wr w' : World} {B N : Nat} {qa aa na ra a : Option Addr} {lq la ln lr L : Nat}
theorem Rw.set (h : Rw wr B N a L) (b o : Nat) (v : Value) : Rw (wr.setCell ⟨b, o, none⟩ v) B N a L := by
  rcases h with h | ⟨g, h1, h2, h3, h4⟩
  · exact .inl h
  · exact .inr ⟨g, h1, h2, h3, h4.set b o v⟩
theorem Rw.later (h : Rw wr B N a L) (hN : N ≤ wr.heap.size) (hb : Below wr.heap.size wr w') : Rw w' B N a L := by
  rcases h with h | ⟨g, h1, h2, h3, h4⟩
  · exact .inl h
  · exact .inr ⟨g, h1, h2, h3, h4.later (by omega) hb⟩
theorem Ov.set (h : Ov w wr B N qa aa na ra lq la ln lr) {b : Nat} (hb : B ≤ b) (o : Nat) (v : Value) : Ov w (wr.setCell ⟨b, o, none⟩ v) B N qa aa na ra lq la ln lr := by
  have ha : Aside (fun k => k = b) wr (wr.setCell ⟨b, o, none⟩ v) := Aside.setCell wr (p := ⟨b, o, none⟩) v rfl
  exact ⟨below_aside h.bel ha (fun k hk => ⟨by have := h.hi; have := h.lo; omega, by omega⟩), h.lo, Nat.lt_of_lt_of_le h.hi ha.size, h.q.set _ _ _, h.a.set _ _ _, h.n.set _ _ _, h.r.set _ _ _⟩
theorem Ov.later (h : Ov w wr B N qa aa na ra lq la ln lr) (hb : Below wr.heap.size wr w') : Ov w w' B N qa aa na ra lq la ln lr :=
  ⟨h.bel.trans (hb.mono (by have := h.hi; have := h.lo; omega)), h.lo, Nat.lt_of_lt_of_le h.hi hb.size, h.q.later (Nat.le_of_lt h.hi) hb, h.a.later (Nat.le_of_lt h.hi) hb, h.n.later (Nat.le_of_lt h.hi) hb, h.r.later (Nat.le_of_lt h.hi) hb⟩
end

set_option maxHeartbeats 8000000 in
theorem overW_any {w : World} {B : Nat} {v : Value} {m : Ms} (h : OwnM w B v m) (hB : B ≤ w.heap.size) (hl : m.q.length + m.an.length + m.ns.length + m.ar.length ≤ 900000) :
    Calls Try.prog 19 #[v] w fun e w' => e = .returned (.tuple #[]) ∧ Below B w w' := by
  obtain ⟨o1, o2, o3, o4, rfl, j1, j2, j3, j4⟩ := h
  obtain ⟨qa, qc, rfl⟩ := row_shape j1
  obtain ⟨aa, ac, rfl⟩ := row_shape j2
  obtain ⟨na, nc, rfl⟩ := row_shape j3
  obtain ⟨ra, rc, rfl⟩ := row_shape j4
  have k1 := Rw.of j1 rfl
  have k2 := Rw.of j2 rfl
  have k3 := Rw.of j3 rfl
  have k4 := Rw.of j4 rfl
  obtain ⟨i0, hi0⟩ : ∃ i, m.id = i := ⟨_, rfl⟩
  obtain ⟨f0, hf0⟩ : ∃ i, m.fl = i := ⟨_, rfl⟩
  obtain ⟨lq, hlq⟩ : ∃ i, m.q.length = i := ⟨_, rfl⟩
  obtain ⟨la, hla⟩ : ∃ i, m.an.length = i := ⟨_, rfl⟩
  obtain ⟨ln, hln⟩ : ∃ i, m.ns.length = i := ⟨_, rfl⟩
  obtain ⟨lr, hlr⟩ : ∃ i, m.ar.length = i := ⟨_, rfl⟩
  rw [hlq, hla, hln, hlr] at hl
  rw [hlq] at k1
  rw [hla] at k2
  rw [hln] at k3
  rw [hlr] at k4
  rw [hi0, hf0, hlq, hla, hln, hlr]
  obtain ⟨N, hN⟩ : ∃ N, w.heap.size = N := ⟨_, rfl⟩
  have hba : Below w.heap.size w (w.alloc (.cells #[.int .i64 i0, .int .i64 f0, .slice qa lq qc, .slice aa la ac, .slice na ln nc, .slice ra lr rc] 25)) := (Below.refl _ _).alloc (Nat.le_refl _) _
  have hx := cel_new6 w (.int .i64 i0) (.int .i64 f0) (.slice qa lq qc) (.slice aa la ac) (.slice na ln nc) (.slice ra lr rc) 25
  have hov : Ov w (w.alloc (.cells #[.int .i64 i0, .int .i64 f0, .slice qa lq qc, .slice aa la ac, .slice na ln nc, .slice ra lr rc] 25)) B N qa aa na ra lq la ln lr :=
    ⟨(Below.refl _ _).alloc hB _, by omega, by simp [hN], hN ▸ k1.later (Nat.le_refl _) hba, hN ▸ k2.later (Nat.le_refl _) hba, hN ▸ k3.later (Nat.le_refl _) hba, hN ▸ k4.later (Nat.le_refl _) hba⟩
  rw [hN] at hx
  have HX := Lib.hid hx
  have HO := Lib.hid hov
  have HL := Lib.hid hl
  obtain ⟨c0, c1, c2, c3, c4, c5⟩ := hx.six
  clear j1 j2 j3 j4 k1 k2 k3 k4 hba hx hov hl hi0 hf0 hlq hla hln hlr hB
  go_enter Try.func19, Try.ntmps19
  go_wp2_with fail
  clear c0 c1 c2 c3 c4 c5
  go_loopg [2] lq (fun k v2 wr => ∃ j : Nat, j + k = lq ∧ v2 = .int .i64 j ∧ Hid (Cel wr N [.int .i64 i0, .int .i64 f0, .slice qa lq qc, .slice aa la ac, .slice na ln nc, .slice ra lr rc]) ∧ Hid (Ov w wr B N qa aa na ra lq la ln lr))
  case atStart => exact ⟨0, by omega, rfl, HX, HO⟩
  case round =>
    clear HX HO
    obtain ⟨j, hj, rfl, HX, HO⟩ := hrel
    have hl := HL.out
    obtain ⟨c0, c1, c2, c3, c4, c5⟩ := HX.out.six
    by_cases hj2 : j < lq
    · rcases HO.out.q with ⟨_, h0⟩ | ⟨g, rfl, hg1, hg2, xs, hxl, hc⟩
      · omega
      · have e0 := hc.c (j * 3) (by omega)
        have e1 := hc.c (j * 3 + 1) (by omega)
        have e2 := hc.c (j * 3 + 2) (by omega)
        obtain ⟨y0, hy0⟩ : ∃ y, xs[j * 3]'(by omega) = y := ⟨_, rfl⟩
        obtain ⟨y1, hy1⟩ : ∃ y, xs[j * 3 + 1]'(by omega) = y := ⟨_, rfl⟩
        obtain ⟨y2, hy2⟩ : ∃ y, xs[j * 3 + 2]'(by omega) = y := ⟨_, rfl⟩
        rw [hy0] at e0
        rw [hy1] at e1
        rw [hy2] at e2
        have fz := hc.fz
        have HX2 := Lib.hid (((HX.out.other (a := ⟨g, j * 3, none⟩) (by show g ≠ N; omega) (.string ⟨#[]⟩)).other (a := ⟨g, j * 3 + 1, none⟩) (by show g ≠ N; omega) (.int .i64 9)).other (a := ⟨g, j * 3 + 2, none⟩) (by show g ≠ N; omega) (.int .i64 0))
        have HO2 := Lib.hid (((HO.out.set hg1 (j * 3) (.string ⟨#[]⟩)).set hg1 (j * 3 + 1) (.int .i64 9)).set hg1 (j * 3 + 2) (.int .i64 0))
        have t1 : (j : Int) < lq := by omega
        clear hc HX HO hy0 hy1 hy2 hxl hg1 hg2
        go_wp2_with fail
        go_roundg (lq - (j + 1))
        case measure => omega
        case rel => exact ⟨j + 1, by omega, by go_num, HX2, HO2⟩
    · have t1 : ¬ ((j : Int) < lq) := by omega
      obtain ⟨G, hG⟩ : ∃ G, wr.heap.size = G := ⟨_, rfl⟩
      have hba : Below wr.heap.size wr (wr.alloc (.cells #[.slice aa la ac, .slice na ln nc, .slice ra lr rc] 23)) := (Below.refl _ _).alloc (Nat.le_refl _) _
      have hg3 := cel_new3 wr (.slice aa la ac) (.slice na ln nc) (.slice ra lr rc) 23
      rw [hG] at hg3
      have HGN := Lib.hid (show N < G by have := HO.out.hi; omega)
      replace HO := Lib.hid (HO.out.later hba)
      have HG := Lib.hid hg3
      clear hba hg3 HX
      go_wp2_with fail
      clear c0 c1 c2 c3 c4 c5
      refine wp_loop_rounds 4 ?_
      rw [rounds_succ]
      obtain ⟨d0, d1, d2⟩ : _ ∧ _ ∧ _ := ⟨HG.out.c 0 (by simp), HG.out.c 1 (by simp), HG.out.c 2 (by simp)⟩
      simp only [List.getElem_cons_zero, List.getElem_cons_succ] at d0 d1 d2
      go_wp2_with fail
      clear d0 d1 d2
      go_loopg [5] la (fun kk v5 wr => ∃ j : Nat, j + kk = la ∧ v5 = .int .i64 j ∧ Hid (Cel wr G [.slice aa la ac, .slice na ln nc, .slice ra lr rc]) ∧ Hid (Ov w wr B N qa aa na ra lq la ln lr))
      case atStart => exact ⟨0, by omega, rfl, HG, HO⟩
      case round =>
        clear HG HO
        obtain ⟨j, hj, rfl, HG, HO⟩ := hrel
        have hl := HL.out
        have hgn := HGN.out
        obtain ⟨d0, d1, d2⟩ : _ ∧ _ ∧ _ := ⟨HG.out.c 0 (by simp), HG.out.c 1 (by simp), HG.out.c 2 (by simp)⟩
        simp only [List.getElem_cons_zero, List.getElem_cons_succ] at d0 d1 d2
        by_cases hj2 : j < la
        · rcases HO.out.a with ⟨_, h0⟩ | ⟨g, rfl, hg1, hg2, xs, hxl, hc⟩
          · omega
          · have e0 := hc.c (j * 5) (by omega)
            have e1 := hc.c (j * 5 + 1) (by omega)
            have e2 := hc.c (j * 5 + 2) (by omega)
            have e3 := hc.c (j * 5 + 3) (by omega)
            have e4 := hc.c (j * 5 + 4) (by omega)
            obtain ⟨y0, hy0⟩ : ∃ y, xs[j * 5]'(by omega) = y := ⟨_, rfl⟩
            obtain ⟨y1, hy1⟩ : ∃ y, xs[j * 5 + 1]'(by omega) = y := ⟨_, rfl⟩
            obtain ⟨y2, hy2⟩ : ∃ y, xs[j * 5 + 2]'(by omega) = y := ⟨_, rfl⟩
            obtain ⟨y3, hy3⟩ : ∃ y, xs[j * 5 + 3]'(by omega) = y := ⟨_, rfl⟩
            obtain ⟨y4, hy4⟩ : ∃ y, xs[j * 5 + 4]'(by omega) = y := ⟨_, rfl⟩
            rw [hy0] at e0
            rw [hy1] at e1
            rw [hy2] at e2
            rw [hy3] at e3
            rw [hy4] at e4
            have fz := hc.fz
            have HG2 := Lib.hid (((((HG.out.other (a := ⟨g, j * 5, none⟩) (by show g ≠ G; omega) (.string ⟨#[]⟩)).other (a := ⟨g, j * 5 + 1, none⟩) (by show g ≠ G; omega) (.int .i64 9)).other (a := ⟨g, j * 5 + 2, none⟩) (by show g ≠ G; omega) (.int .i64 0)).other (a := ⟨g, j * 5 + 3, none⟩) (by show g ≠ G; omega) (.int .i64 0)).other (a := ⟨g, j * 5 + 4, none⟩) (by show g ≠ G; omega) (.string ⟨#[]⟩))
            have HO2 := Lib.hid (((((HO.out.set hg1 (j * 5) (.string ⟨#[]⟩)).set hg1 (j * 5 + 1) (.int .i64 9)).set hg1 (j * 5 + 2) (.int .i64 0)).set hg1 (j * 5 + 3) (.int .i64 0)).set hg1 (j * 5 + 4) (.string ⟨#[]⟩))
            have t1 : (j : Int) < la := by omega
            clear hc HG HO hy0 hy1 hy2 hy3 hy4 hxl hg1 hg2 hgn
            go_wp2_with fail
            go_roundg (la - (j + 1))
            case measure => omega
            case rel => exact ⟨j + 1, by omega, by go_num, HG2, HO2⟩
        · have t1 : ¬ ((j : Int) < la) := by omega
          clear hgn
          go_wp2_with fail
          clear d0 d1 d2
          rw [rounds_succ]
          obtain ⟨d0, d1, d2⟩ : _ ∧ _ ∧ _ := ⟨HG.out.c 0 (by simp), HG.out.c 1 (by simp), HG.out.c 2 (by simp)⟩
          simp only [List.getElem_cons_zero, List.getElem_cons_succ] at d0 d1 d2
          go_wp2_with fail
          clear d0 d1 d2
          go_loopg [5] ln (fun kk v5 wr => ∃ j : Nat, j + kk = ln ∧ v5 = .int .i64 j ∧ Hid (Cel wr G [.slice aa la ac, .slice na ln nc, .slice ra lr rc]) ∧ Hid (Ov w wr B N qa aa na ra lq la ln lr))
          case atStart => exact ⟨0, by omega, rfl, HG, HO⟩
          case round =>
            clear HG HO
            obtain ⟨j, hj, rfl, HG, HO⟩ := hrel
            have hl := HL.out
            have hgn := HGN.out
            obtain ⟨d0, d1, d2⟩ : _ ∧ _ ∧ _ := ⟨HG.out.c 0 (by simp), HG.out.c 1 (by simp), HG.out.c 2 (by simp)⟩
            simp only [List.getElem_cons_zero, List.getElem_cons_succ] at d0 d1 d2
            by_cases hj2 : j < ln
            · rcases HO.out.n with ⟨_, h0⟩ | ⟨g, rfl, hg1, hg2, xs, hxl, hc⟩
              · omega
              · have e0 := hc.c (j * 5) (by omega)
                have e1 := hc.c (j * 5 + 1) (by omega)
                have e2 := hc.c (j * 5 + 2) (by omega)
                have e3 := hc.c (j * 5 + 3) (by omega)
                have e4 := hc.c (j * 5 + 4) (by omega)
                obtain ⟨y0, hy0⟩ : ∃ y, xs[j * 5]'(by omega) = y := ⟨_, rfl⟩
                obtain ⟨y1, hy1⟩ : ∃ y, xs[j * 5 + 1]'(by omega) = y := ⟨_, rfl⟩
                obtain ⟨y2, hy2⟩ : ∃ y, xs[j * 5 + 2]'(by omega) = y := ⟨_, rfl⟩
                obtain ⟨y3, hy3⟩ : ∃ y, xs[j * 5 + 3]'(by omega) = y := ⟨_, rfl⟩
                obtain ⟨y4, hy4⟩ : ∃ y, xs[j * 5 + 4]'(by omega) = y := ⟨_, rfl⟩
                rw [hy0] at e0
                rw [hy1] at e1
                rw [hy2] at e2
                rw [hy3] at e3
                rw [hy4] at e4
                have fz := hc.fz
                have HG2 := Lib.hid (((((HG.out.other (a := ⟨g, j * 5, none⟩) (by show g ≠ G; omega) (.string ⟨#[]⟩)).other (a := ⟨g, j * 5 + 1, none⟩) (by show g ≠ G; omega) (.int .i64 9)).other (a := ⟨g, j * 5 + 2, none⟩) (by show g ≠ G; omega) (.int .i64 0)).other (a := ⟨g, j * 5 + 3, none⟩) (by show g ≠ G; omega) (.int .i64 0)).other (a := ⟨g, j * 5 + 4, none⟩) (by show g ≠ G; omega) (.string ⟨#[]⟩))
                have HO2 := Lib.hid (((((HO.out.set hg1 (j * 5) (.string ⟨#[]⟩)).set hg1 (j * 5 + 1) (.int .i64 9)).set hg1 (j * 5 + 2) (.int .i64 0)).set hg1 (j * 5 + 3) (.int .i64 0)).set hg1 (j * 5 + 4) (.string ⟨#[]⟩))
                have t1 : (j : Int) < ln := by omega
                clear hc HG HO hy0 hy1 hy2 hy3 hy4 hxl hg1 hg2 hgn
                go_wp2_with fail
                go_roundg (ln - (j + 1))
                case measure => omega
                case rel => exact ⟨j + 1, by omega, by go_num, HG2, HO2⟩
            · have t1 : ¬ ((j : Int) < ln) := by omega
              clear hgn
              go_wp2_with fail
              clear d0 d1 d2
              rw [rounds_succ]
              obtain ⟨d0, d1, d2⟩ : _ ∧ _ ∧ _ := ⟨HG.out.c 0 (by simp), HG.out.c 1 (by simp), HG.out.c 2 (by simp)⟩
              simp only [List.getElem_cons_zero, List.getElem_cons_succ] at d0 d1 d2
              go_wp2_with fail
              clear d0 d1 d2
              go_loopg [5] lr (fun kk v5 wr => ∃ j : Nat, j + kk = lr ∧ v5 = .int .i64 j ∧ Hid (Cel wr G [.slice aa la ac, .slice na ln nc, .slice ra lr rc]) ∧ Hid (Ov w wr B N qa aa na ra lq la ln lr))
              case atStart => exact ⟨0, by omega, rfl, HG, HO⟩
              case round =>
                clear HG HO
                obtain ⟨j, hj, rfl, HG, HO⟩ := hrel
                have hl := HL.out
                have hgn := HGN.out
                obtain ⟨d0, d1, d2⟩ : _ ∧ _ ∧ _ := ⟨HG.out.c 0 (by simp), HG.out.c 1 (by simp), HG.out.c 2 (by simp)⟩
                simp only [List.getElem_cons_zero, List.getElem_cons_succ] at d0 d1 d2
                by_cases hj2 : j < lr
                · rcases HO.out.r with ⟨_, h0⟩ | ⟨g, rfl, hg1, hg2, xs, hxl, hc⟩
                  · omega
                  · have e0 := hc.c (j * 5) (by omega)
                    have e1 := hc.c (j * 5 + 1) (by omega)
                    have e2 := hc.c (j * 5 + 2) (by omega)
                    have e3 := hc.c (j * 5 + 3) (by omega)
                    have e4 := hc.c (j * 5 + 4) (by omega)
                    obtain ⟨y0, hy0⟩ : ∃ y, xs[j * 5]'(by omega) = y := ⟨_, rfl⟩
                    obtain ⟨y1, hy1⟩ : ∃ y, xs[j * 5 + 1]'(by omega) = y := ⟨_, rfl⟩
                    obtain ⟨y2, hy2⟩ : ∃ y, xs[j * 5 + 2]'(by omega) = y := ⟨_, rfl⟩
                    obtain ⟨y3, hy3⟩ : ∃ y, xs[j * 5 + 3]'(by omega) = y := ⟨_, rfl⟩
                    obtain ⟨y4, hy4⟩ : ∃ y, xs[j * 5 + 4]'(by omega) = y := ⟨_, rfl⟩
                    rw [hy0] at e0
                    rw [hy1] at e1
                    rw [hy2] at e2
                    rw [hy3] at e3
                    rw [hy4] at e4
                    have fz := hc.fz
                    have HG2 := Lib.hid (((((HG.out.other (a := ⟨g, j * 5, none⟩) (by show g ≠ G; omega) (.string ⟨#[]⟩)).other (a := ⟨g, j * 5 + 1, none⟩) (by show g ≠ G; omega) (.int .i64 9)).other (a := ⟨g, j * 5 + 2, none⟩) (by show g ≠ G; omega) (.int .i64 0)).other (a := ⟨g, j * 5 + 3, none⟩) (by show g ≠ G; omega) (.int .i64 0)).other (a := ⟨g, j * 5 + 4, none⟩) (by show g ≠ G; omega) (.string ⟨#[]⟩))
                    have HO2 := Lib.hid (((((HO.out.set hg1 (j * 5) (.string ⟨#[]⟩)).set hg1 (j * 5 + 1) (.int .i64 9)).set hg1 (j * 5 + 2) (.int .i64 0)).set hg1 (j * 5 + 3) (.int .i64 0)).set hg1 (j * 5 + 4) (.string ⟨#[]⟩))
                    have t1 : (j : Int) < lr := by omega
                    clear hc HG HO hy0 hy1 hy2 hy3 hy4 hxl hg1 hg2 hgn
                    go_wp2_with fail
                    go_roundg (lr - (j + 1))
                    case measure => omega
                    case rel => exact ⟨j + 1, by omega, by go_num, HG2, HO2⟩
                · have t1 : ¬ ((j : Int) < lr) := by omega
                  clear hgn
                  go_wp2_with fail
                  clear d0 d1 d2
                  rw [rounds_succ]
                  go_wp2_with fail
                  go_end0
                  exact ⟨rfl, HO.out.bel⟩
end Go.Proofs.Ytcjgbholgbjejaa

/-
  A message copied with room to spare: CopyMessage.
-/
namespace Go.Proofs.Ytcjgbholgbjejaa
open Go.RowKit Go.Shelf
set_option linter.unusedVariables false
set_option linter.unusedSimpArgs false
set_option maxRecDepth 100000

theorem sq_cel {w : World} {b : Nat} {x : Qn} (h : Cel w b [.string (bs x.n), .int .i64 x.t, .int .i64 x.c]) : SQ w (b + 1) (.slice (some ⟨b, 0, none⟩) 1 1) [x] :=
  ⟨_, 1, rfl, by simp, fun h => by simp at h, fun _ => ⟨b, 0, rfl, by omega, fun i u hu => by
    rw [Nat.zero_add]
    match i, hu with
    | 0, hu => rw [h.c 0 (by simp)]; simpa [acq, cq] using hu
    | 1, hu => rw [h.c 1 (by simp)]; simpa [acq, cq] using hu
    | 2, hu => rw [h.c 2 (by simp)]; simpa [acq, cq] using hu
    | i + 3, hu => simp [acq, cq] at hu⟩⟩

set_option maxHeartbeats 8000000 in
theorem copyM_any {w : World} {hi : Nat} {u : Value} {m : Ms} (h : Mg w hi u m) (h1 : hi ≤ w.heap.size) (hl : m.q.length + m.an.length + m.ns.length + m.ar.length ≤ 900000) :
    Calls Try.prog 8 #[u] w (fun e w' => ∃ v, e = .returned v ∧ CpM w' w.heap.size v m ∧ Below w.heap.size w w') := by
  obtain ⟨q, a, n, r, rfl, hq, ha, hn, hr⟩ := h
  have HCA := Lib.hid (fun wx (hb : Below w.heap.size w wx) => copyR_any (Lst.below ha hb h1) (Nat.le_trans h1 hb.size) (by omega))
  have HCN := Lib.hid (fun wx (hb : Below w.heap.size w wx) => copyR_any (Lst.below hn hb h1) (Nat.le_trans h1 hb.size) (by omega))
  have HCR := Lib.hid (fun wx (hb : Below w.heap.size w wx) => copyR_any (Lst.below hr hb h1) (Nat.le_trans h1 hb.size) (by omega))
  obtain ⟨qa, qc, rfl⟩ := Lst.shape hq
  obtain ⟨aa, ac, rfl⟩ := Lst.shape ha
  obtain ⟨na, nc, rfl⟩ := Lst.shape hn
  obtain ⟨ra, rc, rfl⟩ := Lst.shape hr
  unfold CpM
  obtain ⟨i0, hi0⟩ : ∃ i, m.id = i := ⟨_, rfl⟩
  obtain ⟨f0, hf0⟩ : ∃ i, m.fl = i := ⟨_, rfl⟩
  obtain ⟨l, hl0⟩ : ∃ i, m.q = i := ⟨_, rfl⟩
  obtain ⟨lan, hlan⟩ : ∃ i, m.an = i := ⟨_, rfl⟩
  obtain ⟨lns, hlns⟩ : ∃ i, m.ns = i := ⟨_, rfl⟩
  obtain ⟨lar, hlar⟩ : ∃ i, m.ar = i := ⟨_, rfl⟩
  rw [hi0, hf0, hl0, hlan, hlns, hlar]
  rw [hl0, hlan, hlns, hlar] at hl
  rw [hl0] at hq
  rw [hlan] at HCA
  rw [hlns] at HCN
  rw [hlar] at HCR
  obtain ⟨lq, hlq⟩ : ∃ i, l.length = i := ⟨_, rfl⟩
  obtain ⟨la, hla⟩ : ∃ i, lan.length = i := ⟨_, rfl⟩
  obtain ⟨ln, hln⟩ : ∃ i, lns.length = i := ⟨_, rfl⟩
  obtain ⟨lr, hlr⟩ : ∃ i, lar.length = i := ⟨_, rfl⟩
  rw [hla] at HCA
  rw [hln] at HCN
  rw [hlr] at HCR
  rw [hlq, hla, hln, hlr] at hl ⊢
  rw [hlq] at hq
  obtain ⟨N, hN⟩ : ∃ N, w.heap.size = N := ⟨_, rfl⟩
  have hx := cel_new6 w (.int .i64 i0) (.int .i64 f0) (.slice qa lq qc) (.slice aa la ac) (.slice na ln nc) (.slice ra lr rc) 25
  obtain ⟨W1, hW1⟩ : ∃ X, w.alloc (.cells #[.int .i64 i0, .int .i64 f0, .slice qa lq qc, .slice aa la ac, .slice na ln nc, .slice ra lr rc] 25) = X := ⟨_, rfl⟩
  have hz := cel_new6 W1 (.int .i64 0) (.int .i64 0) (.slice none 0 0) (.slice none 0 0) (.slice none 0 0) (.slice none 0 0) 25
  obtain ⟨W2, hW2⟩ : ∃ X, W1.alloc (.cells #[.int .i64 0, .int .i64 0, .slice none 0 0, .slice none 0 0, .slice none 0 0, .slice none 0 0] 25) = X := ⟨_, rfl⟩
  have s1 : W1.heap.size = N + 1 := by rw [← hW1, World.size_alloc, hN]
  have s2 : W2.heap.size = N + 2 := by rw [← hW2, World.size_alloc, s1]
  rw [hW1, hN] at hx
  rw [hW2, s1] at hz
  have b2 : Below N w W2 := by rw [← hW2, ← hW1]; exact ((Below.refl _ _).alloc (by rw [hN]; exact Nat.le_refl _) _).alloc (by simp [hN]) _
  replace hx := hx.below (by simp) (by rw [← hW2]; exact (Below.refl _ _).alloc (Nat.le_refl _) _ : Below W1.heap.size W1 W2)
  obtain ⟨wc, hwc⟩ : ∃ X, W2.drew = X := ⟨_, rfl⟩
  have HX := Lib.hid (show Cel wc N [.int .i64 i0, .int .i64 f0, .slice qa lq qc, .slice aa la ac, .slice na ln nc, .slice ra lr rc] by rw [← hwc]; exact ⟨hx.c, hx.fz⟩)
  have HZ := Lib.hid (show Cel wc (N + 1) [.int .i64 0, .int .i64 0, .slice none 0 0, .slice none 0 0, .slice none 0 0, .slice none 0 0] by rw [← hwc]; exact ⟨hz.c, hz.fz⟩)
  have HB := Lib.hid (show Below N w wc by rw [← hwc]; exact b2.drew)
  have HU := Lib.hid (show Lst wc hi (.slice qa lq qc) l.length (acq l) from Lst.below hq HB.out (by omega))
  have HSZ := Lib.hid (show N + 2 ≤ wc.heap.size by rw [← hwc]; exact Nat.le_of_eq s2.symm)
  have HL := Lib.hid hl
  have HN := Lib.hid hN
  have HHI := Lib.hid (show hi ≤ N by omega)
  have HLQ := Lib.hid hlq
  clear hq ha hn hr h1 hx hz b2 s2 hl0 hlan hlns hlar hla hln hlr hi0 hf0 hl hlq
  rw [hN] at HCA HCN HCR ⊢
  have hlq9 : lq ≤ 900000 := by have := HL.out; omega
  have hwr : IntKind.i64.wrap ((lq : Int) + 2) = (lq : Int) + 2 := wraps_i64 _ (by omega) (by have e : (2 : Int) ^ 63 = 9223372036854775808 := by decide
                                                                                              omega)
  go_enter Try.func8, Try.ntmps8
  go_wp2_with fail
  clear hN
  have d2 : wc.cell? ⟨N, 2, none⟩ = some (.slice qa lq qc) := HX.out.c 2 (by simp)
  refine wp_region_till (S := (fun wx => wx.cell? ⟨N, 2, none⟩ = some (.slice qa lq qc))) 16 (by kernel_rfl) (by rw [hwc]; exact (HX.out.c 2 (by simp))) (fun hHeld => ?_)
  refine till_take (i := 0) (oi := { dst := some 3, op := Op.fieldAddr 25 (Operand.tmp 1) 2, type := 0, pos := "messages.go:24", after := #[], guard := none }) (v := ?_) rfl (by kernel_rfl) (by kernel_rfl) (by kernel_rfl) (fun _ _ _ h => h) (Or.inl ⟨by rfl, ?_⟩) (by assumption) ?_
  rotate_left 1
  · intro w hSw; (try dsimp only at hSw); go_simp; try (with_reducible rfl)
  try simp only [Act.put, List.setIfInBounds_toArray, List.set_cons_zero, List.set_cons_succ]
  refine till_take (i := 1) (oi := { dst := some 4, op := Op.load 22 (Operand.tmp 3), type := 22, pos := "messages.go:24", after := #[{ on := 0, ground := Ground.data }], guard := none }) (v := ?_) rfl (by kernel_rfl) (by kernel_rfl) (by kernel_rfl) (fun _ _ _ h => h) (Or.inl ⟨by rfl, ?_⟩) (by assumption) ?_
  rotate_left 1
  · intro w hSw; (try dsimp only at hSw); go_simp; try (with_reducible rfl)
  try simp only [Act.put, List.setIfInBounds_toArray, List.set_cons_zero, List.set_cons_succ]
  refine till_take (i := 2) (oi := { dst := some 5, op := Op.call { callee := Callee.builtin Builtin.len, args := #[Operand.tmp 4], argTypes := #[22] }, type := 3, pos := "messages.go:24", after := #[{ on := 1, ground := Ground.data }], guard := none }) (v := ?_) rfl (by kernel_rfl) (by kernel_rfl) (by kernel_rfl) (fun _ _ _ h => h) (Or.inl ⟨by rfl, ?_⟩) (by assumption) ?_
  rotate_left 1
  · intro w hSw; (try dsimp only at hSw); go_simp; try (with_reducible rfl)
  try simp only [Act.put, List.setIfInBounds_toArray, List.set_cons_zero, List.set_cons_succ]
  refine till_take (i := 3) (oi := { dst := some 6, op := Op.binOp BinOp.add 3 (Operand.tmp 5) (Operand.const (Value.int IntKind.i64 2)) 3, type := 3, pos := "messages.go:24", after := #[{ on := 2, ground := Ground.data }], guard := none }) (v := ?_) rfl (by kernel_rfl) (by kernel_rfl) (by kernel_rfl) (fun _ _ _ h => h) (Or.inl ⟨by rfl, ?_⟩) (by assumption) ?_
  rotate_left 1
  · intro w hSw; (try dsimp only at hSw); go_simp; try (with_reducible rfl)
  try simp only [Act.put, List.setIfInBounds_toArray, List.set_cons_zero, List.set_cons_succ]
  refine till_take (i := 5) (oi := { dst := some 8, op := Op.fieldAddr 25 (Operand.tmp 1) 2, type := 0, pos := "messages.go:24", after := #[], guard := none }) (v := ?_) rfl (by kernel_rfl) (by kernel_rfl) (by kernel_rfl) (fun _ _ _ h => h) (Or.inl ⟨by rfl, ?_⟩) (by assumption) ?_
  rotate_left 1
  · intro w hSw; (try dsimp only at hSw); go_simp; try (with_reducible rfl)
  try simp only [Act.put, List.setIfInBounds_toArray, List.set_cons_zero, List.set_cons_succ]
  refine till_take (i := 6) (oi := { dst := some 9, op := Op.load 22 (Operand.tmp 8), type := 22, pos := "messages.go:24", after := #[{ on := 5, ground := Ground.data }], guard := none }) (v := ?_) rfl (by kernel_rfl) (by kernel_rfl) (by kernel_rfl) (fun _ _ _ h => h) (Or.inl ⟨by rfl, ?_⟩) (by assumption) ?_
  rotate_left 1
  · intro w hSw; (try dsimp only at hSw); go_simp; try (with_reducible rfl)
  try simp only [Act.put, List.setIfInBounds_toArray, List.set_cons_zero, List.set_cons_succ]
  refine till_take (i := 8) (oi := { dst := some 11, op := Op.build 50 #[(1, Operand.const (Value.int IntKind.i64 7))], type := 50, pos := "messages.go:24", after := #[], guard := none }) (v := ?_) rfl (by kernel_rfl) (by kernel_rfl) (by kernel_rfl) (fun _ _ _ h => h) (Or.inl ⟨by rfl, ?_⟩) (by assumption) ?_
  rotate_left 1
  · intro w hSw; (try dsimp only at hSw); go_simp; try (with_reducible rfl)
  try simp only [Act.put, List.setIfInBounds_toArray, List.set_cons_zero, List.set_cons_succ]
  refine till_take (i := 11) (oi := { dst := some 14, op := Op.fieldAddr 25 (Operand.tmp 1) 2, type := 0, pos := "messages.go:24", after := #[], guard := none }) (v := ?_) rfl (by kernel_rfl) (by kernel_rfl) (by kernel_rfl) (fun _ _ _ h => h) (Or.inl ⟨by rfl, ?_⟩) (by assumption) ?_
  rotate_left 1
  · intro w hSw; (try dsimp only at hSw); go_simp; try (with_reducible rfl)
  try simp only [Act.put, List.setIfInBounds_toArray, List.set_cons_zero, List.set_cons_succ]
  refine till_take (i := 12) (oi := { dst := some 15, op := Op.load 22 (Operand.tmp 14), type := 22, pos := "messages.go:24", after := #[{ on := 11, ground := Ground.data }], guard := none }) (v := ?_) rfl (by kernel_rfl) (by kernel_rfl) (by kernel_rfl) (fun _ _ _ h => h) (Or.inl ⟨by rfl, ?_⟩) (by assumption) ?_
  rotate_left 1
  · intro w hSw; (try dsimp only at hSw); go_simp; try (with_reducible rfl)
  try simp only [Act.put, List.setIfInBounds_toArray, List.set_cons_zero, List.set_cons_succ]
  refine till_take (i := 13) (oi := { dst := some 16, op := Op.call { callee := Callee.builtin Builtin.len, args := #[Operand.tmp 15], argTypes := #[22] }, type := 3, pos := "messages.go:24", after := #[{ on := 12, ground := Ground.data }], guard := none }) (v := ?_) rfl (by kernel_rfl) (by kernel_rfl) (by kernel_rfl) (fun _ _ _ h => h) (Or.inl ⟨by rfl, ?_⟩) (by assumption) ?_
  rotate_left 1
  · intro w hSw; (try dsimp only at hSw); go_simp; try (with_reducible rfl)
  try simp only [Act.put, List.setIfInBounds_toArray, List.set_cons_zero, List.set_cons_succ]
  refine till_ready (rs := [4, 9]) (by kernel_rfl) (by simp) ?_
  refine TillAll.cons (o := { dst := some 7, op := Op.makeSlice 22 (Operand.const (Value.int IntKind.i64 0)) (Operand.tmp 6), type := 22, pos := "messages.go:24", after := #[{ on := 3, ground := Ground.data }], guard := none }) rfl (fun K hK => ?_) (TillAll.cons (o := { dst := some 12, op := Op.buildSlice 22 1 #[(0, Operand.tmp 11)], type := 22, pos := "messages.go:24", after := #[{ on := 8, ground := Ground.data }], guard := none }) rfl (fun K hK => ?_) (TillAll.nil))
  have HSZ0 := HSZ.out
  obtain ⟨g4, hg4⟩ : ∃ g, wc.heap.size = g := ⟨_, rfl⟩
  obtain ⟨wc, hmk, ho, hb⟩ := make_qn wc lq hlq9
  rw [hg4] at ho HSZ0
  replace HX := Lib.hid (HX.out.below (by simp) hb)
  replace HZ := Lib.hid (HZ.out.below (by simp) hb)
  replace HU := Lib.hid (HU.out.below hb (Nat.le_trans HHI.out (by have := HSZ.out; omega)))
  replace HB := Lib.hid (below_aside HB.out (Aside.of_all hb : Aside (fun _ => False) _ _) (fun k hk => ⟨by have := HSZ.out; omega, id⟩))
  replace HSZ := Lib.hid (Nat.le_trans HSZ.out hb.size)
  clear hb
  have HO := Lib.hid (show OwnQn _ (N + 2) _ _ from row_base ho HSZ0)
  clear ho HSZ0
  go_simp
  clear hmk hg4
  clear d2
  have d2 : wc.cell? ⟨N, 2, none⟩ = some (.slice qa lq qc) := HX.out.c 2 (by simp)
  refine hK.out _ _ (HX.out.c 2 (by simp)) (fun hHeld => ?_)
  clear hK K
  try simp only [Act.put, List.setIfInBounds_toArray, List.set_cons_zero, List.set_cons_succ]
  refine till_ready (rs := [7, 9]) (by kernel_rfl) (by simp) ?_
  refine TillAll.cons (o := { dst := some 10, op := Op.call { callee := Callee.builtin Builtin.append, args := #[Operand.tmp 7, Operand.tmp 9], argTypes := #[22, 22] }, type := 22, pos := "messages.go:24", after := #[{ on := 4, ground := Ground.data }, { on := 6, ground := Ground.data }], guard := none }) rfl (fun K hK => ?_) (TillAll.cons (o := { dst := some 12, op := Op.buildSlice 22 1 #[(0, Operand.tmp 11)], type := 22, pos := "messages.go:24", after := #[{ on := 8, ground := Ground.data }], guard := none }) rfl (fun K hK => ?_) (TillAll.nil))
  obtain ⟨a2, c2, wn, hrun, ho, ha, _⟩ := run_appQn HO.out (show SQ _ _ _ _ from HU.out) (by rw [List.length_nil, Nat.zero_add, HLQ.out]; omega) HSZ.out
  simp only [List.length_nil, Nat.zero_add, List.nil_append] at hrun ho
  rw [HLQ.out] at hrun ho
  have HRUN := Lib.hid hrun
  have hlt := World.ownsRow.lt HO.out
  have hbN : Below (N + 2) wc wn := ha.below fun k hk => ⟨by have := HSZ.out; omega, fun hg => by have := (hlt _ hg).1; omega⟩
  replace HX := Lib.hid (HX.out.aside (by simp) ha (fun hg => by have := (hlt _ hg).1; omega))
  replace HZ := Lib.hid (HZ.out.aside (by simp) ha (fun hg => by have := (hlt _ hg).1; omega))
  replace HU := Lib.hid (HU.out.below hbN (by have := HHI.out; omega))
  replace HB := Lib.hid (below_aside HB.out ha (fun k hk => ⟨by have := HSZ.out; omega, fun hg => by have := (hlt _ hg).1; omega⟩))
  replace HSZ := Lib.hid (Nat.le_trans HSZ.out ha.size)
  have HO := Lib.hid ho
  clear hrun ho ha hlt hbN
  refine oper_app_run (.tmp 7) (.tmp 9) 22 22 rfl rfl rfl rfl HRUN.out ?_
  obtain ⟨wc, hwc⟩ : ∃ X, wn = X := ⟨_, rfl⟩
  rw [hwc] at HX HZ HU HB HSZ HO ⊢
  clear hwc HRUN
  clear d2
  have d2 : wc.cell? ⟨N, 2, none⟩ = some (.slice qa lq qc) := HX.out.c 2 (by simp)
  refine hK.out _ _ (HX.out.c 2 (by simp)) (fun hHeld => ?_)
  clear hK K
  try simp only [Act.put, List.setIfInBounds_toArray, List.set_cons_zero, List.set_cons_succ]
  refine till_ready (rs := [9]) (by kernel_rfl) (by simp) ?_
  refine TillAll.cons (o := { dst := some 12, op := Op.buildSlice 22 1 #[(0, Operand.tmp 11)], type := 22, pos := "messages.go:24", after := #[{ on := 8, ground := Ground.data }], guard := none }) rfl (fun K hK => ?_) (TillAll.nil)
  go_simp
  obtain ⟨mb, hmb⟩ : ∃ g, wc.heap.size = g := ⟨_, rfl⟩
  have hone := cel_new3 wc (.string (bs qmark.n)) (.int .i64 qmark.t) (.int .i64 qmark.c) 50
  have hb : Below wc.heap.size wc (wc.alloc (.cells #[.string (bs qmark.n), .int .i64 qmark.t, .int .i64 qmark.c] 50)) := (Below.refl _ _).alloc (Nat.le_refl _) _
  obtain ⟨wn, hwn⟩ : ∃ X, wc.alloc (.cells #[.string (bs qmark.n), .int .i64 qmark.t, .int .i64 qmark.c] 50) = X := ⟨_, rfl⟩
  have hwn2 : wc.alloc (.cells #[.string ⟨#[]⟩, .int .i64 7, .int .i64 0] 50) = wn := hwn
  rw [hwn, hmb] at hone
  rw [hwn] at hb
  rw [hwn2]
  clear hwn hwn2
  replace HX := Lib.hid (HX.out.below (by simp) hb)
  replace HZ := Lib.hid (HZ.out.below (by simp) hb)
  replace HU := Lib.hid (HU.out.below hb (Nat.le_trans HHI.out (by have := HSZ.out; omega)))
  replace HB := Lib.hid (below_aside HB.out (Aside.of_all hb : Aside (fun _ => False) _ _) (fun k hk => ⟨by have := HSZ.out; omega, id⟩))
  replace HSZ := Lib.hid (Nat.le_trans HSZ.out hb.size)
  replace HO := Lib.hid (show OwnQn _ _ _ _ from row_below HO.out hb)
  clear hb
  have H1 := Lib.hid hone
  clear hone
  try rw [hmb]
  clear hmb
  obtain ⟨wc, hwc⟩ : ∃ X, wn = X := ⟨_, rfl⟩
  rw [hwc] at HX HZ HU HB HSZ H1 HO ⊢
  clear hwc
  clear d2
  have d2 : wc.cell? ⟨N, 2, none⟩ = some (.slice qa lq qc) := HX.out.c 2 (by simp)
  refine hK.out _ _ (HX.out.c 2 (by simp)) (fun hHeld => ?_)
  clear hK K
  try simp only [Act.put, List.setIfInBounds_toArray, List.set_cons_zero, List.set_cons_succ]
  rotate_left 1
  go_simp
  obtain ⟨mb, hmb⟩ : ∃ g, wc.heap.size = g := ⟨_, rfl⟩
  have hone := cel_new3 wc (.string (bs qmark.n)) (.int .i64 qmark.t) (.int .i64 qmark.c) 50
  have hb : Below wc.heap.size wc (wc.alloc (.cells #[.string (bs qmark.n), .int .i64 qmark.t, .int .i64 qmark.c] 50)) := (Below.refl _ _).alloc (Nat.le_refl _) _
  obtain ⟨wn, hwn⟩ : ∃ X, wc.alloc (.cells #[.string (bs qmark.n), .int .i64 qmark.t, .int .i64 qmark.c] 50) = X := ⟨_, rfl⟩
  have hwn2 : wc.alloc (.cells #[.string ⟨#[]⟩, .int .i64 7, .int .i64 0] 50) = wn := hwn
  rw [hwn, hmb] at hone
  rw [hwn] at hb
  rw [hwn2]
  clear hwn hwn2
  have hlt := World.ownsRow.lt HO.out
  have HD := Lib.hid (show ∀ k, (Value.slice (some ⟨g4, 0, none⟩) 0 (lq + 2)).ownBlock = some k → k ≠ mb from fun k hk => by have := (hlt k hk).2; omega)
  clear hlt
  replace HX := Lib.hid (HX.out.below (by simp) hb)
  replace HZ := Lib.hid (HZ.out.below (by simp) hb)
  replace HU := Lib.hid (HU.out.below hb (Nat.le_trans HHI.out (by have := HSZ.out; omega)))
  replace HB := Lib.hid (below_aside HB.out (Aside.of_all hb : Aside (fun _ => False) _ _) (fun k hk => ⟨by have := HSZ.out; omega, id⟩))
  replace HSZ := Lib.hid (Nat.le_trans HSZ.out hb.size)
  replace HO := Lib.hid (show OwnQn _ _ _ _ from row_below HO.out hb)
  clear hb
  have H1 := Lib.hid hone
  clear hone
  try rw [hmb]
  clear hmb
  obtain ⟨wc, hwc⟩ : ∃ X, wn = X := ⟨_, rfl⟩
  rw [hwc] at HX HZ HU HB HSZ H1 HO ⊢
  clear hwc
  clear d2
  have d2 : wc.cell? ⟨N, 2, none⟩ = some (.slice qa lq qc) := HX.out.c 2 (by simp)
  refine hK.out _ _ (HX.out.c 2 (by simp)) (fun hHeld => ?_)
  clear hK K
  try simp only [Act.put, List.setIfInBounds_toArray, List.set_cons_zero, List.set_cons_succ]
  refine till_ready (rs := [7]) (by kernel_rfl) (by simp) ?_
  refine TillAll.cons (o := { dst := some 10, op := Op.call { callee := Callee.builtin Builtin.append, args := #[Operand.tmp 7, Operand.tmp 9], argTypes := #[22, 22] }, type := 22, pos := "messages.go:24", after := #[{ on := 4, ground := Ground.data }, { on := 6, ground := Ground.data }], guard := none }) rfl (fun K hK => ?_) (TillAll.nil)
  obtain ⟨a2, c2, wn, hrun, ho, ha, _⟩ := run_appQn HO.out (show SQ _ _ _ _ from HU.out) (by rw [List.length_nil, Nat.zero_add, HLQ.out]; omega) HSZ.out
  simp only [List.length_nil, Nat.zero_add, List.nil_append] at hrun ho
  rw [HLQ.out] at hrun ho
  have HRUN := Lib.hid hrun
  have hlt := World.ownsRow.lt HO.out
  have hbN : Below (N + 2) wc wn := ha.below fun k hk => ⟨by have := HSZ.out; omega, fun hg => by have := (hlt _ hg).1; omega⟩
  replace HX := Lib.hid (HX.out.aside (by simp) ha (fun hg => by have := (hlt _ hg).1; omega))
  replace HZ := Lib.hid (HZ.out.aside (by simp) ha (fun hg => by have := (hlt _ hg).1; omega))
  replace HU := Lib.hid (HU.out.below hbN (by have := HHI.out; omega))
  replace HB := Lib.hid (below_aside HB.out ha (fun k hk => ⟨by have := HSZ.out; omega, fun hg => by have := (hlt _ hg).1; omega⟩))
  replace HSZ := Lib.hid (Nat.le_trans HSZ.out ha.size)
  replace H1 := Lib.hid (H1.out.aside (by simp) ha (fun hg => HD.out mb hg rfl))
  have HO := Lib.hid ho
  clear hrun ho ha hlt hbN
  refine oper_app_run (.tmp 7) (.tmp 9) 22 22 rfl rfl rfl rfl HRUN.out ?_
  obtain ⟨wc, hwc⟩ : ∃ X, wn = X := ⟨_, rfl⟩
  rw [hwc] at HX HZ HU HB HSZ HO H1 ⊢
  clear hwc HRUN
  clear d2
  have d2 : wc.cell? ⟨N, 2, none⟩ = some (.slice qa lq qc) := HX.out.c 2 (by simp)
  refine hK.out _ _ (HX.out.c 2 (by simp)) (fun hHeld => ?_)
  clear hK K
  try simp only [Act.put, List.setIfInBounds_toArray, List.set_cons_zero, List.set_cons_succ]
  rotate_left 1
  go_simp
  obtain ⟨mb, hmb⟩ : ∃ g, wc.heap.size = g := ⟨_, rfl⟩
  have hone := cel_new3 wc (.string (bs qmark.n)) (.int .i64 qmark.t) (.int .i64 qmark.c) 50
  have hb : Below wc.heap.size wc (wc.alloc (.cells #[.string (bs qmark.n), .int .i64 qmark.t, .int .i64 qmark.c] 50)) := (Below.refl _ _).alloc (Nat.le_refl _) _
  obtain ⟨wn, hwn⟩ : ∃ X, wc.alloc (.cells #[.string (bs qmark.n), .int .i64 qmark.t, .int .i64 qmark.c] 50) = X := ⟨_, rfl⟩
  have hwn2 : wc.alloc (.cells #[.string ⟨#[]⟩, .int .i64 7, .int .i64 0] 50) = wn := hwn
  rw [hwn, hmb] at hone
  rw [hwn] at hb
  rw [hwn2]
  clear hwn hwn2
  replace HX := Lib.hid (HX.out.below (by simp) hb)
  replace HZ := Lib.hid (HZ.out.below (by simp) hb)
  replace HU := Lib.hid (HU.out.below hb (Nat.le_trans HHI.out (by have := HSZ.out; omega)))
  replace HB := Lib.hid (below_aside HB.out (Aside.of_all hb : Aside (fun _ => False) _ _) (fun k hk => ⟨by have := HSZ.out; omega, id⟩))
  replace HSZ := Lib.hid (Nat.le_trans HSZ.out hb.size)
  clear hb
  have H1 := Lib.hid hone
  clear hone
  try rw [hmb]
  clear hmb
  obtain ⟨wc, hwc⟩ : ∃ X, wn = X := ⟨_, rfl⟩
  rw [hwc] at HX HZ HU HB HSZ H1 ⊢
  clear hwc
  clear d2
  have d2 : wc.cell? ⟨N, 2, none⟩ = some (.slice qa lq qc) := HX.out.c 2 (by simp)
  refine hK.out _ _ (HX.out.c 2 (by simp)) (fun hHeld => ?_)
  clear hK K
  try simp only [Act.put, List.setIfInBounds_toArray, List.set_cons_zero, List.set_cons_succ]
  refine till_ready (rs := [4]) (by kernel_rfl) (by simp) ?_
  refine TillAll.cons (o := { dst := some 7, op := Op.makeSlice 22 (Operand.const (Value.int IntKind.i64 0)) (Operand.tmp 6), type := 22, pos := "messages.go:24", after := #[{ on := 3, ground := Ground.data }], guard := none }) rfl (fun K hK => ?_) (TillAll.nil)
  have HSZ0 := HSZ.out
  obtain ⟨g4, hg4⟩ : ∃ g, wc.heap.size = g := ⟨_, rfl⟩
  obtain ⟨wc, hmk, ho, hb⟩ := make_qn wc lq hlq9
  rw [hg4] at ho HSZ0
  have hm1 := H1.out.lt (by simp)
  have HD := Lib.hid (show ∀ k, (Value.slice (some ⟨g4, 0, none⟩) 0 (lq + 2)).ownBlock = some k → k ≠ mb from fun k hk => by (have : g4 = k := by simpa [Value.ownBlock] using hk); omega)
  clear hm1
  replace HX := Lib.hid (HX.out.below (by simp) hb)
  replace HZ := Lib.hid (HZ.out.below (by simp) hb)
  replace HU := Lib.hid (HU.out.below hb (Nat.le_trans HHI.out (by have := HSZ.out; omega)))
  replace HB := Lib.hid (below_aside HB.out (Aside.of_all hb : Aside (fun _ => False) _ _) (fun k hk => ⟨by have := HSZ.out; omega, id⟩))
  replace HSZ := Lib.hid (Nat.le_trans HSZ.out hb.size)
  replace H1 := Lib.hid (H1.out.below (by simp) hb)
  clear hb
  have HO := Lib.hid (show OwnQn _ (N + 2) _ _ from row_base ho HSZ0)
  clear ho HSZ0
  go_simp
  clear hmk hg4
  clear d2
  have d2 : wc.cell? ⟨N, 2, none⟩ = some (.slice qa lq qc) := HX.out.c 2 (by simp)
  refine hK.out _ _ (HX.out.c 2 (by simp)) (fun hHeld => ?_)
  clear hK K
  try simp only [Act.put, List.setIfInBounds_toArray, List.set_cons_zero, List.set_cons_succ]
  refine till_ready (rs := [7]) (by kernel_rfl) (by simp) ?_
  refine TillAll.cons (o := { dst := some 10, op := Op.call { callee := Callee.builtin Builtin.append, args := #[Operand.tmp 7, Operand.tmp 9], argTypes := #[22, 22] }, type := 22, pos := "messages.go:24", after := #[{ on := 4, ground := Ground.data }, { on := 6, ground := Ground.data }], guard := none }) rfl (fun K hK => ?_) (TillAll.nil)
  obtain ⟨a2, c2, wn, hrun, ho, ha, _⟩ := run_appQn HO.out (show SQ _ _ _ _ from HU.out) (by rw [List.length_nil, Nat.zero_add, HLQ.out]; omega) HSZ.out
  simp only [List.length_nil, Nat.zero_add, List.nil_append] at hrun ho
  rw [HLQ.out] at hrun ho
  have HRUN := Lib.hid hrun
  have hlt := World.ownsRow.lt HO.out
  have hbN : Below (N + 2) wc wn := ha.below fun k hk => ⟨by have := HSZ.out; omega, fun hg => by have := (hlt _ hg).1; omega⟩
  replace HX := Lib.hid (HX.out.aside (by simp) ha (fun hg => by have := (hlt _ hg).1; omega))
  replace HZ := Lib.hid (HZ.out.aside (by simp) ha (fun hg => by have := (hlt _ hg).1; omega))
  replace HU := Lib.hid (HU.out.below hbN (by have := HHI.out; omega))
  replace HB := Lib.hid (below_aside HB.out ha (fun k hk => ⟨by have := HSZ.out; omega, fun hg => by have := (hlt _ hg).1; omega⟩))
  replace HSZ := Lib.hid (Nat.le_trans HSZ.out ha.size)
  replace H1 := Lib.hid (H1.out.aside (by simp) ha (fun hg => HD.out mb hg rfl))
  have HO := Lib.hid ho
  clear hrun ho ha hlt hbN
  refine oper_app_run (.tmp 7) (.tmp 9) 22 22 rfl rfl rfl rfl HRUN.out ?_
  obtain ⟨wc, hwc⟩ : ∃ X, wn = X := ⟨_, rfl⟩
  rw [hwc] at HX HZ HU HB HSZ HO H1 ⊢
  clear hwc HRUN
  clear d2
  have d2 : wc.cell? ⟨N, 2, none⟩ = some (.slice qa lq qc) := HX.out.c 2 (by simp)
  refine hK.out _ _ (HX.out.c 2 (by simp)) (fun hHeld => ?_)
  clear hK K
  try simp only [Act.put, List.setIfInBounds_toArray, List.set_cons_zero, List.set_cons_succ]
  rotate_left 1
  iterate 3
    · refine till_ready (rs := [10]) (by kernel_rfl) (by simp) ?_
      refine TillAll.cons (o := { dst := some 13, op := Op.call { callee := Callee.builtin Builtin.append, args := #[Operand.tmp 10, Operand.tmp 12], argTypes := #[22, 22] }, type := 22, pos := "messages.go:24", after := #[{ on := 7, ground := Ground.data }, { on := 9, ground := Ground.data }, { on := 7, ground := Ground.chain }], guard := none }) rfl (fun K hK => ?_) (TillAll.nil)
      obtain ⟨a2, c2, wn, hrun, ho, ha, _⟩ := run_appQn HO.out (show SQ _ _ _ _ from sq_cel H1.out) (by rw [HLQ.out, List.length_singleton]; omega) HSZ.out
      simp only [List.length_singleton] at hrun ho
      rw [HLQ.out] at hrun ho
      have HRUN := Lib.hid hrun
      have hlt := World.ownsRow.lt HO.out
      have hbN : Below (N + 2) wc wn := ha.below fun k hk => ⟨by have := HSZ.out; omega, fun hg => by have := (hlt _ hg).1; omega⟩
      replace HX := Lib.hid (HX.out.aside (by simp) ha (fun hg => by have := (hlt _ hg).1; omega))
      replace HZ := Lib.hid (HZ.out.aside (by simp) ha (fun hg => by have := (hlt _ hg).1; omega))
      replace HU := Lib.hid (HU.out.below hbN (by have := HHI.out; omega))
      replace HB := Lib.hid (below_aside HB.out ha (fun k hk => ⟨by have := HSZ.out; omega, fun hg => by have := (hlt _ hg).1; omega⟩))
      replace HSZ := Lib.hid (Nat.le_trans HSZ.out ha.size)
      have HO := Lib.hid ho
      have hcut := cut_qn a2 (lq + 1) lq c2 (by have := row_cap ho; rw [List.length_append, List.length_singleton, HLQ.out] at this; omega)
      clear hrun ho ha hlt hbN
      refine oper_app_run (.tmp 10) (.tmp 12) 22 22 rfl rfl rfl rfl HRUN.out ?_
      obtain ⟨wc, hwc⟩ : ∃ X, wn = X := ⟨_, rfl⟩
      rw [hwc] at HX HZ HU HB HSZ HO ⊢
      clear hwc HRUN
      clear d2
      have d2 : wc.cell? ⟨N, 2, none⟩ = some (.slice qa lq qc) := HX.out.c 2 (by simp)
      have f2 := HX.out.fz
      refine hK.out _ _ (HX.out.c 2 (by simp)) (fun hHeld => ?_)
      clear hK K
      try simp only [Act.put, List.setIfInBounds_toArray, List.set_cons_zero, List.set_cons_succ]
      refine till_take (i := 14) (oi := { dst := some 17, op := Op.slice 22 (Operand.tmp 13) none (some (Operand.tmp 16)) none, type := 22, pos := "messages.go:24", after := #[{ on := 10, ground := Ground.data }, { on := 13, ground := Ground.data }], guard := none }) (v := ?_) rfl (by kernel_rfl) (by kernel_rfl) (by kernel_rfl) (fun _ _ _ h => h) (Or.inl ⟨by rfl, ?_⟩) (by assumption) ?_
      rotate_left 1
      · intro w hSw; (try dsimp only at hSw); go_simp; try (with_reducible rfl)
      try simp only [Act.put, List.setIfInBounds_toArray, List.set_cons_zero, List.set_cons_succ]
      refine till_take (i := 15) (oi := { dst := some 18, op := Op.fieldAddr 25 (Operand.tmp 1) 2, type := 0, pos := "messages.go:24", after := #[{ on := 0, ground := Ground.phase }, { on := 1, ground := Ground.phase }, { on := 2, ground := Ground.phase }, { on := 3, ground := Ground.phase }, { on := 4, ground := Ground.phase }, { on := 5, ground := Ground.phase }, { on := 6, ground := Ground.phase }, { on := 7, ground := Ground.phase }, { on := 8, ground := Ground.phase }, { on := 9, ground := Ground.phase }, { on := 10, ground := Ground.phase }, { on := 11, ground := Ground.phase }, { on := 12, ground := Ground.phase }, { on := 13, ground := Ground.phase }, { on := 14, ground := Ground.phase }], guard := none }) (v := ?_) rfl (by kernel_rfl) (by kernel_rfl) (by kernel_rfl) (fun _ _ _ h => h) (Or.inl ⟨by rfl, ?_⟩) (by assumption) ?_
      rotate_left 1
      · intro w hSw; (try dsimp only at hSw); go_simp; try (with_reducible rfl)
      try simp only [Act.put, List.setIfInBounds_toArray, List.set_cons_zero, List.set_cons_succ]
      refine till_ready (rs := [16]) (by kernel_rfl) (by simp) ?_
      refine TillAll.last (o := { dst := none, op := Op.store 22 (Operand.tmp 18) (Operand.tmp 17), type := 0, pos := "messages.go:24", after := #[{ on := 15, ground := Ground.data }, { on := 14, ground := Ground.data }, { on := 10, ground := Ground.chain }, { on := 0, ground := Ground.phase }, { on := 1, ground := Ground.phase }, { on := 2, ground := Ground.phase }, { on := 3, ground := Ground.phase }, { on := 4, ground := Ground.phase }, { on := 5, ground := Ground.phase }, { on := 6, ground := Ground.phase }, { on := 7, ground := Ground.phase }, { on := 8, ground := Ground.phase }, { on := 9, ground := Ground.phase }, { on := 10, ground := Ground.phase }, { on := 11, ground := Ground.phase }, { on := 12, ground := Ground.phase }, { on := 13, ground := Ground.phase }, { on := 14, ground := Ground.phase }], guard := none }) rfl (fun K hK => ?_) (TillAll.nil)
      go_simp
      have HQ := Lib.hid (show CpQ wc (N + 2) (.slice a2 lq c2) l from ⟨a2, c2, by rw [HLQ.out], by rw [HLQ.out]; exact HO.out⟩)
      have hst : Aside (fun k => k = N) wc (wc.setCell ⟨N, 2, none⟩ (.slice a2 lq c2)) := Aside.setCell wc (p := ⟨N, 2, none⟩) _ rfl
      replace HX := Lib.hid (show Cel (wc.setCell ⟨N, 2, none⟩ (.slice a2 lq c2)) N [.int .i64 i0, .int .i64 f0, .slice a2 lq c2, .slice aa la ac, .slice na ln nc, .slice ra lr rc] from HX.out.set (o := 2) (by simp) (.slice a2 lq c2))
      replace HZ := Lib.hid (HZ.out.other (a := ⟨N, 2, none⟩) (by show N ≠ N + 1; omega) (.slice a2 lq c2))
      replace HQ := Lib.hid (HQ.out.aside hst (fun k hk hg => by have := (HQ.out.lt k hk).1; omega))
      replace HB := Lib.hid (below_aside HB.out hst (fun k hk => ⟨by have := HSZ.out; omega, by omega⟩))
      replace HSZ := Lib.hid (Nat.le_trans HSZ.out hst.size)
      clear hst HO HU H1 d2 hcut f2
      refine hK.out _ _ trivial (fun hHeld => ?_)
      clear hK K
      try simp only [Act.put, List.setIfInBounds_toArray, List.set_cons_zero, List.set_cons_succ]
      refine till_done (by kernel_rfl) ?_ _
      clear hHeld
      obtain ⟨w5, hw5⟩ : ∃ X, wc.setCell ⟨N, 2, none⟩ (.slice a2 lq c2) = X := ⟨_, rfl⟩
      rw [hw5] at HX HZ HQ HB HSZ ⊢
      clear hw5
      obtain ⟨c0, c1, c3, c4, c5, c6⟩ := HX.out.six
      go_wp2_with fail
      clear c0 c1 c3 c4 c5 c6
      refine (HCA.out _ HB.out).mono ?_; rintro e x3 ⟨v3, rfl, hcp, hb⟩
      obtain ⟨a3, k3, rfl, hown⟩ := hcp
      have HA := Lib.hid (show CpR x3 (N + 2) (.slice a3 lan.length k3) lan from ⟨a3, k3, rfl, row_base hown HSZ.out⟩)
      replace HX := Lib.hid (HX.out.below (by simp) hb)
      replace HZ := Lib.hid (HZ.out.below (by simp) hb)
      replace HB := Lib.hid (below_aside HB.out (Aside.of_all hb : Aside (fun _ => False) _ _) (fun k hk => ⟨by have := HSZ.out; omega, id⟩))
      replace HSZ := Lib.hid (Nat.le_trans HSZ.out hb.size)
      replace HQ := Lib.hid (HQ.out.below hb)
      clear hb hown
      obtain ⟨c0, c1, c3, c4, c5, c6⟩ := HX.out.six
      have fz := HX.out.fz
      have hst : Aside (fun k => k = N) x3 (x3.setCell ⟨N, 3, none⟩ (.slice a3 lan.length k3)) := Aside.setCell x3 (p := ⟨N, 3, none⟩) _ rfl
      replace HX := Lib.hid (show Cel (x3.setCell ⟨N, 3, none⟩ (.slice a3 lan.length k3)) N [.int .i64 i0, .int .i64 f0, .slice a2 lq c2, .slice a3 lan.length k3, .slice na ln nc, .slice ra lr rc] from HX.out.set (o := 3) (by simp) (.slice a3 lan.length k3))
      replace HZ := Lib.hid (HZ.out.other (a := ⟨N, 3, none⟩) (by show N ≠ N + 1; omega) (.slice a3 lan.length k3))
      replace HB := Lib.hid (below_aside HB.out hst (fun k hk => ⟨by have := HSZ.out; omega, by omega⟩))
      replace HSZ := Lib.hid (Nat.le_trans HSZ.out hst.size)
      replace HQ := Lib.hid (HQ.out.aside hst (fun k hk hg => by have := (HQ.out.lt k hk).1; omega))
      replace HA := Lib.hid (HA.out.aside hst (fun k hk hg => by have := (HA.out.lt k hk).1; omega))
      clear hst
      go_wp2_with fail
      clear c0 c1 c3 c4 c5 c6 fz
      refine (HCN.out _ HB.out).mono ?_; rintro e x4 ⟨v4, rfl, hcp, hb⟩
      obtain ⟨a4, k4, rfl, hown⟩ := hcp
      have HNN := Lib.hid (show CpR x4 (N + 2) (.slice a4 lns.length k4) lns from ⟨a4, k4, rfl, row_base hown HSZ.out⟩)
      replace HX := Lib.hid (HX.out.below (by simp) hb)
      replace HZ := Lib.hid (HZ.out.below (by simp) hb)
      replace HB := Lib.hid (below_aside HB.out (Aside.of_all hb : Aside (fun _ => False) _ _) (fun k hk => ⟨by have := HSZ.out; omega, id⟩))
      replace HSZ := Lib.hid (Nat.le_trans HSZ.out hb.size)
      replace HQ := Lib.hid (HQ.out.below hb)
      replace HA := Lib.hid (HA.out.below hb)
      clear hb hown
      obtain ⟨c0, c1, c3, c4, c5, c6⟩ := HX.out.six
      have fz := HX.out.fz
      have hst : Aside (fun k => k = N) x4 (x4.setCell ⟨N, 4, none⟩ (.slice a4 lns.length k4)) := Aside.setCell x4 (p := ⟨N, 4, none⟩) _ rfl
      replace HX := Lib.hid (show Cel (x4.setCell ⟨N, 4, none⟩ (.slice a4 lns.length k4)) N [.int .i64 i0, .int .i64 f0, .slice a2 lq c2, .slice a3 lan.length k3, .slice a4 lns.length k4, .slice ra lr rc] from HX.out.set (o := 4) (by simp) (.slice a4 lns.length k4))
      replace HZ := Lib.hid (HZ.out.other (a := ⟨N, 4, none⟩) (by show N ≠ N + 1; omega) (.slice a4 lns.length k4))
      replace HB := Lib.hid (below_aside HB.out hst (fun k hk => ⟨by have := HSZ.out; omega, by omega⟩))
      replace HSZ := Lib.hid (Nat.le_trans HSZ.out hst.size)
      replace HQ := Lib.hid (HQ.out.aside hst (fun k hk hg => by have := (HQ.out.lt k hk).1; omega))
      replace HA := Lib.hid (HA.out.aside hst (fun k hk hg => by have := (HA.out.lt k hk).1; omega))
      replace HNN := Lib.hid (HNN.out.aside hst (fun k hk hg => by have := (HNN.out.lt k hk).1; omega))
      clear hst
      go_wp2_with fail
      clear c0 c1 c3 c4 c5 c6 fz
      refine (HCR.out _ HB.out).mono ?_; rintro e x5 ⟨v5, rfl, hcp, hb⟩
      obtain ⟨a5, k5, rfl, hown⟩ := hcp
      have HRR := Lib.hid (show CpR x5 (N + 2) (.slice a5 lar.length k5) lar from ⟨a5, k5, rfl, row_base hown HSZ.out⟩)
      replace HX := Lib.hid (HX.out.below (by simp) hb)
      replace HZ := Lib.hid (HZ.out.below (by simp) hb)
      replace HB := Lib.hid (below_aside HB.out (Aside.of_all hb : Aside (fun _ => False) _ _) (fun k hk => ⟨by have := HSZ.out; omega, id⟩))
      replace HSZ := Lib.hid (Nat.le_trans HSZ.out hb.size)
      replace HQ := Lib.hid (HQ.out.below hb)
      replace HA := Lib.hid (HA.out.below hb)
      replace HNN := Lib.hid (HNN.out.below hb)
      clear hb hown
      obtain ⟨c0, c1, c3, c4, c5, c6⟩ := HX.out.six
      have fz := HX.out.fz
      obtain ⟨z0, z1, z2, z3, z4, z5⟩ := HZ.out.six
      have fy := HZ.out.fz
      have hst : Aside (fun k => k = N) x5 (x5.setCell ⟨N, 5, none⟩ (.slice a5 lar.length k5)) := Aside.setCell x5 (p := ⟨N, 5, none⟩) _ rfl
      replace HX := Lib.hid (show Cel (x5.setCell ⟨N, 5, none⟩ (.slice a5 lar.length k5)) N [.int .i64 i0, .int .i64 f0, .slice a2 lq c2, .slice a3 lan.length k3, .slice a4 lns.length k4, .slice a5 lar.length k5] from HX.out.set (o := 5) (by simp) (.slice a5 lar.length k5))
      replace HZ := Lib.hid (HZ.out.other (a := ⟨N, 5, none⟩) (by show N ≠ N + 1; omega) (.slice a5 lar.length k5))
      replace HB := Lib.hid (below_aside HB.out hst (fun k hk => ⟨by have := HSZ.out; omega, by omega⟩))
      replace HSZ := Lib.hid (Nat.le_trans HSZ.out hst.size)
      replace HQ := Lib.hid (HQ.out.aside hst (fun k hk hg => by have := (HQ.out.lt k hk).1; omega))
      replace HA := Lib.hid (HA.out.aside hst (fun k hk hg => by have := (HA.out.lt k hk).1; omega))
      replace HNN := Lib.hid (HNN.out.aside hst (fun k hk hg => by have := (HNN.out.lt k hk).1; omega))
      replace HRR := Lib.hid (HRR.out.aside hst (fun k hk hg => by have := (HRR.out.lt k hk).1; omega))
      clear hst
      go_wp2_with fail
      clear c0 c1 c3 c4 c5 c6 fz
      clear z0 z1 z2 z3 z4 z5 fy
      obtain ⟨wf, hwf⟩ : ∃ X, x5.setCell ⟨N, 5, none⟩ (.slice a5 lar.length k5) = X := ⟨_, rfl⟩
      rw [hwf] at HX HZ HB HSZ HQ HA HNN HRR ⊢
      have q6 := cel_put6 HZ.out (.int .i64 i0) (.int .i64 f0) (.slice a2 lq c2) (.slice a3 lan.length k3) (.slice a4 lns.length k4) (.slice a5 lar.length k5)
      have hst := aside_put6 wf (N + 1) (.int .i64 i0) (.int .i64 f0) (.slice a2 lq c2) (.slice a3 lan.length k3) (.slice a4 lns.length k4) (.slice a5 lar.length k5)
      obtain ⟨m0, m1, m2, m3, m4, m5⟩ := q6.six
      unfold put6 at m0 m1 m2 m3 m4 m5 hst
      refine bodyPost_ret (by simp [results, Try.results8, go_sem, m0, m1, m2, m3, m4, m5]) rfl ⟨_, rfl, ⟨.slice a2 lq c2, .slice a3 lan.length k3, .slice a4 lns.length k4, .slice a5 lar.length k5, rfl, ?_, ?_, ?_, ?_⟩, ?_⟩
      · exact (HQ.out.aside hst (fun k hk hg => by have := (HQ.out.lt k hk).1; omega)).base (by omega)
      · exact (HA.out.aside hst (fun k hk hg => by have := (HA.out.lt k hk).1; omega)).base (by omega)
      · exact (HNN.out.aside hst (fun k hk hg => by have := (HNN.out.lt k hk).1; omega)).base (by omega)
      · exact (HRR.out.aside hst (fun k hk hg => by have := (HRR.out.lt k hk).1; omega)).base (by omega)
      · exact below_aside HB.out hst (fun k hk => ⟨by have := HSZ.out; omega, by omega⟩)
end Go.Proofs.Ytcjgbholgbjejaa
