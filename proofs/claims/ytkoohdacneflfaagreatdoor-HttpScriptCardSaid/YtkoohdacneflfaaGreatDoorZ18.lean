/-
  Push of any reader; which items are the last ones.
-/
import Derived.Test.YtkoohdacneflfaaGreatDoorZ17
namespace Go.Proofs.YtkoohdacneflfaaGreatDoor
open Go.RowKit Go.Shelf
set_option linter.unusedVariables false
set_option linter.unusedSimpArgs false
set_option maxRecDepth 100000

/-- What a push comes to, whether the reader is over or not. -/
def stepX (l : List UInt8) (out : Bool) (p : List UInt8) : List Ih × List UInt8 × Bool := if out then ([], [], true) else runH (l ++ p)
def PushX (w : World) (N : Nat) (o : Option Nat) (r : Nat) (out : Bool) (X : List Ih × List UInt8 × Bool) (e : Ending) (w' : World) : Prop :=
  ∃ v ps o', e = .returned (.tuple #[v, .int .i64 (if out then 9 else 0)]) ∧ ps.map (·.x) = X.1 ∧ TI w' N w.heap.size (fun k => k = r ∨ o' = some k) v ps ∧ Rk w' N o' r X.2.1 X.2.2 ∧ (∀ g, o' = some g → o = some g ∨ w.heap.size ≤ g) ∧ Aside (fun k => k = r ∨ o = some k) w w'
theorem Rk.nil {w : World} {N : Nat} {o : Option Nat} {r : Nat} {b : List UInt8} (h : Rk w N o r b true) : b = [] := by
  obtain ⟨kv, _, _, _, _, ⟨e, _⟩ | ⟨_, e, _⟩⟩ := h
  · cases e
  · exact e
theorem pushX_any {w : World} {N : Nat} {o : Option Nat} {r : Nat} {b p : List UInt8} {bv : Value} {lo hi : Nat} {out : Bool} (h : Rk w N o r b out) (hs : Sl w lo hi bv (iz p)) (hE : EnvN w N) (hL : (b ++ p).length ≤ 900000) :
    Calls Tryz.prog 13 #[.pointer (some ⟨r, 0, none⟩), bv] w (PushX w N o r out (stepX b out p)) := by
  cases out with
  | false =>
    refine (push_any h hs hE hL).mono ?_
    rintro e w' ⟨v, ps, o', rfl, h1, h2, h3, h4, h5⟩
    exact ⟨v, ps, o', rfl, h1, h2, h3, h4, h5⟩
  | true =>
    have hb := h.nil
    subst hb
    refine (push_out h).mono ?_
    rintro e w' ⟨rfl, rfl⟩
    exact ⟨_, [], o, rfl, rfl, TI.nil _ _ _ _, h, fun g hg => .inl hg, Aside.refl _ _⟩

/-- Which items are the last ones: none, or just the last. -/
theorem run_lasts (b : List UInt8) : ∀ j (hj : j < (runH b).1.length), lastH (runH b).1[j] = ((runH b).2.2 && decide (j + 1 = (runH b).1.length)) := by
  refine run_ind (C := fun b => ∀ j (hj : j < (runH b).1.length), lastH (runH b).1[j] = ((runH b).2.2 && decide (j + 1 = (runH b).1.length))) (fun b ih => ?_) b
  intro j hj
  cases ho : oneH b with
  | none =>
    have e := run_none ho
    rw [e] at hj
    simp at hj
  | some y =>
    obtain ⟨x, k⟩ := y
    cases hl : lastH x with
    | true =>
      have e := run_last ho hl
      have hj0 : j = 0 := by rw [e] at hj; simpa using hj
      subst hj0
      simp only [e]
      simpa using hl
    | false =>
      have e := run_go ho hl
      have h := ih x k ho hl
      simp only [e, List.length_cons] at hj ⊢
      cases j with
      | zero =>
        simp only [List.getElem_cons_zero, hl]
        cases hx : (runH (b.drop k)).2.2 with
        | false => rfl
        | true =>
          have hne : (runH (b.drop k)).1.length ≠ 0 := fun h0 => by
            cases ho2 : oneH (b.drop k) with
            | none => rw [run_none ho2] at hx; simp at hx
            | some y2 =>
              obtain ⟨x2, k2⟩ := y2
              cases hl2 : lastH x2 with
              | true => rw [run_last ho2 hl2] at h0; simp at h0
              | false => rw [run_go ho2 hl2] at h0; simp at h0
          symm
          rw [Bool.true_and]
          exact decide_eq_false (by omega)
      | succ j =>
        simp only [List.getElem_cons_succ]
        rw [h j (by omega)]
        congr 1
        rw [decide_eq_decide]
        omega
theorem run_some {b : List UInt8} (h : (runH b).2.2 = true) : (runH b).1 ≠ [] := fun h0 => by
  cases ho : oneH b with
  | none => rw [run_none ho] at h; simp at h
  | some y =>
    obtain ⟨x, k⟩ := y
    cases hl : lastH x with
    | true => rw [run_last ho hl] at h0; simp at h0
    | false => rw [run_go ho hl] at h0; simp at h0
theorem stepX_lasts (l p : List UInt8) (out : Bool) : ∀ j (hj : j < (stepX l out p).1.length), lastH (stepX l out p).1[j] = ((stepX l out p).2.2 && decide (j + 1 = (stepX l out p).1.length)) := by
  cases out with
  | true => intro j hj; simp [stepX] at hj
  | false => exact run_lasts (l ++ p)
theorem stepX_at (l p : List UInt8) (out : Bool) (j : Nat) (x : Ih) (h : (stepX l out p).1[j]? = some x) : lastH x = ((stepX l out p).2.2 && decide (j + 1 = (stepX l out p).1.length)) := by
  obtain ⟨hj, rfl⟩ := List.getElem?_eq_some_iff.mp h
  exact stepX_lasts l p out j hj
/-- Whether the reader counts as over, k items gone through. -/
def ovr (n : Nat) (out : Bool) (k : Nat) : Bool := if n = 0 then out else (out && decide (k = n))
theorem ovr_0 (l p : List UInt8) (out : Bool) : ovr (stepX l out p).1.length (stepX l out p).2.2 0 = out := by
  unfold ovr
  cases out with
  | true => simp [stepX]
  | false =>
    simp only [stepX, if_neg (by decide : ¬ false = true)]
    cases hx : (runH (l ++ p)).2.2 with
    | false => split <;> rfl
    | true =>
      have := List.length_pos_iff.mpr (run_some hx)
      rw [if_neg (by omega), decide_eq_false (by omega)]
      rfl
theorem ovr_n (n : Nat) (out : Bool) : ovr n out n = out := by unfold ovr; split <;> simp
theorem stepX_len (l p : List UInt8) (out : Bool) : (stepX l out p).2.1.length ≤ l.length + p.length ∧ 4 * (stepX l out p).1.length ≤ l.length + p.length + 4 := by
  cases out with
  | true => simp [stepX]
  | false =>
    have h := runH_cnt (l ++ p)
    rw [List.length_append] at h
    have h4 : (if (runH (l ++ p)).2.2 then 4 else 0 : Nat) ≤ 4 := by split <;> omega
    simp only [stepX, if_neg (by decide : ¬ false = true)]
    refine ⟨?_, by omega⟩
    cases hx : (runH (l ++ p)).2.2 with
    | true => rw [(run_rest (l ++ p)).1 hx]; simp
    | false => rw [hx] at h; simp at h; omega
theorem stepX_rest (l p : List UInt8) (out : Bool) : (stepX l out p).2.2 = true → (stepX l out p).2.1 = [] := by
  cases out with
  | true => intro _; rfl
  | false => exact fun h => (run_rest (l ++ p)).1 h
end Go.Proofs.YtkoohdacneflfaaGreatDoor

/-
  The law HttpOver.
-/
namespace Go.Proofs.YtkoohdacneflfaaGreatDoor
open Go.RowKit Go.Shelf
set_option linter.unusedVariables false
set_option linter.unusedSimpArgs false
set_option maxRecDepth 100000

/-- A piece, whatever has turned in newer blocks and in the reader's. -/
theorem CutX.at_ {w W : World} {hi : Nat} {v : Value} {us : List Value} {ls : List (List UInt8)} (h : CutX w W hi v us ls) (hb : Below w.heap.size w W) : ∃ a c, v = .slice a ls.length c ∧ ∀ k, k < ls.length → ∃ g u, a = some ⟨g, 0, none⟩ ∧ w.heap.size ≤ g ∧ g < W.heap.size ∧ W.cell? ⟨g, k, none⟩ = some u ∧ Sl w 0 hi u (iz (ls.getD k [])) := by
  obtain ⟨a, c, rfl⟩ := h.row.shape
  rw [h.len]
  refine ⟨a, c, rfl, fun k hk => ?_⟩
  have hlt := OwnZ.lt h.row
  rcases h.row with ⟨e, h0⟩ | ⟨g, cap, e, hB, _, _, hg⟩
  · rw [h0] at h; have := h.len; simp at this; omega
  · injection e with e1 e2 e3
    refine ⟨g, us.getD k (.slice none 0 0), e1, hB, (hlt g (by rw [e1]; rfl)).2, ?_, h.each k hk⟩
    rw [World.cell?, hg]
    have : k < us.length := by rw [h.len]; exact hk
    simp [List.getElem?_append_left, this, List.getD]

/-- How HttpOver's loop stands. -/
structure OvI (w w3 : World) (r : Nat) (ls : List (List UInt8)) (k : Nat) (o : Option Nat) (l : List UInt8) (out : Bool) (W : World) : Prop where
  rk : Rk W w.heap.size o r l out
  len : l.length ≤ (ls.take k).flatten.length
  off : ∀ g, o = some g → w3.heap.size ≤ g
  asd : Aside (fun j => j = r) w3 W
theorem OvI.size {w w3 W : World} {r k : Nat} {ls : List (List UInt8)} {o : Option Nat} {l : List UInt8} {out : Bool} (h : OvI w w3 r ls k o l out W) : w3.heap.size ≤ W.heap.size := h.asd.size
theorem OvI.step {w w3 W W' : World} {r k : Nat} {ls : List (List UInt8)} {o o' : Option Nat} {l p : List UInt8} {out : Bool} (h : OvI w w3 r ls k o l out W) (hk : k < ls.length) (hp : ls.getD k [] = p) (hr : Rk W' w.heap.size o' r (stepX l out p).2.1 (stepX l out p).2.2) (ho : ∀ g, o' = some g → o = some g ∨ W.heap.size ≤ g) (ha : Aside (fun j => j = r ∨ o = some j) W W') :
    OvI w w3 r ls (k + 1) o' (stepX l out p).2.1 (stepX l out p).2.2 W' := by
  have hfl := flat_le ls k hk
  rw [hp] at hfl
  have hs := stepX_len l p out
  refine ⟨hr, by have := h.len; omega, fun g hg => ?_, h.asd.onto ha fun b hb hb2 e => ?_⟩
  · rcases ho g hg with e | e
    · exact h.off g e
    · have := h.size; omega
  · rcases e with e | e
    · exact hb2 e
    · have := h.off b e; omega

set_option maxHeartbeats 8000000 in
theorem over_law {w : World} {bv cv mv : Value} {b m : List UInt8} {n : Nat} (h : Sl w 0 w.heap.size bv (iz b)) (hc : Ints w cv n) (hm : Sl w 0 w.heap.size mv (iz m)) (hE : Env w) (hb : b.length ≤ 9223372036854775807) (hn : n ≤ 9223372036854775807) (hm9 : m.length ≤ 9223372036854775807) :
    Calls Tryz.prog 8 #[bv, cv, mv] w (Tells w (.bool true)) := by
  have HA := Lib.hid (awake_any hE)
  have HS := Lib.hid h
  have HC := Lib.hid hc
  have HM := Lib.hid hm
  have HEN := Lib.hid (EnvN.of hE)
  obtain ⟨a, c, rfl, _⟩ := h
  obtain ⟨ca, cc, rfl, _⟩ := hc
  obtain ⟨ma, mc, rfl, _⟩ := hm
  rw [iz_len] at HS HM ⊢
  rw [iz_len]
  clear hE
  by_cases hg : 9000 < b.length ∨ 60 < n ∨ 1000 < m.length
  · by_cases t3 : 9000 < b.length
    · have t3' : (9000 : Int) < b.length := by omega
      clear hg
      go_enter Tryz.func8, Tryz.ntmps8
      go_wp2_with fail
      refine HA.out.mono ?_; rintro e w1 ⟨rfl, b1⟩
      have B1 := Lib.hid b1
      clear b1
      go_wp2_with fail
      go_ret
      exact ⟨rfl, B1.out⟩
    · have t3' : ¬ (9000 : Int) < b.length := by omega
      by_cases t4 : 60 < n
      · have t4' : (60 : Int) < n := by omega
        clear hg
        go_enter Tryz.func8, Tryz.ntmps8
        go_wp2_with fail
        refine HA.out.mono ?_; rintro e w1 ⟨rfl, b1⟩
        have B1 := Lib.hid b1
        clear b1
        go_wp2_with fail
        go_ret
        exact ⟨rfl, B1.out⟩
      · have t4' : ¬ (60 : Int) < n := by omega
        have t5' : (1000 : Int) < m.length := by omega
        clear hg
        go_enter Tryz.func8, Tryz.ntmps8
        go_wp2_with fail
        refine HA.out.mono ?_; rintro e w1 ⟨rfl, b1⟩
        have B1 := Lib.hid b1
        clear b1
        go_wp2_with fail
        go_ret
        exact ⟨rfl, B1.out⟩
  · have t3 : ¬ (9000 : Int) < b.length := by omega
    have t4 : ¬ (60 : Int) < n := by omega
    have t5 : ¬ (1000 : Int) < m.length := by omega
    have hb2 : b.length ≤ 9000 := by omega
    have hn2 : n ≤ 60 := by omega
    have hm2 : m.length ≤ 1000 := by omega
    have e9 := ptr_not
    clear hg hb hn hm9
    go_enter Tryz.func8, Tryz.ntmps8
    go_wp2_with fail
    refine HA.out.mono ?_; rintro e w1 ⟨rfl, b1⟩
    have B1 := Lib.hid b1
    have HNW := Lib.hid (new_any w1 w.heap.size b1.size)
    clear b1
    go_wp2_with fail
    refine HNW.out.mono ?_; rintro e w2 ⟨rfl, r2, b2⟩
    have R2 := Lib.hid r2
    have B2 := Lib.hid (B1.out.trans (b2.mono B1.out.size))
    have hrw : w1.heap.size < w2.heap.size := r2.lt
    obtain ⟨r, hr⟩ : ∃ r, w1.heap.size = r := ⟨_, rfl⟩
    rw [hr] at R2 hrw ⊢
    have HRL := Lib.hid (show w.heap.size ≤ r ∧ r < w2.heap.size from ⟨by have := B1.out.size; omega, hrw⟩)
    have HCU := Lib.hid (cutX_any (HS.out.below B2.out (Nat.le_refl _)) (HC.out.below B2.out) (by omega) hn2)
    clear r2 b2 hr hrw HNW
    go_wp2_with fail
    refine HCU.out.mono ?_; rintro e w3 ⟨v3, us3, ls, rfl, hcut, hfl, hll, b3⟩
    obtain ⟨la, lc, rfl, hat⟩ := hcut.at_ b3
    have HAT := Lib.hid hat
    have B23 := Lib.hid b3
    have HFL := Lib.hid hfl
    have HI0 := Lib.hid (show OvI w w3 r ls 0 none [] false w3 from ⟨R2.out.below b3, by simp, fun g hg => by simp at hg, Aside.refl _ _⟩)
    clear hcut hat b3 hfl HCU
    go_wp2_with fail
    go_loopw [10, 11, 12, 13, 14, 15] (fun ov i _ _ _ _ wr => ∃ (k : Nat) (o : Option Nat) (l : List UInt8) (out : Bool), k ≤ ls.length ∧ i = .int .i64 k ∧ ov = .bool out ∧ Hid (OvI w w3 r ls k o l out wr)) (fun _ i _ _ _ _ _ => ls.length - (intOf i).toNat)
    case atStart => exact ⟨0, none, [], false, Nat.zero_le _, rfl, rfl, HI0⟩
    case round =>
      clear HI0
      obtain ⟨k, o, l, out, hk, rfl, rfl, HI⟩ := hrel
      have HBW := Lib.hid (show Below w.heap.size w wr from (B2.out.trans (B23.out.mono B2.out.size)).trans (HI.out.asd.below fun j hj => ⟨by have := B2.out.size; have := B23.out.size; omega, fun e => by have := HRL.out; omega⟩))
      have hlb : ls.flatten.length ≤ 9000 := by rw [HFL.out]; exact hb2
      have hll2 : l.length ≤ 9000 := by
        have h1 := HI.out.len
        have h2 : (ls.take k).flatten.length ≤ ls.flatten.length := by
          conv => rhs; rw [← List.take_append_drop k ls]
          rw [List.flatten_append, List.length_append]
          omega
        omega
      by_cases hlt : k < ls.length
      · have t1 : (k : Int) < ls.length := by omega
        obtain ⟨g, u, hla, hg1, hg2, hcell, hsu⟩ := HAT.out k hlt
        subst hla
        have q1 : wr.cell? ⟨g, k, none⟩ = some u := (HI.out.asd.cell (p := ⟨g, k, none⟩) hg2 (by have := HRL.out; simp only; omega)).trans hcell
        obtain ⟨p, hp⟩ : ∃ p, ls.getD k [] = p := ⟨_, rfl⟩
        rw [hp] at hsu
        have hS : Sl wr 0 w.heap.size u (iz p) := hsu.keep fun b' o' _ h2 => (HI.out.asd.cell (p := ⟨b', o', none⟩) (by have := B2.out.size; have := B23.out.size; show b' < _; omega) (by have := HRL.out; simp only; omega)).trans (B23.out.cell (p := ⟨b', o', none⟩) (by have := B2.out.size; show b' < _; omega))
        have hpl : p.length ≤ 9000 := by have := (flat_le ls k hlt); rw [hp] at this; omega
        have HPU := Lib.hid (pushX_any HI.out.rk hS (HEN.out.below HBW.out) (by rw [List.length_append]; omega))
        have HLS := Lib.hid (stepX_at l p out)
        have HO0 := Lib.hid (ovr_0 l p out)
        have HRS := Lib.hid (stepX_rest l p out)
        have HSTP := Lib.hid (fun o' W' => HI.out.step (o' := o') (W' := W') hlt hp)
        have HSL := Lib.hid (stepX_len l p out)
        have HX9 := Lib.hid (show out = true → (stepX l out p).1 = [] from fun e => by subst e; rfl)
        obtain ⟨⟨X1, X2, X3⟩, hX⟩ : ∃ X, stepX l out p = X := ⟨_, rfl⟩
        simp only [hX] at HPU HLS HO0 HRS HSTP HSL HX9
        unfold PushX at HPU
        clear hcell hsu hS hp hX
        go_wp2_with fail
        refine HPU.out.mono ?_; rintro e w5 ⟨v5, ps, o5, rfl, hm5, ht5, hr5, ho5, hA5⟩
        have HI5 := Lib.hid (HSTP.out o5 w5 hr5 ho5 hA5)
        have HR5 := Lib.hid hr5
        obtain ⟨va, vc, rfl⟩ := ht5.shape
        have hpsl : ps.length = X1.length := by rw [← hm5, List.length_map]
        have hpsn : ps.length ≤ 10000 := by have := HSL.out.2; omega
        have HT5 := Lib.hid ht5
        have HM5 := Lib.hid hm5
        have HPL := Lib.hid hpsl
        have hx9 := HX9.out
        rw [← hm5] at hx9
        clear HPU HSTP hm5 ht5 hr5 ho5 hA5 hpsl HSL HX9
        have hst0 : ovr ps.length X3 0 = out := by rw [HPL.out]; exact HO0.out
        have HN0 := Lib.hid hst0
        have tn : out = true → ¬ (0 : Int) < (ps.length : Int) := fun e => by
          have := hx9 e
          have : ps = [] := by simpa using this
          rw [this]; simp
        clear hst0 hx9
        cases out
        case true => 
          have tn2 := tn rfl
          have HP0 := Lib.hid (show ps.length = 0 from by omega)
          clear tn
          go_wp2_with fail
          go_loopw [10, 14, 15] (fun ov kk _ wr2 => ∃ (j : Nat) (ob : Bool), j ≤ ps.length ∧ kk = .int .i64 j ∧ ov = .bool ob ∧ ob = ovr ps.length X3 j ∧ wr2 = w5) (fun _ kk _ _ => ps.length - (intOf kk).toNat)
          case atStart => exact ⟨0, true, Nat.zero_le _, rfl, rfl, HN0.out.symm, rfl⟩
          case round =>
            obtain ⟨j, ob, hj, rfl, rfl, hob, hw5⟩ := hrel
            subst hw5
            by_cases hjl : j < ps.length
            · exfalso
              have := HP0.out
              omega
            · have hobx : ob = X3 := by rw [hob, show j = ps.length by omega, ovr_n]
              have tj : ¬ (j : Int) < (ps.length : Int) := by omega
              subst hobx
              have HOV := Lib.hid (over_any HR5.out)
              have HLF := Lib.hid (left_any HR5.out)
              clear hob
              cases ob with
              | true =>
                have hX2 : X2 = [] := HRS.out rfl
                subst hX2
                go_wp2_with fail
                refine HOV.out.mono ?_; rintro e w6 ⟨rfl, rfl⟩
                go_wp2_with fail
                refine HLF.out.mono ?_; rintro e w7 ⟨rfl, rfl⟩
                go_wp2_with fail
                refine ⟨⟨k + 1, o5, [], true, by omega, by go_num, rfl, HI5⟩, ?_⟩
                simp [intOf]; omega
              | false =>
                go_wp2_with fail
                refine HOV.out.mono ?_; rintro e w6 ⟨rfl, rfl⟩
                go_wp2_with fail
                refine ⟨⟨k + 1, o5, X2, false, by omega, by go_num, rfl, HI5⟩, ?_⟩
                simp [intOf]; omega
        case false =>
          clear tn
          go_wp2_with fail
          go_loopw [10, 14, 15] (fun ov kk _ wr2 => ∃ (j : Nat) (ob : Bool), j ≤ ps.length ∧ kk = .int .i64 j ∧ ov = .bool ob ∧ ob = ovr ps.length X3 j ∧ wr2 = w5) (fun _ kk _ _ => ps.length - (intOf kk).toNat)
          case atStart => exact ⟨0, false, Nat.zero_le _, rfl, rfl, HN0.out.symm, rfl⟩
          case round =>
            obtain ⟨j, ob, hj, rfl, rfl, hob, hw5⟩ := hrel
            subst hw5
            by_cases hjl : j < ps.length
            · have hob0 : ob = false := by rw [hob]; unfold ovr; rw [if_neg (by omega), decide_eq_false (by omega), Bool.and_false]
              subst hob0
              obtain ⟨g5, hg5, _, hc5⟩ := HT5.out.at_ (by omega)
              subst hg5
              have q := hc5 j hjl
              have hla := HLS.out j ps[j].x (by rw [← HM5.out]; simp [hjl])
              rw [← HPL.out] at hla
              obtain ⟨⟨⟨st, hd, bd, kp⟩, sv, bv⟩, hpj⟩ : ∃ p, ps[j] = p := ⟨_, rfl⟩
              rw [hpj] at q hla
              have k0 : wr.cell? ⟨g5, j * 7, none⟩ = some (.int .i64 st) := q.c0
              have k6 : wr.cell? ⟨g5, j * 7 + 6, none⟩ = some (.bool kp) := q.c6
              have tj : (j : Int) < (ps.length : Int) := by omega
              have hnext : ovr ps.length X3 (j + 1) = (X3 && decide (j + 1 = ps.length)) := by unfold ovr; rw [if_neg (by omega)]
              rw [← hla] at hnext
              clear hob q hc5 hpj
              by_cases h2 : st = 200
              · subst h2
                cases kp with
                | true =>
                  clear hla
                  go_wp2_with fail
                  refine ⟨⟨j + 1, false, by omega, by go_num, rfl, by rw [hnext]; rfl, trivial⟩, ?_⟩
                  simp [intOf]; omega
                | false =>
                  have hn1 : j + 1 = ps.length := by
                    have := hla.symm
                    rw [show lastH ⟨200, hd, bd, false⟩ = true from rfl] at this
                    rw [Bool.and_eq_true] at this
                    exact of_decide_eq_true this.2
                  have hj1 : (ps.length : Int) - 1 = (j : Int) := by omega
                  go_wp2_with fail
                  refine ⟨⟨j + 1, true, by omega, by go_num, rfl, by rw [hnext, show lastH ⟨200, hd, bd, false⟩ = true from rfl], trivial⟩, ?_⟩
                  simp [intOf]; omega
              · have t2 : (st == 200) = false := by simpa using h2
                have hn1 : j + 1 = ps.length := by
                  have := hla.symm
                  rw [show lastH ⟨st, hd, bd, kp⟩ = true from by simp [lastH, h2]] at this
                  rw [Bool.and_eq_true] at this
                  exact of_decide_eq_true this.2
                have hj1 : (ps.length : Int) - 1 = (j : Int) := by omega
                go_wp2_with fail
                refine ⟨⟨j + 1, true, by omega, by go_num, rfl, by rw [hnext, show lastH ⟨st, hd, bd, kp⟩ = true from by simp [lastH, h2]], trivial⟩, ?_⟩
                simp [intOf]; omega
            · have hobx : ob = X3 := by rw [hob, show j = ps.length by omega, ovr_n]
              have tj : ¬ (j : Int) < (ps.length : Int) := by omega
              subst hobx
              have HOV := Lib.hid (over_any HR5.out)
              have HLF := Lib.hid (left_any HR5.out)
              clear hob
              cases ob with
              | true =>
                have hX2 : X2 = [] := HRS.out rfl
                subst hX2
                go_wp2_with fail
                refine HOV.out.mono ?_; rintro e w6 ⟨rfl, rfl⟩
                go_wp2_with fail
                refine HLF.out.mono ?_; rintro e w7 ⟨rfl, rfl⟩
                go_wp2_with fail
                refine ⟨⟨k + 1, o5, [], true, by omega, by go_num, rfl, HI5⟩, ?_⟩
                simp [intOf]; omega
              | false =>
                go_wp2_with fail
                refine HOV.out.mono ?_; rintro e w6 ⟨rfl, rfl⟩
                go_wp2_with fail
                refine ⟨⟨k + 1, o5, X2, false, by omega, by go_num, rfl, HI5⟩, ?_⟩
                simp [intOf]; omega
      · have t1 : ¬ (k : Int) < ls.length := by omega
        have HPU := Lib.hid (pushX_any HI.out.rk (HM.out.below HBW.out (Nat.le_refl _)) (HEN.out.below HBW.out) (by rw [List.length_append]; omega))
        unfold PushX at HPU
        have HBA := Lib.hid (fun W' o' (ha : Aside (fun j => j = r ∨ o' = some j) wr W') (ho : o' = o) => show Below w.heap.size w W' from HBW.out.trans (PushPost.below HI.out.rk HBW.out.size (ho ▸ ha)))
        cases out
        all_goals
          go_wp2_with fail
          refine HPU.out.mono ?_; rintro e w5 ⟨v5, ps, o5, rfl, hm5, ht5, hr5, ho5, hA5⟩
          have HBF := Lib.hid (HBA.out w5 o hA5 rfl)
          clear hm5 ht5 hr5 ho5 hA5 HPU HBA
          go_wp2_with fail
          go_ret
          exact ⟨rfl, HBF.out⟩
end Go.Proofs.YtkoohdacneflfaaGreatDoor
