/-
  plain: a name that stands as its bytes.
-/
import Derived.Test.YtkiahaodajecfaaQM
import Derived.Test.YtkiahaodajecfaaQA
import Derived.Test.YtkiahaodajecfaaWa
import Derived.BigQuiet
namespace Go.Proofs.Ytkiahaodajecfaa
open Go.RowKit Go.Shelf
set_option linter.unusedVariables false
set_option linter.unusedSimpArgs false
set_option maxRecDepth 100000

set_option maxHeartbeats 4000000 in
theorem plain_any {w : World} {lo hi : Nat} {v : Value} {b : List UInt8} (h : Sl w lo hi v (iz b)) (hhi : hi ≤ w.heap.size) (hl : b.length ≤ 1000000) (p : Nat) :
    Calls Try.prog 50 #[v, .int .i64 p] w (Tells w (gotV (pln b p))) := by
  have hb0 : Below w.heap.size w (w.alloc (.cells #[.int .i64 0, .int .i64 0] 51)) := (Below.refl _ _).alloc (Nat.le_refl _) _
  have HB0 := Lib.hid hb0
  have HR0 := Lib.hid (read_any (h.below hb0 hhi) (Nat.le_trans hhi hb0.size) hl p)
  have hfine := rda_fine b p
  obtain ⟨N, hN⟩ : ∃ N, (rda b p).1 = N := ⟨_, rfl⟩
  obtain ⟨E, hE⟩ : ∃ E, (rda b p).2.1 = E := ⟨_, rfl⟩
  obtain ⟨C, hC⟩ : ∃ C, (rda b p).2.2.1 = C := ⟨_, rfl⟩
  obtain ⟨A, hA⟩ : ∃ A, (rda b p).2.2.2 = A := ⟨_, rfl⟩
  have hp : pln b p = if C ≠ 0 ∨ N ≠ (b.drop p).take (E - p) then ([], 0, 4, 0) else (N, E, 0, 0) := by unfold pln; rw [hN, hE, hC]
  unfold gotV at HR0
  rw [hN, hE, hC] at hfine
  rw [hN, hE, hC, hA] at HR0
  rw [hp]
  clear hN hE hC hA hp hb0
  by_cases hc : C = 0
  · subst hc
    obtain ⟨_, hpE, hEb⟩ := hfine rfl
    obtain ⟨sv, hcut, hsl⟩ := cut_sl h p E (by omega) hEb
    have HSL := Lib.hid (fun wx (hb : Below w.heap.size w wx) => conv_back (hsl.below hb hhi))
    obtain ⟨M, hM⟩ : ∃ M, (b.drop p).take (E - p) = M := ⟨_, rfl⟩
    rw [hM] at HSL ⊢
    clear hM hsl hfine
    by_cases hNM : N = M
    · subst hNM
      rw [if_neg (by simp)]
      have ht : ((bs N).toList == (bs N).toList) = true := by simp
      go_enter Try.func50, Try.ntmps50
      go_wp2_with fail
      refine HR0.out.mono ?_
      rintro e w1 ⟨rfl, hb1⟩
      simp only [World.size_alloc] at hb1
      have HB1 := Lib.hid hb1
      have hlt := below_lt hb1
      obtain ⟨k0, k1, k3⟩ := res_cells hb1
      have hcv := HSL.out (w1.alloc (.cells #[.int .i64 0, .int .i64 A] 51)) (bel_alloc (HB0.out.trans (hb1.mono (Nat.le_succ _))) _)
      clear hb1
      go_wp2_with fail
      obtain ⟨m0, m1⟩ := res_set (.int .i64 0) (.int .i64 0) k0 k1
      have HFin := Lib.hid (res_below HB1.out (.int .i64 0) (.int .i64 0) (.cells #[.int .i64 0, .int .i64 A] 51))
      exact bodyPost_ret (by simp [results, Try.results50, go_sem, m0, m1, hlt]; rfl) rfl ⟨rfl, HFin.out⟩
    · rw [if_pos (.inr hNM)]
      have ht : ((bs N).toList == (bs M).toList) = false := by rw [bs_toList, bs_toList]; simpa using hNM
      go_enter Try.func50, Try.ntmps50
      go_wp2_with fail
      refine HR0.out.mono ?_
      rintro e w1 ⟨rfl, hb1⟩
      simp only [World.size_alloc] at hb1
      have HB1 := Lib.hid hb1
      have hlt := below_lt hb1
      obtain ⟨k0, k1, k3⟩ := res_cells hb1
      have hcv := HSL.out (w1.alloc (.cells #[.int .i64 0, .int .i64 A] 51)) (bel_alloc (HB0.out.trans (hb1.mono (Nat.le_succ _))) _)
      clear hb1
      go_wp2_with fail
      obtain ⟨m0, m1⟩ := res_set (.int .i64 4) (.int .i64 0) k0 k1
      have HFin := Lib.hid (res_below HB1.out (.int .i64 4) (.int .i64 0) (.cells #[.int .i64 0, .int .i64 A] 51))
      exact bodyPost_ret (by simp [results, Try.results50, go_sem, m0, m1, hlt]; rfl) rfl ⟨rfl, HFin.out⟩
  · rw [if_pos (.inl hc)]
    have tc : (C != 0) = true := by simpa using hc
    clear hfine
    · go_enter Try.func50, Try.ntmps50
      go_wp2_with fail
      refine HR0.out.mono ?_
      rintro e w1 ⟨rfl, hb1⟩
      simp only [World.size_alloc] at hb1
      have HB1 := Lib.hid hb1
      have hlt := below_lt hb1
      obtain ⟨k0, k1, k3⟩ := res_cells hb1
      clear hb1
      go_wp2_with fail
      obtain ⟨m0, m1⟩ := res_set (.int .i64 4) (.int .i64 0) k0 k1
      have HFin := Lib.hid (res_below HB1.out (.int .i64 4) (.int .i64 0) (.cells #[.int .i64 C, .int .i64 A] 51))
      exact bodyPost_ret (by simp [results, Try.results50, go_sem, m0, m1, hlt]; rfl) rfl ⟨rfl, HFin.out⟩
end Go.Proofs.Ytkiahaodajecfaa

/-
  join: the data of pieces.
-/
namespace Go.Proofs.Ytkiahaodajecfaa
open Go.RowKit Go.Shelf
set_option linter.unusedVariables false
set_option linter.unusedSimpArgs false
set_option maxRecDepth 100000

/-- A write of a text: append, and the store. -/
theorem writeS_step {W : World} {B b : Nat} {p : Value} {l l' : List UInt8} (h : Bp W B b p l) (hl : l.length + l'.length ≤ 1000000) (hB : B ≤ W.heap.size) :
    ∃ v a2 c2 W2, W.cell? ⟨b, 1, none⟩ = some v ∧ (Builtin.append_ #[42, 9] 42 #[v, .string (bs l')]).run Try.prog W = .ok (.slice a2 (l.length + l'.length) c2) W2 ∧
      W2.cell? ⟨b, 1, none⟩ = some v ∧ W2.frozen? ⟨b, 1, none⟩ = false ∧ Bp (W2.setCell ⟨b, 1, none⟩ (.slice a2 (l.length + l'.length) c2)) B b p (l ++ l') ∧
      Aside (fun k => k = b ∨ B ≤ k) W (W2.setCell ⟨b, 1, none⟩ (.slice a2 (l.length + l'.length) c2)) := by
  have hlt := h.lt
  obtain ⟨v, h1, h2, h3⟩ := h
  obtain ⟨a2, c2, W2, hr, ho, hg⟩ := run_appS (w := W) B v l l' h2 hl hB
  have ha : Aside (fun k => B ≤ k) W W2 := Aside.grown hg fun k hk => h2.row k hk
  have hb2 : W2.heap[b]? = some (.cells #[p, v] 95 (0, 0)) := (ha.block b hlt (by omega)).trans h1
  refine ⟨v, a2, c2, W2, by simp [World.cell?, h1], hr, by simp [World.cell?, hb2], by simp [World.frozen?, hb2], Bp.put hb2 ho h3, ?_⟩
  exact (ha.mono fun _ _ h => .inr h).trans (Aside.setCell _ _ (.inl rfl))

theorem writeS_any {w : World} {B b : Nat} {l l' : List UInt8} (h : Bd w B b l) (hl : l.length + l'.length ≤ 1000000) (hB : B ≤ w.heap.size) :
    Calls Try.prog 57 #[.pointer (some ⟨b, 0, none⟩), .string (bs l')] w (BdPost w (fun k => k = b ∨ B ≤ k) B b (.tuple #[.int .i64 l'.length, .nilIface]) (l ++ l')) := by
  have HC := Lib.hid (checkB_any h)
  obtain ⟨n, hn⟩ : ∃ n, l'.length = n := ⟨_, rfl⟩
  clear h
  have hsz : (bs l').size = n := by rw [bs_size, hn]
  rw [hn]
  go_enter Try.func57, Try.ntmps57
  go_wp2_with fail
  refine HC.out.mono ?_; rintro e w1 ⟨rfl, hp, ha⟩
  have hs := ha.size
  replace ha := ha.mono (G' := fun k => k = b ∨ B ≤ k) fun _ _ h => .inl h
  obtain ⟨v, a2, c2, W2, q1, hr, q2, q3, hq, ha2⟩ := writeS_step (W := w1) (l' := l') hp hl (by omega)
  rw [hn] at hr hq ha2
  have HR := Lib.hid hr
  have HH := Lib.hid (And.intro hq (ha.trans ha2))
  clear hr hq ha ha2 hp hs hn
  go_wp2_with (at_builtin; refine wpList_append_run (.tmp 12) (.tmp 13) 42 9 rfl rfl rfl rfl HR.out ?_)
  go_ret2
  exact ⟨rfl, HH.out⟩

theorem joined_take {L : List Pc} {k : Nat} (h : k < L.length) : joined (L.take (k + 1)) = joined (L.take k) ++ L[k].1 := by
  rw [List.take_add_one, List.getElem?_eq_getElem h, Option.toList_some, joined_app]
  simp [joined]

theorem joined_part (L : List Pc) (k : Nat) : (joined (L.take k)).length ≤ (joined L).length := by
  have := congrArg (fun x => (joined x).length) (List.take_append_drop k L)
  simp only [joined_app, List.length_append] at this
  omega

set_option maxHeartbeats 4000000 in
theorem joinP_any {w : World} {B : Nat} {v : Value} {L : List Pc} (h : OwnP w B v L) (hl : (joined L).length ≤ 1000000) (hn : L.length ≤ 1000000) : Calls Try.prog 37 #[v] w (Tells w (.string (bs (joined L)))) := by
  have HO := Lib.hid h
  obtain ⟨av, cv, rfl⟩ := h.shape
  obtain ⟨n, hnn⟩ : ∃ n, L.length = n := ⟨_, rfl⟩
  have HN := Lib.hid hnn
  rw [hnn] at HO hn ⊢
  have HL := Lib.hid hl
  clear h hnn hl
  have hb0 : Below w.heap.size w (w.alloc (.cells #[.pointer none, .slice none 0 0] 95)) := (Below.refl _ _).alloc (Nat.le_refl _) _
  have hd0 : Bd (w.alloc (.cells #[.pointer none, .slice none 0 0] 95)) (w.heap.size + 1) w.heap.size [] := .inl ⟨.slice none 0 0, heap_alloc_new w _, OwnU.nil _ _, by omega⟩
  have HB0 := Lib.hid hb0
  have HD0 := Lib.hid hd0
  clear hb0 hd0
  go_enter Try.func37, Try.ntmps37
  go_wp2_with fail
  go_loopg [8] n (fun g v8 wr => ∃ k : Nat, k + g = n ∧ v8 = .int .i64 k ∧ Hid (Bd wr (w.heap.size + 1) w.heap.size (joined (L.take k))) ∧ Hid (Below w.heap.size w wr) ∧ w.heap.size + 1 ≤ wr.heap.size)
  case atStart => exact ⟨0, by omega, rfl, HD0, HB0, by simp⟩
  case round =>
    obtain ⟨k, hk, rfl, HD, HB, hsz⟩ := hrel
    by_cases hlt0 : k < n
    · have hlt : k < L.length := by have := HN.out; omega
      have hown := (HO.out)
      obtain ⟨g0, c0, he0, hc0, hc1⟩ := OwnP.at_ (v := .slice av L.length cv) (K := L) (w := w) (B := B) (by rw [HN.out]; exact HO.out) k hlt
      injection he0 with he1 he2 he3
      subst he1
      subst he3
      clear he2 hown
      have hg0 : g0 < w.heap.size := World.block_lt_of_cell? w _ hc0
      have d0 := (HB.out.cell (p := ⟨g0, k * 2, none⟩) hg0).trans hc0
      have d1 := (HB.out.cell (p := ⟨g0, k * 2 + 1, none⟩) hg0).trans hc1
      have hjt := joined_take hlt
      have hjp := joined_part L (k + 1)
      obtain ⟨x, hx⟩ : ∃ x, L[k].1 = x := ⟨_, rfl⟩
      obtain ⟨f, hf⟩ : ∃ f, L[k].2 = f := ⟨_, rfl⟩
      rw [hx] at d0 hjt
      rw [hf] at d1
      have hal : Below wr.heap.size wr (wr.alloc (.cells #[.string (bs x), .bool f] 63)) := (Below.refl _ _).alloc (Nat.le_refl _) _
      have HW := Lib.hid (writeS_any (l' := x) (HD.out.below hal) (by rw [hjt, List.length_append] at hjp; have := HL.out; omega) (by have := hal.size; omega))
      have HBA := Lib.hid (bel_call HB.out hal)
      have HJ := Lib.hid hjt
      clear hc0 hc1 hjt hjp hx hf hal HD
      go_wp2_with fail
      refine HW.out.mono ?_
      rintro e w2 ⟨rfl, hp, ha2⟩
      have hs2 := ha2.size
      simp only [World.size_alloc] at hs2
      have HD2 : Hid (Bd w2 (w.heap.size + 1) w.heap.size (joined (L.take (k + 1)))) := by rw [HJ.out]; exact .inr hp
      have HB2 := Lib.hid (below_aside HBA.out ha2 fun b hb => ⟨Nat.lt_of_lt_of_le hb HBA.out.size, by omega⟩)
      clear hp ha2
      go_wp2_with fail
      go_roundg (n - (k + 1))
      case measure => omega
      case rel => exact ⟨k + 1, by omega, by go_num, HD2, HB2, by omega⟩
    · have hke : k = n := by omega
      subst hke
      have hd := HD.out
      rw [List.take_of_length_le (by have := HN.out; omega)] at hd
      have hBF : Lib.IsBuilderF 95 5 w.heap.size w.heap.size (Lib.byteCells (joined L)) wr := by
        have key : ∀ p, Bp wr (w.heap.size + 1) w.heap.size p (joined L) → Lib.BuilderAtF 95 5 w.heap.size w.heap.size p (Lib.byteCells (joined L)) wr := by
          rintro p ⟨v, h1, h2, h3⟩
          have h4 := h2.mono (B' := w.heap.size) (by omega)
          have h5 : wr.ownsRowF w.heap.size 5 1 v (Lib.byteCells (joined L)).length (Lib.byteCells (joined L)) := by rw [Lib.byteCells_length]; exact h4
          refine ⟨Nat.le_refl _, v, h1, h5, fun e => ?_⟩
          have := h2.row _ e
          omega
        exact hd.elim (fun h => .inl (key _ h)) (fun h => .inr (key _ h))
      have HS := Lib.hid (Try.Builder_String_any_k w.heap.size w.heap.size (joined L) wr hBF (by omega))
      clear hd hBF HD
      go_wp2_with fail
      refine HS.out.mono ?_
      rintro e w2 ⟨rfl, _, hb2, _⟩
      have HB2 := Lib.hid (HB.out.trans hb2)
      clear hb2
      go_wp2_with fail
      go_ret
      exact ⟨rfl, HB2.out⟩
end Go.Proofs.Ytkiahaodajecfaa

/-
  bounded, split.
-/
namespace Go.Proofs.Ytkiahaodajecfaa
open Go.RowKit Go.Shelf
set_option linter.unusedVariables false
set_option linter.unusedSimpArgs false
set_option maxRecDepth 100000

theorem bounded_yes (t : Int) (h0 : 0 ≤ t) (h1 : t ≤ 65535) (w : World) : Calls Try.prog 44 #[.int .i64 t] w fun e w' => e = .returned (.bool true) ∧ w = w' := by
  have t1 : decide ((0 : Int) ≤ t) = true := by simpa using h0
  have t2 : decide (t ≤ (65535 : Int)) = true := by simpa using h1
  go_enter Try.func44, Try.ntmps44
  go_wp2
  go_ret
  exact ⟨rfl, rfl⟩

theorem bounded_no (t : Int) (h : t < 0 ∨ 65535 < t) (w : World) : Calls Try.prog 44 #[.int .i64 t] w fun e w' => e = .returned (.bool false) ∧ w = w' := by
  by_cases h0 : 0 ≤ t
  · have t1 : decide ((0 : Int) ≤ t) = true := by simpa using h0
    have t2 : decide (t ≤ (65535 : Int)) = false := by simp; omega
    clear h
    go_enter Try.func44, Try.ntmps44
    go_wp2
    go_ret
    exact ⟨rfl, rfl⟩
  · have t1 : decide ((0 : Int) ≤ t) = false := by simp; omega
    clear h
    go_enter Try.func44, Try.ntmps44
    go_wp2
    go_ret
    exact ⟨rfl, rfl⟩

/-- What split tells. -/
def SplitPost (w : World) (R : RR) (en : Ending) (w' : World) : Prop :=
  ∃ v, en = .returned (.tuple #[v, .int .i64 R.code]) ∧ OwnP w' w.heap.size v R.pcs ∧ Below w.heap.size w w'

theorem wf_small {t : Int} (h0 : 0 ≤ t) (h1 : t ≤ 65535) : (Lit.int .i64 t).wf = true := WalkArith.wf_i64 (by omega)

set_option maxHeartbeats 4000000 in
theorem split_any (t : Int) (d : List UInt8) (hd : d.length ≤ 1000000) (w : World) : Calls Try.prog 32 #[.int .i64 t, .string (bs d)] w (SplitPost w (spl t d)) := by
  have hsz : (bs d).size = d.length := bs_size d
  by_cases ht : t < 0 ∨ 65535 < t
  · have e : spl t d = .bad 5 0 := by unfold spl; rw [if_pos ht]
    rw [e]
    have HB := Lib.hid (bounded_no t ht w)
    clear ht e hsz
    go_enter Try.func32, Try.ntmps32
    go_wp2_with fail
    refine HB.out.mono ?_; rintro e w1 ⟨rfl, rfl⟩
    go_wp2_with fail
    go_ret2
    exact ⟨_, rfl, OwnP.nil _ _, Below.refl _ _⟩
  · have HB := Lib.hid (bounded_yes t (by omega) (by omega) w)
    by_cases hlong : 65535 < d.length
    · have e : spl t d = .bad 3 0 := by unfold spl; rw [if_neg ht, if_pos hlong]
      rw [e]
      have t1 : decide ((65535 : Int) < d.length) = true := by simp; omega
      clear ht e
      go_enter Try.func32, Try.ntmps32
      go_wp2_with fail
      refine HB.out.mono ?_; rintro e w1 ⟨rfl, rfl⟩
      go_wp2_with fail
      go_ret2
      exact ⟨_, rfl, OwnP.nil _ _, Below.refl _ _⟩
    · have e : spl t d = goP (pln d) d 0 d.length (kinds t) 0 [] := by unfold spl; rw [if_neg ht, if_neg hlong]
      rw [e]
      have t1 : decide ((65535 : Int) < d.length) = false := by simp; omega
      obtain ⟨cap, W, hcv, ho, hbW, hltW⟩ := conv_B w d (by omega)
      have HR := Lib.hid (show Calls Try.prog 46 #[.agg #[.slice (some ⟨w.heap.size, 0, none⟩) d.length cap, .int .i64 0, .int .i64 0, .int .i64 d.length, .func (.func 50) #[] #[], .slice none 0 0], .int .i64 t] W (ReadPost W (goP (pln d) d 0 d.length (kinds t) 0 [])) from
        read_plain (s := 0) (p := 0) t (wf_small (by omega) (by omega)) ho.sl (Nat.le_refl _) hd (Nat.zero_le _) (Nat.le_refl _) fun wx hs hh p => plain_any hs hh hd p)
      obtain ⟨R, hR⟩ : ∃ R, goP (pln d) d 0 d.length (kinds t) 0 [] = R := ⟨_, rfl⟩
      rw [hR] at HR ⊢
      have HW := Lib.hid hbW
      clear ht hlong e ho hbW hltW hR
      go_enter Try.func32, Try.ntmps32
      go_wp2_with fail
      refine HB.out.mono ?_; rintro e w1 ⟨rfl, rfl⟩
      go_wp2_with fail
      refine HR.out.mono ?_; rintro e w1 ⟨v, rfl, hown, hb1⟩
      have HO := Lib.hid hown
      have HB1 := Lib.hid (bel_call HW.out hb1)
      have hws := HW.out.size
      clear hown hb1
      go_wp2_with fail
      go_quiet (fail)
      go_wp2_with fail
      go_ret2
      exact ⟨v, rfl, ((HO.out.mono hws).below ((Below.refl _ _).alloc (Nat.le_refl _) _)).below (below_drewN (Below.refl _ _) _), below_drewN (bel_alloc HB1.out _) _⟩
end Go.Proofs.Ytkiahaodajecfaa

/-
  Check, Target, Address, Least.
-/
namespace Go.Proofs.Ytkiahaodajecfaa
open Go.RowKit Go.Shelf
set_option linter.unusedVariables false
set_option linter.unusedSimpArgs false
set_option maxRecDepth 100000

theorem split_ok {t : Int} {d : List UInt8} {L : List Pc} (h : spl t d = .ok L) (hd : d.length ≤ 1000000) (w : World) : Calls Try.prog 32 #[.int .i64 t, .string (bs d)] w fun en w' => ∃ v, en = .returned (.tuple #[v, .int .i64 0]) ∧ OwnP w' w.heap.size v L ∧ Below w.heap.size w w' := by
  have := split_any t d hd w
  rw [h] at this
  exact this
theorem split_bad {t : Int} {d : List UInt8} {c : Int} {a : Nat} (h : spl t d = .bad c a) (hd : d.length ≤ 1000000) (w : World) : Calls Try.prog 32 #[.int .i64 t, .string (bs d)] w fun en w' => ∃ v, en = .returned (.tuple #[v, .int .i64 c]) ∧ Below w.heap.size w w' := by
  have := split_any t d hd w
  rw [h] at this
  refine this.mono ?_
  rintro e w' ⟨v, rfl, _, hb⟩
  exact ⟨v, rfl, hb⟩

theorem rcheckD_any (t : Int) (d : List UInt8) (hd : d.length ≤ 1000000) (w : World) : Calls Try.prog 15 #[.int .i64 t, .string (bs d)] w (Tells w (.int .i64 (spl t d).code)) := by
  have HS := Lib.hid (split_any t d hd w)
  obtain ⟨R, hR⟩ : ∃ R, spl t d = R := ⟨_, rfl⟩
  rw [hR] at HS ⊢
  clear hR
  go_enter Try.func15, Try.ntmps15
  go_wp2_with fail
  refine HS.out.mono ?_; rintro e w1 ⟨v, rfl, hown, hb1⟩
  have HB := Lib.hid hb1
  clear hown hb1
  go_wp2_with fail
  go_ret
  exact ⟨rfl, HB.out⟩

theorem lastD_at {L : List Pc} {q : Nat} (h : L.length = q + 1) : ∃ hq : q < L.length, L.getLastD ([], false) = L[q] := by
  refine ⟨by omega, ?_⟩
  cases L with
  | nil => simp at h
  | cons x r =>
    rw [List.getLastD_cons, List.getLastD_eq_getLast?, List.getLast?_eq_getElem?]
    simp at h
    subst h
    cases r with
    | nil => rfl
    | cons y r => simp

theorem fits_pos {ks : List PK} {L : List Pc} (h : Fits ks L) (h0 : ks ≠ []) : 0 < L.length := by
  cases h with
  | nil => exact absurd rfl h0
  | fix h h2 => simp
  | nam h h2 => simp
  | txt h => simp
  | rst => simp

theorem fits_len {ks : List PK} {L : List Pc} (h : Fits ks L) : L.length = ks.length := by
  induction h with
  | nil => rfl
  | fix h h2 ih => simp [ih]
  | nam h h2 ih => simp [ih]
  | txt h => rfl
  | rst => rfl

theorem kinds_ne (t : Int) : kinds t ≠ [] := by
  unfold kinds
  repeat' split
  all_goals simp

theorem tgt_ok {t : Int} {d : List UInt8} {L : List Pc} (h : spl t d = .ok L) : ∃ q, ∃ hq : q < L.length, L.length = q + 1 ∧ tgtR (spl t d) = (L[q].1, true) ∧ q ≤ 3 := by
  have hp := fits_pos (spl_ok h).2.2.2.1 (kinds_ne t)
  obtain ⟨q, hq⟩ : ∃ q, L.length = q + 1 := ⟨L.length - 1, by omega⟩
  obtain ⟨h1, h2⟩ := lastD_at hq
  refine ⟨q, h1, hq, by rw [h, tgtR, h2], ?_⟩
  have h3 := fits_len (spl_ok h).2.2.2.1
  have := (kinds_small t).1
  omega

set_option maxHeartbeats 4000000 in
theorem target_any (t : Int) (d : List UInt8) (hd : d.length ≤ 1000000) (w : World) : Calls Try.prog 9 #[.int .i64 t, .string (bs d)] w (Tells w (.tuple #[.string (bs (tgt t d).1), .bool (tgt t d).2])) := by
  by_cases ht : t = 2 ∨ t = 5 ∨ t = 12 ∨ t = 15
  · have e : tgt t d = tgtR (spl t d) := by unfold tgt; rw [if_pos ht]
    rw [e]
    rcases hR : spl t d with L | ⟨c, a⟩
    · obtain ⟨q, hql, hq, hlast, hq3⟩ := tgt_ok hR
      rw [hR] at hlast
      rw [hlast]
      have hw : IntKind.i64.wrap (((q + 1 : Nat) : Int) - 1) = q := by rw [IntWalk.i64_in _ (by omega)]; omega
      have HS := Lib.hid (split_ok hR hd w)
      obtain ⟨N, hN⟩ : ∃ N, L[q].1 = N := ⟨_, rfl⟩
      have HN := Lib.hid hN
      simp only [hN]
      clear hlast hN hR e
      rcases ht with rfl | rfl | rfl | rfl
      all_goals
        go_enter Try.func9, Try.ntmps9
        go_wp2_with fail
        refine HS.out.mono ?_; rintro e w1 ⟨v, rfl, hown, hb1⟩
        have HB := Lib.hid hb1
        obtain ⟨g, c, rfl, c0, c1⟩ := OwnP.at_ hown q hql
        rw [hq]
        rw [HN.out] at c0
        clear hown hb1
        go_wp2_with fail
        go_ret2
        exact ⟨rfl, HB.out⟩
    · have HS := Lib.hid (split_bad hR hd w)
      have tc : (c != 0) = true := by simpa using code_bad hR
      rw [show tgtR (.bad c a) = ([], false) from rfl]
      clear hR e
      rcases ht with rfl | rfl | rfl | rfl
      all_goals
        go_enter Try.func9, Try.ntmps9
        go_wp2_with fail
        refine HS.out.mono ?_; rintro e w1 ⟨v, rfl, hb1⟩
        have HB := Lib.hid hb1
        clear hb1
        go_wp2_with fail
        go_ret2
        exact ⟨rfl, HB.out⟩
  · have e : tgt t d = ([], false) := by unfold tgt; rw [if_neg ht]
    rw [e]
    have t1 : (t == 2) = false := by simp; omega
    have t2 : (t == 5) = false := by simp; omega
    have t3 : (t == 12) = false := by simp; omega
    have t4 : (t == 15) = false := by simp; omega
    clear ht e
    go_enter Try.func9, Try.ntmps9
    go_wp2_with fail
    go_ret2
    exact ⟨rfl, Below.refl _ _⟩

set_option maxHeartbeats 4000000 in
theorem address_any (t : Int) (d : List UInt8) (hd : d.length ≤ 1000000) (w : World) : Calls Try.prog 11 #[.int .i64 t, .string (bs d)] w (Tells w (.tuple #[.int .i64 (adr t d).1, .bool (adr t d).2])) := by
  by_cases ht : t = 1
  · subst ht
    have HC := Lib.hid (rcheckD_any 1 d hd w)
    by_cases hc : (spl 1 d).code = 0
    · have h4 := (adr_len d).mp hc
      have e : adr 1 d = (n4 d 0, true) := by unfold adr; rw [if_pos ⟨rfl, hc⟩]
      rw [hc] at HC
      rw [e]
      have HG := Lib.hid (fun (wx : World) => conv_B wx d (by omega))
      have H4 := Lib.hid h4
      have HN : Hid (∀ wx (v : Value) lo hi, Sl wx lo hi v (iz d) → hi ≤ wx.heap.size → Calls Try.prog 34 #[v, .int .i64 0] wx (GetPost wx (n4 d 0) 4 0 0)) := fun wx v lo hi hs hh => by
        have := get32_any hs (iz_byte d) (by rw [iz_len]; omega) hh 0
        rw [iz_len] at this
        have e1 : getF 4 d.length 0 (nAt4 (iz d) (0 : Int).toNat) = n4 d 0 := by unfold getF; rw [if_pos (by omega)]; rfl
        have e2 : getF 4 d.length 0 (0 + 4) = 4 := by unfold getF; rw [if_pos (by omega)]; rfl
        have e3 : getE 4 d.length 0 = 0 := by unfold getE; rw [if_neg (by omega), if_neg (by omega)]
        have e4 : getA 4 d.length 0 = 0 := by unfold getA; rw [if_neg (by omega)]
        rw [e1, e2, e3, e4] at this
        exact this
      obtain ⟨N, hN⟩ : ∃ N, n4 d 0 = N := ⟨_, rfl⟩
      rw [hN] at HN ⊢
      clear hc h4 e hN
      go_enter Try.func11, Try.ntmps11
      go_wp2_with fail
      refine HC.out.mono ?_; rintro e w1 ⟨rfl, hb1⟩
      obtain ⟨cap, W, hcv, ho, hb2, _⟩ := HG.out w1
      have HW := Lib.hid (bel_call hb1 hb2)
      have HX := Lib.hid (HN.out W _ _ _ ho.sl (Nat.le_refl _))
      clear hb1 hb2 ho
      go_wp2_with fail
      refine HX.out.mono ?_; rintro e w2 ⟨rfl, hb3⟩
      have HB3 := Lib.hid (bel_call HW.out hb3)
      clear hb3
      go_wp2_with fail
      go_ret2
      exact ⟨rfl, bel_alloc HB3.out _⟩
    · have e : adr 1 d = (0, false) := by unfold adr; rw [if_neg (fun h => hc h.2)]
      rw [e]
      obtain ⟨c, hcn⟩ : ∃ c, (spl 1 d).code = c := ⟨_, rfl⟩
      rw [hcn] at HC hc
      have tc : (c != 0) = true := by simpa using hc
      clear e hcn hc
      go_enter Try.func11, Try.ntmps11
      go_wp2_with fail
      refine HC.out.mono ?_; rintro e w1 ⟨rfl, hb1⟩
      have HB := Lib.hid hb1
      clear hb1
      go_wp2_with fail
      go_ret2
      exact ⟨rfl, HB.out⟩
  · have e : adr t d = (0, false) := by unfold adr; rw [if_neg (fun h => ht h.1)]
    rw [e]
    have t1 : (t != 1) = true := by simpa using ht
    clear ht e
    go_enter Try.func11, Try.ntmps11
    go_wp2_with fail
    go_ret2
    exact ⟨rfl, Below.refl _ _⟩
end Go.Proofs.Ytkiahaodajecfaa

/-
  Least, Lower.
-/
namespace Go.Proofs.Ytkiahaodajecfaa
open Go.RowKit Go.Shelf
set_option linter.unusedVariables false
set_option linter.unusedSimpArgs false
set_option maxRecDepth 100000

theorem soa_len {d : List UInt8} (h : (spl 6 d).code = 0) : 22 ≤ d.length ∧ d.length ≤ 530 := by
  obtain ⟨L, hL⟩ := code_ok h
  obtain ⟨_, _, _, h3, h4⟩ := spl_ok hL
  have e : kinds 6 = [.nam, .nam, .fix 20] := rfl
  rw [e] at h3
  cases h3 with
  | nam c1 h3 =>
    cases h3 with
    | nam c2 h3 =>
      cases h3 with
      | fix c3 h3 =>
        cases h3
        have p1 := chk_pos c1
        have p2 := chk_pos c2
        rw [← h4]
        simp only [joined_cons, joined_nil, List.length_append, List.length_nil]
        omega

set_option maxHeartbeats 4000000 in
theorem least_any (t : Int) (d : List UInt8) (hd : d.length ≤ 1000000) (w : World) : Calls Try.prog 13 #[.int .i64 t, .string (bs d)] w (Tells w (.tuple #[.int .i64 (lst t d).1, .bool (lst t d).2])) := by
  by_cases ht : t = 6
  · subst ht
    have HC := Lib.hid (rcheckD_any 6 d hd w)
    by_cases hc : (spl 6 d).code = 0
    · have h4 := soa_len hc
      have e : lst 6 d = (if 2147483648 ≤ n4 d (d.length - 4) then 0 else n4 d (d.length - 4), true) := by unfold lst; rw [if_pos ⟨rfl, hc⟩]
      rw [hc] at HC
      rw [e]
      have HG := Lib.hid (fun (wx : World) => conv_B wx d (by omega))
      have hw : IntKind.i64.wrap ((d.length : Int) - 4) = ((d.length - 4 : Nat) : Int) := by rw [IntWalk.i64_in _ (by omega)]; omega
      obtain ⟨p, hp⟩ : ∃ p, d.length - 4 = p := ⟨_, rfl⟩
      rw [hp] at hw ⊢
      have HN : Hid (∀ wx (v : Value) lo hi, Sl wx lo hi v (iz d) → hi ≤ wx.heap.size → Calls Try.prog 34 #[v, .int .i64 p] wx (GetPost wx (n4 d p) (p + 4) 0 0)) := fun wx v lo hi hs hh => by
        have := get32_any hs (iz_byte d) (by rw [iz_len]; omega) hh p
        rw [iz_len] at this
        have e1 : getF 4 d.length p (nAt4 (iz d) (p : Int).toNat) = n4 d p := by unfold getF; rw [if_pos (by omega)]; rfl
        have e2 : getF 4 d.length p (p + 4) = p + 4 := by unfold getF; rw [if_pos (by omega)]
        have e3 : getE 4 d.length p = 0 := by unfold getE; rw [if_neg (by omega), if_neg (by omega)]
        have e4 : getA 4 d.length p = 0 := by unfold getA; rw [if_neg (by omega)]
        rw [e1, e2, e3, e4] at this
        exact this
      obtain ⟨N, hN⟩ : ∃ N, n4 d p = N := ⟨_, rfl⟩
      rw [hN] at HN ⊢
      clear hc h4 e hN hp
      by_cases hbig : 2147483648 ≤ N
      · rw [if_pos hbig]
        have tb : decide ((2147483648 : Int) ≤ N) = true := by simpa using hbig
        clear hbig
        go_enter Try.func13, Try.ntmps13
        go_wp2_with fail
        refine HC.out.mono ?_; rintro e w1 ⟨rfl, hb1⟩
        obtain ⟨cap, W, hcv, ho, hb2, _⟩ := HG.out w1
        have HW := Lib.hid (bel_call hb1 hb2)
        have HX := Lib.hid (HN.out W _ _ _ ho.sl (Nat.le_refl _))
        clear hb1 hb2 ho
        go_wp2_with fail
        refine HX.out.mono ?_; rintro e w2 ⟨rfl, hb3⟩
        have HB3 := Lib.hid (bel_call HW.out hb3)
        clear hb3
        go_wp2_with fail
        go_ret2
        exact ⟨rfl, bel_alloc HB3.out _⟩
      · rw [if_neg hbig]
        have tb : decide ((2147483648 : Int) ≤ N) = false := by simpa using hbig
        clear hbig
        go_enter Try.func13, Try.ntmps13
        go_wp2_with fail
        refine HC.out.mono ?_; rintro e w1 ⟨rfl, hb1⟩
        obtain ⟨cap, W, hcv, ho, hb2, _⟩ := HG.out w1
        have HW := Lib.hid (bel_call hb1 hb2)
        have HX := Lib.hid (HN.out W _ _ _ ho.sl (Nat.le_refl _))
        clear hb1 hb2 ho
        go_wp2_with fail
        refine HX.out.mono ?_; rintro e w2 ⟨rfl, hb3⟩
        have HB3 := Lib.hid (bel_call HW.out hb3)
        clear hb3
        go_wp2_with fail
        go_ret2
        exact ⟨rfl, bel_alloc HB3.out _⟩
    · have e : lst 6 d = (0, false) := by unfold lst; rw [if_neg (fun h => hc h.2)]
      rw [e]
      obtain ⟨c, hcn⟩ : ∃ c, (spl 6 d).code = c := ⟨_, rfl⟩
      rw [hcn] at HC hc
      have tc : (c != 0) = true := by simpa using hc
      clear e hcn hc
      go_enter Try.func13, Try.ntmps13
      go_wp2_with fail
      refine HC.out.mono ?_; rintro e w1 ⟨rfl, hb1⟩
      have HB := Lib.hid hb1
      clear hb1
      go_wp2_with fail
      go_ret2
      exact ⟨rfl, HB.out⟩
  · have e : lst t d = (0, false) := by unfold lst; rw [if_neg (fun h => ht h.1)]
    rw [e]
    have t1 : (t != 6) = true := by simpa using ht
    clear ht e
    go_enter Try.func13, Try.ntmps13
    go_wp2_with fail
    go_ret2
    exact ⟨rfl, Below.refl _ _⟩

/-- The first k pieces in lower form. -/
def lowPK (L : List Pc) (k : Nat) : List Pc := lowP (L.take k) ++ L.drop k

theorem lowPK_zero (L : List Pc) : lowPK L 0 = L := by simp [lowPK, lowP]
theorem lowPK_len (L : List Pc) (k : Nat) : (lowPK L k).length = L.length := by unfold lowPK lowP; simp; omega
theorem lowPK_at {L : List Pc} {k : Nat} (h : k < L.length) : ∃ hk : k < (lowPK L k).length, (lowPK L k)[k] = L[k] := by
  refine ⟨by rw [lowPK_len]; exact h, ?_⟩
  have hl : (lowP (L.take k)).length = k := by unfold lowP; simp; omega
  unfold lowPK
  rw [List.getElem_append_right (by omega)]
  simp [hl]
theorem lowPK_step {L : List Pc} {k : Nat} (h : k < L.length) : lowPK L (k + 1) = (lowPK L k).set k (lowX L[k]) := by
  have hl : (lowP (L.take k)).length = k := by unfold lowP; simp; omega
  have h1 : lowPK L k = lowP (L.take k) ++ (L[k] :: L.drop (k + 1)) := by unfold lowPK; rw [List.drop_eq_getElem_cons h]
  have h2 : lowPK L (k + 1) = lowP (L.take k) ++ (lowX L[k] :: L.drop (k + 1)) := by
    unfold lowPK
    rw [List.take_add_one, List.getElem?_eq_getElem h, Option.toList_some]
    unfold lowP
    rw [List.map_append]
    simp
  rw [h1, h2, List.set_append_right _ _ (by omega), hl, Nat.sub_self]
  rfl
theorem lowPK_same {L : List Pc} {k : Nat} (h : k < L.length) (hf : L[k].2 = false) : lowPK L (k + 1) = lowPK L k := by
  obtain ⟨hk, he⟩ := lowPK_at h
  rw [lowPK_step h]
  have : lowX L[k] = (lowPK L k)[k] := by rw [he]; unfold lowX; rw [hf]; simp
  rw [this, List.set_getElem_self]

set_option maxHeartbeats 4000000 in
theorem lowerD_any (t : Int) (d : List UInt8) (hd : d.length ≤ 1000000) (w : World) : Calls Try.prog 17 #[.int .i64 t, .string (bs d)] w (Tells w (.string (bs (lowD t d)))) := by
  rcases hR : spl t d with L | ⟨c, a⟩
  · have e : lowD t d = joined (lowP L) := by unfold lowD; rw [hR]
    rw [e]
    have HS := Lib.hid (split_ok hR hd w)
    obtain ⟨_, _, hd6, hf, hj⟩ := spl_ok hR
    have hfl := fits_len hf
    have hk3 := (kinds_small t).1
    have HJ := Lib.hid (fun wx B v (h : OwnP wx B v (lowP L)) => joinP_any h (by rw [(fits_low hf).2, hj]; omega) (by unfold lowP; rw [List.length_map]; omega))
    have HP := Lib.hid (fun k (h : k < L.length) => show L[k].1.length ≤ 1000000 from by
      have h1 := joined_take h
      have h2 := joined_part L (k + 1)
      rw [h1, List.length_append, hj] at h2
      omega)
    obtain ⟨n, hn⟩ : ∃ n, L.length = n := ⟨_, rfl⟩
    have HN := Lib.hid hn
    have hn3 : n ≤ 3 := by omega
    clear hR e hf hj hfl hk3 hd6 hn
    go_enter Try.func17, Try.ntmps17
    go_wp2_with fail
    refine HS.out.mono ?_; rintro e w1 ⟨v, rfl, hown, hb1⟩
    obtain ⟨av, cv, rfl⟩ := hown.shape
    rw [HN.out] at hown ⊢
    have HO := Lib.hid hown
    have HB1 := Lib.hid hb1
    clear hown hb1
    go_wp2_with fail
    go_loopg [21] n (fun g v21 wr => ∃ k : Nat, k + g = n ∧ v21 = .int .i64 k ∧ Hid (OwnP wr w.heap.size (.slice av n cv) (lowPK L k)) ∧ Hid (Below w.heap.size w wr))
    case atStart => exact ⟨0, by omega, rfl, (by rw [lowPK_zero]; exact HO), HB1⟩
    case round =>
      obtain ⟨k, hk, rfl, HOk, HB⟩ := hrel
      by_cases hlt0 : k < n
      · have hlt : k < L.length := by have := HN.out; omega
        obtain ⟨hkl, hke⟩ := lowPK_at hlt
        obtain ⟨g0, c0, he0, hc0, hc1⟩ := OwnP.at_ HOk.out k hkl
        injection he0 with he1 he2 he3
        subst he1
        subst he3
        rw [hke] at hc0 hc1
        have hgs : w.heap.size ≤ g0 := (HOk.out.lt g0 rfl).1
        have hgl := (HOk.out.lt g0 rfl).2
        have hxl := HP.out k hlt
        obtain ⟨x, hx⟩ : ∃ x, L[k].1 = x := ⟨_, rfl⟩
        by_cases hf : L[k].2 = true
        · have hst : lowPK L (k + 1) = (lowPK L k).set k (low x, (lowPK L k)[k].2) := by rw [lowPK_step hlt, hke]; unfold lowX; rw [hf, hx]; simp
          have hal : Below wr.heap.size wr (wr.alloc (.cells #[.string (bs x), .bool true] 63)) := (Below.refl _ _).alloc (Nat.le_refl _) _
          have HLw := Lib.hid (lower_any x (by rw [← hx]; exact hxl) (wr.alloc (.cells #[.string (bs x), .bool true] 63)))
          have HBA := Lib.hid (bel_call HB.out hal)
          have HOA := Lib.hid (HOk.out.below hal)
          have HST := Lib.hid hst
          have HLen := Lib.hid (lowPK_len L k)
          rw [hf] at hc1
          rw [hx] at hc0
          clear hst hal hxl hx hf hke he2
          go_wp2_with fail
          refine HLw.out.mono ?_; rintro e w2 ⟨rfl, hb2⟩
          have ho2 := HOA.out.below hb2
          have hn2 : n = (lowPK L k).length := by rw [HLen.out]; exact HN.out.symm
          obtain ⟨hs1, hs2⟩ := OwnP.set (g := g0) (c := cv) (K := lowPK L k) (by rw [← hn2]; exact ho2) k hkl (low x)
          rw [← HST.out, ← hn2] at hs1
          obtain ⟨g1, c1, he1, hd0, _⟩ := OwnP.at_ ho2 k hkl
          injection he1 with he1 hq2 hq3
          injection he1 with he1
          injection he1 with he1 hq4 hq5
          subst he1
          clear hq2 hq3 hn2 hs2
          have hs2 := World.ownsRow.frozenAt (show World.ownsRow _ _ _ _ (.slice (some ⟨g0, 0, none⟩) n cv) n _ from by have h := ho2; unfold OwnP at h; rw [HLen.out, HN.out] at h; exact h) (k * 2)
          have HS1 := Lib.hid hs1
          have HB2 := Lib.hid ((bel_call HBA.out hb2).setCell (p := ⟨g0, k * 2, none⟩) hgs (.string (bs (low x))))
          clear hs1 ho2 hb2
          go_wp2_with fail
          go_roundg (n - (k + 1))
          case measure => omega
          case rel => exact ⟨k + 1, by omega, by go_num, HS1, HB2⟩
        · have hf : L[k].2 = false := by simpa using hf
          have hst := lowPK_same hlt hf
          have hal : Below wr.heap.size wr (wr.alloc (.cells #[.string (bs x), .bool false] 63)) := (Below.refl _ _).alloc (Nat.le_refl _) _
          have HBA := Lib.hid (bel_call HB.out hal)
          have HOA := Lib.hid (show OwnP _ _ _ (lowPK L (k + 1)) from hst ▸ HOk.out.below hal)
          rw [hf] at hc1
          rw [hx] at hc0
          clear hst hal hxl hx hf hke he2
          go_wp2_with fail
          go_roundg (n - (k + 1))
          case measure => omega
          case rel => exact ⟨k + 1, by omega, by go_num, HOA, HBA⟩
      · have hke : k = n := by omega
        subst hke
        have ho := HOk.out
        have hfin : lowPK L k = lowP L := by unfold lowPK; rw [List.take_of_length_le (by have := HN.out; omega), List.drop_eq_nil_of_le (by have := HN.out; omega), List.append_nil]
        rw [hfin] at ho
        have HJ2 := Lib.hid (HJ.out wr _ _ ho)
        clear ho hfin
        go_wp2_with fail
        refine HJ2.out.mono ?_; rintro e w2 ⟨rfl, hb2⟩
        have HB2 := Lib.hid (bel_call HB.out hb2)
        clear hb2
        go_wp2_with fail
        go_ret
        exact ⟨rfl, HB2.out⟩
  · rw [low_bad hR]
    have HS := Lib.hid (split_bad hR hd w)
    have HCl := Lib.hid (fun wx => clone_any (bs d) (by rw [bs_size]; omega) wx)
    have tc : (c != 0) = true := by simpa using code_bad hR
    clear hR
    go_enter Try.func17, Try.ntmps17
    go_wp2_with fail
    refine HS.out.mono ?_; rintro e w1 ⟨v, rfl, hb1⟩
    have HB := Lib.hid hb1
    clear hb1
    go_wp2_with fail
    refine (HCl.out _).mono ?_; rintro e w2 ⟨rfl, hb2⟩
    have HB2 := Lib.hid (bel_call HB.out hb2)
    clear hb2
    go_wp2_with fail
    go_ret
    exact ⟨rfl, HB2.out⟩
end Go.Proofs.Ytkiahaodajecfaa

/-
  Read.
-/
namespace Go.Proofs.Ytkiahaodajecfaa
open Go.RowKit Go.Shelf
set_option linter.unusedVariables false
set_option linter.unusedSimpArgs false
set_option maxRecDepth 100000

/-- How long what is read may be. -/
theorem go_len {F : Nat → Got} {b : List UInt8} {s e : Nat} (hF : ∀ p, (F p).2.2.1 = 0 → (F p).1.length ≤ 255) : ∀ (ks : List PK) (p : Nat) (acc L : List Pc), goP F b s e ks p acc = .ok L → (joined L).length ≤ (joined acc).length + ks.length * (b.length + 255) ∧ L.length = acc.length + ks.length
  | [], p, acc, L, h => by
    rw [goP] at h
    split at h
    · simp at h
    · injection h with h; subst h; simp
  | k :: ks, p, acc, L, h => by
    rw [goP] at h
    split at h
    · rename_i x q hx
      have hlen : x.1.length ≤ b.length + 255 := by
        have hcut : ∀ q', cutP b s e p q' = .ok x q → x.1.length ≤ b.length + 255 := by
          intro q' hq
          unfold cutP at hq
          split at hq
          · simp at hq
          · injection hq with h1 h2
            subst h1
            simp only [List.length_take, List.length_drop]
            omega
        cases k with
        | fix n => exact hcut _ hx
        | nam =>
          simp only [stepP] at hx
          split at hx
          · simp at hx
          · split at hx
            · simp at hx
            · rename_i h0
              split at hx
              · simp at hx
              · injection hx with h1 h2
                subst h1
                have := hF p (by simpa using h0)
                show (F p).1.length ≤ _
                omega
        | txt =>
          rw [txR_step] at hx
          cases hy : txE b e (e + 1) p with
          | none => rw [hy] at hx; simp [txR] at hx
          | some y => rw [hy] at hx; exact hcut _ hx
        | rst => exact hcut _ hx
      obtain ⟨h1, h2⟩ := go_len hF ks q (acc ++ [x]) L h
      rw [joined_app, List.length_append] at h1
      have h3 : joined [x] = x.1 := by simp [joined]
      rw [h3] at h1
      rw [List.length_append] at h2
      simp only [List.length_cons, List.length_nil] at h2 ⊢
      refine ⟨?_, by omega⟩
      rw [Nat.add_mul]
      omega
    · simp at h

theorem rda_len (b : List UInt8) (p : Nat) (h : (rda b p).2.2.1 = 0) : (rda b p).1.length ≤ 255 := (chk_pos (rda_fine b p h).1).2

theorem rdR_byt (b : List UInt8) (a size t : Int) (h : ¬ (t < 0 ∨ 65535 < t ∨ size < 0 ∨ 65535 < size)) :
    rdR b a size t = if bytE b.length a size ≠ 0 then .bad (bytE b.length a size) (bytA b.length a size).toNat else goP (fun p => rda b p) b a.toNat (a.toNat + size.toNat) (kinds t) a.toNat [] := by
  have e0 : rdR b a size t = if a < 0 ∨ (b.length : Int) < a then .bad 5 0 else if (b.length : Int) < a + size then .bad 4 b.length else goP (fun p => rda b p) b a.toNat (a.toNat + size.toNat) (kinds t) a.toNat [] := by unfold rdR; rw [if_neg h]
  rw [e0]
  by_cases h1 : a < 0 ∨ (b.length : Int) < a
  · have e1 : bytE b.length a size = 5 := by unfold bytE; rw [if_neg (by omega), if_pos h1]
    have e2 : bytA b.length a size = 0 := by unfold bytA; rw [if_neg (by omega)]
    rw [if_pos h1, e1, e2, if_pos (by decide)]; rfl
  · rw [if_neg h1]
    by_cases h2 : (b.length : Int) < a + size
    · have e1 : bytE b.length a size = 4 := by unfold bytE; rw [if_neg (by omega), if_neg h1, if_pos h2]
      have e2 : bytA b.length a size = b.length := by unfold bytA; rw [if_pos (by omega)]
      rw [if_pos h2, e1, e2, if_pos (by decide)]; rfl
    · have e1 : bytE b.length a size = 0 := by unfold bytE; rw [if_neg (by omega), if_neg h1, if_neg h2]
      rw [if_neg h2, e1, if_neg (by simp)]

theorem aside_set2 (w : World) (g : Nat) (x y : Value) : Aside (fun b => b = g) w ((w.setCell ⟨g, 0, none⟩ x).setCell ⟨g, 1, none⟩ y) :=
  (Aside.setCell (G := fun b => b = g) w (p := ⟨g, 0, none⟩) x rfl).trans (Aside.setCell (G := fun b => b = g) _ (p := ⟨g, 1, none⟩) y rfl)

set_option maxHeartbeats 4000000 in
theorem readD_any {w : World} {lo hi : Nat} {v : Value} {b : List UInt8} (hS : Sl w lo hi v (iz b)) (hhi : hi ≤ w.heap.size) (hbl : b.length ≤ 300000) (a size t : Int) (ht : (Lit.int .i64 t).wf = true) :
    Calls Try.prog 28 #[v, .int .i64 a, .int .i64 size, .int .i64 t] w (Tells w (.tuple #[.string (bs (joined (rdR b a size t).pcs)), .agg #[.int .i64 (rdR b a size t).code, .int .i64 (rdR b a size t).place]])) := by
  have hb0 : Below w.heap.size w (w.alloc (.cells #[.int .i64 0, .int .i64 0] 51)) := (Below.refl _ _).alloc (Nat.le_refl _) _
  have HB0 := Lib.hid hb0
  have hS2 := hS
  obtain ⟨av, cv, rfl, _⟩ := hS
  replace hS2 : Sl w lo hi (.slice av b.length cv) (iz b) := by rw [iz_len] at hS2; exact hS2
  rw [iz_len]
  by_cases harg : t < 0 ∨ 65535 < t ∨ size < 0 ∨ 65535 < size
  · have e : rdR b a size t = .bad 2 0 := by unfold rdR; rw [if_pos harg]
    rw [e]
    show Calls _ _ _ _ (Tells w (.tuple #[.string (bs []), .agg #[.int .i64 2, .int .i64 0]]))
    by_cases ht1 : t < 0 ∨ 65535 < t
    · have HT := Lib.hid (fun wx => bounded_no t ht1 wx)
      clear harg e ht1
      go_enter Try.func28, Try.ntmps28
      go_wp2_with fail
      refine (HT.out _).mono ?_; rintro e w1 ⟨rfl, rfl⟩
      go_wp2_with fail
      exact bodyPost_ret (by simp [results, Try.results28, go_sem]; rfl) rfl ⟨rfl, (Below.refl _ _).alloc (Nat.le_refl _) _⟩
    · have HT := Lib.hid (fun wx => bounded_yes t (by omega) (by omega) wx)
      have HT2 := Lib.hid (fun wx => bounded_no size (by omega) wx)
      clear harg e ht1
      go_enter Try.func28, Try.ntmps28
      go_wp2_with fail
      refine (HT.out _).mono ?_; rintro e w1 ⟨rfl, rfl⟩
      go_wp2_with fail
      refine (HT2.out _).mono ?_; rintro e w1 ⟨rfl, rfl⟩
      go_wp2_with fail
      exact bodyPost_ret (by simp [results, Try.results28, go_sem]; rfl) rfl ⟨rfl, (Below.refl _ _).alloc (Nat.le_refl _) _⟩
  · have HT := Lib.hid (fun wx => bounded_yes t (by omega) (by omega) wx)
    have HT2 := Lib.hid (fun wx => bounded_yes size (by omega) (by omega) wx)
    have HBy := Lib.hid (bytes_any (hS2.below hb0 hhi) (by rw [iz_len]; omega) (Nat.le_trans hhi hb0.size) a size (by omega))
    rw [iz_len] at HBy
    rw [rdR_byt b a size t harg]
    by_cases hE : bytE b.length a size = 0
    · rw [if_neg (by simpa using hE)]
      have hin : 0 ≤ a ∧ 0 ≤ size ∧ a + size ≤ b.length := by
        unfold bytE at hE
        split at hE
        · simp at hE
        · split at hE
          · simp at hE
          · split at hE
            · simp at hE
            · omega
      obtain ⟨p, rfl⟩ : ∃ p : Nat, a = p := ⟨a.toNat, by omega⟩
      obtain ⟨m, rfl⟩ : ∃ m : Nat, size = m := ⟨size.toNat, by omega⟩
      have hA : bytA b.length p m = 0 := by unfold bytA; rw [if_neg (by omega)]
      have hF : bytF b.length p m = ((p + m : Nat) : Int) := by unfold bytF; rw [if_pos (by omega)]; push_cast; rfl
      rw [hE, hA, hF] at HBy
      rw [Int.toNat_natCast, Int.toNat_natCast]
      obtain ⟨q, hq⟩ : ∃ q, p + m = q := ⟨_, rfl⟩
      rw [hq] at HBy ⊢
      have HRd := Lib.hid (fun wx (hb : Below w.heap.size w wx) => read_read (s := p) (p := p) (e := q) (F := fun p => rda b p) t ht (hS2.below hb hhi) (Nat.le_trans hhi hb.size) (by omega) (by omega) (by omega) fun wy hs hh p => read_any hs hh (by omega) p)
      have HGl := Lib.hid (fun L (h : goP (fun p => rda b p) b p q (kinds t) p [] = .ok L) => go_len (F := fun p => rda b p) (b := b) (s := p) (e := q) (fun p h => rda_len b p h) (kinds t) p [] L h)
      have HK3 := Lib.hid (kinds_small t).1
      obtain ⟨R, hR⟩ : ∃ R, goP (fun p => rda b p) b p q (kinds t) p [] = R := ⟨_, rfl⟩
      rw [hR] at HRd HGl ⊢
      have HJ : Hid (∀ wx B v, OwnP wx B v R.pcs → Calls Try.prog 37 #[v] wx (Tells wx (.string (bs (joined R.pcs))))) := by
        intro wx B v hown
        refine joinP_any hown ?_ ?_
        · rcases R with L | ⟨c, aa⟩
          · obtain ⟨h1, h2⟩ := HGl.out L rfl
            have hk := HK3.out
            show (joined L).length ≤ _
            have h3 : (joined ([] : List Pc)).length = 0 := rfl
            have h4 : (kinds t).length * (b.length + 255) ≤ 3 * (b.length + 255) := Nat.mul_le_mul_right _ hk
            omega
          · show (joined []).length ≤ _; simp [joined]
        · rcases R with L | ⟨c, aa⟩
          · obtain ⟨h1, h2⟩ := HGl.out L rfl
            have hk := HK3.out
            show L.length ≤ _
            simp at h2
            omega
          · simp [RR.pcs]
      clear harg hE hin hA hF hq hR HGl hS2
      go_enter Try.func28, Try.ntmps28
      go_wp2_with fail
      refine (HT.out _).mono ?_; rintro e w1 ⟨rfl, rfl⟩
      go_wp2_with fail
      refine (HT2.out _).mono ?_; rintro e w1 ⟨rfl, rfl⟩
      go_wp2_with fail
      refine HBy.out.mono ?_; rintro e w1 ⟨v1, g1, rfl, _, _, _, hb1⟩
      simp only [World.size_alloc] at hb1
      have HB1 := Lib.hid hb1
      have hlt := below_lt hb1
      obtain ⟨k0, k1, k3⟩ := res_cells hb1
      have HBW := Lib.hid (HB0.out.trans (hb1.mono (Nat.le_succ _)))
      have HR2 := Lib.hid (HRd.out (w1.alloc (.cells #[.int .i64 0, .int .i64 0] 51)) (bel_alloc HBW.out _))
      clear hb1
      go_wp2_with fail
      refine HR2.out.mono ?_; rintro e w3 ⟨v3, rfl, hown, hb3⟩
      simp only [World.size_alloc] at hown
      have m0 : w3.cell? ⟨w1.heap.size, 0, none⟩ = some (.int .i64 0) := cell_later hb3 (by simp [go_sem])
      have m1 : w3.cell? ⟨w1.heap.size, 1, none⟩ = some (.int .i64 0) := cell_later hb3 (by simp [go_sem])
      have mf : ∀ j, w3.frozen? ⟨w1.heap.size, j, none⟩ = false := fun j => (hb3.frozen (p := ⟨w1.heap.size, j, none⟩) (by simp)).trans (by simp [go_sem])
      have hal1 : Below w1.heap.size w1 (w1.alloc (.cells #[.int .i64 0, .int .i64 0] 51)) := (Below.refl _ _).alloc (Nat.le_refl _) _
      have n0 : w3.cell? ⟨w.heap.size, 0, none⟩ = some (.int .i64 0) := cell_later hb3 (cell_later hal1 k0)
      have n1 : w3.cell? ⟨w.heap.size, 1, none⟩ = some (.int .i64 0) := cell_later hb3 (cell_later hal1 k1)
      have nf : ∀ j, w3.frozen? ⟨w.heap.size, j, none⟩ = false := fun j => (hb3.frozen (p := ⟨w.heap.size, j, none⟩) (by simp; omega)).trans ((hal1.frozen (p := ⟨w.heap.size, j, none⟩) hlt).trans (k3 j))
      obtain ⟨g, hg⟩ : ∃ g, w1.heap.size = g := ⟨_, rfl⟩
      rw [hg] at m0 m1 mf hlt hown ⊢
      obtain ⟨C, hC⟩ : ∃ C, R.code = C := ⟨_, rfl⟩
      obtain ⟨A, hA⟩ : ∃ A, R.place = A := ⟨_, rfl⟩
      rw [hC, hA]
      have HCh := Lib.hid hC
      have HAh := Lib.hid hA
      obtain ⟨W4, hW4⟩ : ∃ W4, (w3.setCell ⟨g, 0, none⟩ (.int .i64 C)).setCell ⟨g, 1, none⟩ (.int .i64 A) = W4 := ⟨_, rfl⟩
      have HW4 := Lib.hid hW4
      have hAs : Aside (fun b => b = g) w3 W4 := by rw [← hW4]; exact aside_set2 w3 g _ _
      obtain ⟨q0, q1⟩ := res_set (.int .i64 C) (.int .i64 A) m0 m1
      have q0' : W4.cell? ⟨g, 0, none⟩ = some (.int .i64 C) := by rw [← hW4, World.cell?_setCell_other _ _ _ _ (by simp)]; exact q0
      have q1' : W4.cell? ⟨g, 1, none⟩ = some (.int .i64 A) := by rw [← hW4]; exact q1
      have hgw : ¬ w.heap.size = g := by omega
      have n0' := hAs.cell_lt n0 hgw
      have n1' := hAs.cell_lt n1 hgw
      have nf' : ∀ j, W4.frozen? ⟨w.heap.size, j, none⟩ = false := fun j => (hAs.frozen (p := ⟨w.heap.size, j, none⟩) (show w.heap.size < _ from World.block_lt_of_cell? w3 ⟨w.heap.size, 0, none⟩ n0) hgw).trans (nf j)
      have ho4 := hown.aside hAs fun b hb e => by have := (hown.lt b hb).1; omega
      have hbw3 : Below w.heap.size w w3 := bel_call (bel_alloc HBW.out _) hb3
      have hbw4 : Below w.heap.size w W4 := below_aside hbw3 hAs fun b hb => ⟨Nat.lt_of_lt_of_le hb hbw3.size, by omega⟩
      have hd4 : Below W4.heap.size W4 W4.drew := (Below.refl _ _).drew
      have HJ4 := Lib.hid (HJ.out W4.drew _ _ (ho4.below hd4))
      have HB4 := Lib.hid hbw4
      have HN4 := Lib.hid (And.intro n0' (And.intro n1' nf'))
      have HQ4 := Lib.hid (And.intro q0' q1')
      have mf0 := mf 0
      have mf1 := mf 1
      clear hown hb3 n0 n1 nf hAs q0 q1 q0' q1' hgw n0' n1' nf' ho4 hbw3 hbw4 hd4 k0 k1 k3 hal1 mf hC hA HR2 HRd HJ HBy
      go_wp2_with fail
      clear m0 m1 mf0 mf1 hW4
      obtain ⟨q0, q1⟩ := HQ4.out
      go_region_held3 (fun wx => wx.cell? ⟨g, 0, none⟩ = some (.int .i64 C) ∧ wx.cell? ⟨g, 1, none⟩ = some (.int .i64 A)) (first | exact HQ4.out | exact ⟨cell_later ((Below.refl _ W4).drew) HQ4.out.1, cell_later ((Below.refl _ W4).drew) HQ4.out.2⟩ | exact HQ5.out | exact ⟨(World.cell?_setCell_other _ _ _ _ (by first | (simp; done) | (simp; omega))).trans ((World.cell?_setCell_other _ _ _ _ (by first | (simp; done) | (simp; omega))).trans HQ5.out.1), (World.cell?_setCell_other _ _ _ _ (by first | (simp; done) | (simp; omega))).trans ((World.cell?_setCell_other _ _ _ _ (by first | (simp; done) | (simp; omega))).trans HQ5.out.2)⟩) (first | (go_at_call 37; refine HJ4.out.mono ?_; rintro e w5 ⟨rfl, hb5⟩; have hbb : Below W4.heap.size W4 w5 := bel_call ((Below.refl _ W4).drew) hb5; have HQ5 := Lib.hid (And.intro (cell_later hbb HQ4.out.1) (cell_later hbb HQ4.out.2)); have HB5 := Lib.hid hbb; have n0 := cell_later hbb HN4.out.1; have n1 := cell_later hbb HN4.out.2.1; have nf0 := (hbb.frozen (p := ⟨w.heap.size, 0, none⟩) (show w.heap.size < _ from World.block_lt_of_cell? W4 ⟨w.heap.size, 0, none⟩ HN4.out.1)).trans (HN4.out.2.2 0); have nf1 := (hbb.frozen (p := ⟨w.heap.size, 1, none⟩) (show w.heap.size < _ from World.block_lt_of_cell? W4 ⟨w.heap.size, 0, none⟩ HN4.out.1)).trans (HN4.out.2.2 1); clear hb5 hbb))
      obtain ⟨z0, z1⟩ := res_set (.int .i64 C) (.int .i64 A) n0 n1
      have HFin := Lib.hid (bel_set2 (bel_call HB4.out HB5.out) (Nat.le_refl _) (.int .i64 C) (.int .i64 A))
      clear HQ4 HQ5 HN4 q0 q1
      go_wp2_with fail
      exact bodyPost_ret (by simp [results, Try.results28, go_sem, z0, z1]; rfl) rfl ⟨by rw [HCh.out, HAh.out], HFin.out⟩
    · rw [if_pos hE]
      obtain ⟨E, hEe⟩ : ∃ E, bytE b.length a size = E := ⟨_, rfl⟩
      have hAp : bytA b.length a size = ((bytA b.length a size).toNat : Int) := by unfold bytA; split <;> simp
      obtain ⟨A, hAe⟩ : ∃ A, (bytA b.length a size).toNat = A := ⟨_, rfl⟩
      obtain ⟨F, hFe⟩ : ∃ F, bytF b.length a size = F := ⟨_, rfl⟩
      rw [hAe] at hAp
      rw [hEe, hAp, hFe] at HBy
      rw [hEe] at hE
      rw [hEe, hAe]
      show Calls _ _ _ _ (Tells w (.tuple #[.string (bs []), .agg #[.int .i64 E, .int .i64 A]]))
      have tE : (E != 0) = true := by simpa using hE
      clear harg hE hEe hAe hFe hAp hS2
      go_enter Try.func28, Try.ntmps28
      go_wp2_with fail
      refine (HT.out _).mono ?_; rintro e w1 ⟨rfl, rfl⟩
      go_wp2_with fail
      refine (HT2.out _).mono ?_; rintro e w1 ⟨rfl, rfl⟩
      go_wp2_with fail
      refine HBy.out.mono ?_; rintro e w1 ⟨v1, g1, rfl, _, _, _, hb1⟩
      simp only [World.size_alloc] at hb1
      have HB1 := Lib.hid hb1
      have hlt := below_lt hb1
      obtain ⟨k0, k1, k3⟩ := res_cells hb1
      have k30 := k3 0
      have k31 := k3 1
      clear hb1
      go_wp2_with fail
      go_region
      all_goals
        try go_wp2_with fail
        obtain ⟨z0, z1⟩ := res_set (.int .i64 E) (.int .i64 A) k0 k1
        exact bodyPost_ret (by simp [results, Try.results28, go_sem, z0, z1, hlt]; rfl) rfl ⟨rfl, below_drewN (res_below HB1.out _ _ _) 1⟩
end Go.Proofs.Ytkiahaodajecfaa

/-
  What the document's examples say: awake.
-/
namespace Go.Proofs.Ytkiahaodajecfaa
open Go.RowKit Go.Shelf
set_option linter.unusedVariables false
set_option linter.unusedSimpArgs false
set_option maxRecDepth 100000

theorem rda_ex : rda [1, 97, 0, 0, 5, 192, 0] 5 = ([1, 97, 0], 7, 0, 0) :=
  rdaE (b := [1, 97, 0, 0, 5, 192, 0]) (p := 5) (ls := [[97]]) (en := 7) (.lead (to := 0) (by decide) (by decide) (by decide) (by decide) (.label (by decide) (by decide) (by decide) (by decide) (.zero (by decide) (by decide)))) (by decide)

theorem rdR_ex : rdR [1, 97, 0, 0, 5, 192, 0] 3 4 15 = .ok [([0, 5], false), ([1, 97, 0], true)] := by
  have e1 : kinds 15 = [.fix 2, .nam] := rfl
  have e : rdR [1, 97, 0, 0, 5, 192, 0] 3 4 15 = goP (fun p => rda [1, 97, 0, 0, 5, 192, 0] p) [1, 97, 0, 0, 5, 192, 0] 3 7 (kinds 15) 3 [] := by
    unfold rdR
    rw [if_neg (by decide), if_neg (by decide), if_neg (by decide)]
    rfl
  rw [e, e1]
  have s1 : stepP (fun p => rda [1, 97, 0, 0, 5, 192, 0] p) [1, 97, 0, 0, 5, 192, 0] 3 7 3 (.fix 2) = .ok ([0, 5], false) 5 := rfl
  have s2 : stepP (fun p => rda [1, 97, 0, 0, 5, 192, 0] p) [1, 97, 0, 0, 5, 192, 0] 3 7 5 .nam = .ok ([1, 97, 0], true) 7 := by
    simp only [stepP]
    have h : rda [1, 97, 0, 0, 5, 192, 0] ((5 : Nat) : Int) = ([1, 97, 0], 7, 0, 0) := rda_ex
    rw [h]
    rfl
  rw [goP, s1]
  simp only
  rw [goP, s2]
  rfl

theorem spl_ex4 : (spl 1 [49, 50, 51, 52]).code = 0 := (adr_len _).mpr rfl
theorem spl_ex5 : (spl 1 [49, 50, 51, 52, 53]).code = 4 := by
  rw [spl_cuts]
  rfl

set_option maxHeartbeats 2000000 in
theorem awakeD_any (w : World) : Calls Try.prog 19 #[] w (Tells w (.bool true)) := by
  have hs : Sl (w.alloc (.cells #[.int .u8 1, .int .u8 97, .int .u8 0, .int .u8 0, .int .u8 5, .int .u8 192, .int .u8 0] 5)) w.heap.size (w.heap.size + 1) (.slice (some ⟨w.heap.size, 0, none⟩) 7 7) (iz [1, 97, 0, 0, 5, 192, 0]) := sl_lit w [1, 97, 0, 0, 5, 192, 0]
  have hb0 := Lib.hid ((Below.refl w.heap.size w).alloc (Nat.le_refl _) (.cells #[.int .u8 1, .int .u8 97, .int .u8 0, .int .u8 0, .int .u8 5, .int .u8 192, .int .u8 0] 5))
  have hr := readD_any hs (by simp) (by simp) 3 4 15 (by decide)
  rw [rdR_ex] at hr
  have HR : Hid (Calls Try.prog 28 #[.slice (some ⟨w.heap.size, 0, none⟩) 7 7, .int .i64 3, .int .i64 4, .int .i64 15] (w.alloc (.cells #[.int .u8 1, .int .u8 97, .int .u8 0, .int .u8 0, .int .u8 5, .int .u8 192, .int .u8 0] 5)) (Tells (w.alloc (.cells #[.int .u8 1, .int .u8 97, .int .u8 0, .int .u8 0, .int .u8 5, .int .u8 192, .int .u8 0] 5)) (.tuple #[.string (bs [0, 5, 1, 97, 0]), .agg #[.int .i64 0, .int .i64 0]]))) := hr
  have C4 := Lib.hid (fun wx => show Calls Try.prog 15 #[.int .i64 1, .string ⟨#[49, 50, 51, 52]⟩] wx (Tells wx (.int .i64 0)) from by have h := rcheckD_any 1 [49, 50, 51, 52] (by simp) wx; rw [spl_ex4] at h; exact h)
  have C5 := Lib.hid (fun wx => show Calls Try.prog 15 #[.int .i64 1, .string ⟨#[49, 50, 51, 52, 53]⟩] wx (Tells wx (.int .i64 4)) from by have h := rcheckD_any 1 [49, 50, 51, 52, 53] (by simp) wx; rw [spl_ex5] at h; exact h)
  have ht : ((bs [0, 5, 1, 97, 0]).toList == [0, 5, 1, 97, 0]) = true := by rw [bs_toList]; rfl
  clear hs hr
  go_enter Try.func19, Try.ntmps19
  go_wp2_with fail
  refine HR.out.mono ?_; rintro e w1 ⟨rfl, hb⟩
  have HB := Lib.hid (bel_alloc (bel_call hb0.out hb) (.cells #[.int .i64 0, .int .i64 0] 51))
  clear hb
  go_wp2_with fail
  refine (tell_on HB (C4.out _)).mono ?_; rintro e w2 ⟨rfl, HB⟩
  go_wp2_with fail
  refine (tell_on HB (C5.out _)).mono ?_; rintro e w3 ⟨rfl, HB⟩
  go_wp2_with fail
  go_ret
  exact ⟨rfl, HB.out⟩
end Go.Proofs.Ytkiahaodajecfaa
