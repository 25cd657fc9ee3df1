/-
  The document's Name.
-/
import Derived.Test.YtkiahaodajecfaaKz
import Derived.Test.YtkiahaodajecfaaTi
import Derived.Outline
namespace Go.Proofs.Ytkiahaodajecfaa
open Go.RowKit Go.Shelf
set_option linter.unusedVariables false
set_option maxRecDepth 100000

theorem OwnU.sl {w : World} {B : Nat} {v : Value} {l : List UInt8} (h : OwnU w B v l) : Sl w B w.heap.size v (iz l) := by
  have hlt := fun k hk => World.ownsRowF.lt h k hk
  obtain ⟨a, c, hv, hx⟩ := h.shape
  rcases h.2 with ⟨rfl, h0⟩ | ⟨g, cap, cur, fz, rfl, hg, hh, hfz, hcap, _⟩
  · have e : l = [] := List.eq_nil_of_length_eq_zero h0
    subst e
    exact ⟨none, 0, rfl, by simp [iz], fun _ => rfl, fun h => by simp [iz] at h⟩
  · refine ⟨some ⟨g, 0, none⟩, cap, by rw [iz_len], by rw [iz_len]; exact hcap, fun h => by simp at h, fun h0 => ⟨g, 0, rfl, hg, (hlt g rfl).2, fun j hj => ?_⟩⟩
    rw [iz_len] at hj
    obtain ⟨g', he, _, hc⟩ := hx (by omega)
    injection hv with hv
    rw [← hv] at he
    injection he with he
    injection he with he
    subst he
    rw [Nat.zero_add, hc j hj, iz_get l j hj, List.getD, List.getElem?_eq_getElem hj]
    rfl

theorem chk_nm2 {ls : List (List UInt8)} (h : Shorts ls) : chk (nm ls) = 0 := shorts_chk h

def RNamePost (w : World) (B q : Nat) (v : Value) (K : List (List UInt8 × Nat)) (e : Nat) (a : Int) (n : List UInt8) (x : Ending) (w' : World) : Prop :=
  ∃ v1 v2, x = .returned (.tuple #[v1, .int .i64 (pkE e a n)]) ∧ Sl w' w.heap.size w'.heap.size v1 (iz (nameB K e a n)) ∧ Rk w' B q v2 (nameK K e a n) (nameE K e a n) ∧ Aside (fun b => b = q ∨ v.ownBlock = some b) w w'

theorem rname_bad {w wx : World} {B q e : Nat} {v : Value} {K : List (List UInt8 × Nat)} {a : Int} {n : List UInt8} {c : Int} (h : Rk w B q v K e) (hb : Below w.heap.size w wx) (hc : pkE e a n = c) (h0 : c ≠ 0) :
    RNamePost w B q v K e a n (.returned (.tuple #[.slice none 0 0, .int .i64 c])) wx := by
  have h1 : ¬ pkE e a n = 0 := by rw [hc]; exact h0
  unfold RNamePost nameB nameK nameE
  rw [if_neg h1, if_neg h1, if_neg h1, hc]
  exact ⟨_, v, rfl, ⟨none, 0, rfl, by simp [iz], fun _ => rfl, fun h => by simp [iz] at h⟩, h.later hb, Aside.of_all hb⟩

set_option maxRecDepth 100000 in
set_option maxHeartbeats 2000000 in
theorem rname_no {w : World} {B q e : Nat} {v : Value} {K : List (List UInt8 × Nat)} (h : Rk w B q v K e) (a : Int) (n : List UInt8) (hn : n.length ≤ 1000) (h0 : pkE e a n ≠ 0) :
    Calls Try.prog 42 #[.pointer (some ⟨q, 0, none⟩), .int .i64 a, .string (bs n)] w (RNamePost w B q v K e a n) := by
  have HC := Lib.hid (rcheck_any n (by omega) w)
  have HP := Lib.hid h
  have BAD := Lib.hid (fun wx hb c hc h0 => rname_bad (wx := wx) h hb (a := a) (n := n) (c := c) hc h0)
  by_cases hc : chk n = 0
  · rw [hc] at HC
    by_cases hr : a < 0 ∨ 65535 < a
    · have HE := Lib.hid (show pkE e a n = 2 by unfold pkE; rw [if_neg (fun h => h hc), if_pos hr])
      have hor : decide (a < 0) = true ∨ (decide (a < 0) = false ∧ decide ((65535 : Int) < a) = true) := by
        by_cases h : a < 0
        · exact .inl (by simpa using h)
        · exact .inr ⟨by simpa using h, by simpa using hr.resolve_left h⟩
      clear hr hc h h0
      rcases hor with t1 | ⟨t1, t2⟩
      all_goals
        go_enter Try.func42, Try.ntmps42
        go_wp2_with fail
        refine HC.out.mono ?_; rintro e0 w1 ⟨rfl, hb⟩
        have HB := Lib.hid hb
        clear hb
        go_wp2_with fail
        go_ret2
        exact BAD.out _ HB.out 2 HE.out (by decide)
    · by_cases hst : a < e
      · have HE := Lib.hid (show pkE e a n = 9 by unfold pkE; rw [if_neg (fun h => h hc), if_neg hr, if_pos hst])
        have t1 : decide (a < 0) = false := by simp; omega
        have t2 : decide ((65535 : Int) < a) = false := by simp; omega
        have t3 : decide (a < (e : Int)) = true := by simpa using hst
        clear hr hc h hst h0
        go_enter Try.func42, Try.ntmps42
        go_wp2_with fail
        refine HC.out.mono ?_; rintro e0 w1 ⟨rfl, hb⟩
        have HB := Lib.hid hb
        have c2 := (HP.out.later hb).fin
        clear hb
        go_wp2_with fail
        go_ret2
        exact BAD.out _ HB.out 9 HE.out (by decide)
      · exact absurd (by unfold pkE; rw [if_neg (fun h => h hc), if_neg hr, if_neg hst]) h0
  · have hE : pkE e a n = chk n := by unfold pkE; rw [if_pos hc]
    obtain ⟨c, hcn⟩ : ∃ c, chk n = c := ⟨_, rfl⟩
    rw [hcn] at HC hE hc
    have HE := Lib.hid hE
    have tc : (c != 0) = true := by simpa using hc
    clear hE hcn h h0
    go_enter Try.func42, Try.ntmps42
    go_wp2_with fail
    refine HC.out.mono ?_; rintro e0 w1 ⟨rfl, hb⟩
    have HB := Lib.hid hb
    clear hb
    go_wp2_with fail
    go_ret2
    exact BAD.out _ HB.out c HE.out hc

theorem OwnU.but {w w' : World} {B : Nat} {v : Value} {l : List UInt8} {G : Nat → Prop} (h : OwnU w B v l) (ha : Aside G w w') (hG : ∀ b, v.ownBlock = some b → ¬ G b) : OwnU w' B v l := by
  have hlt := fun k hk => World.ownsRowF.lt h k hk
  refine ⟨h.1, ?_⟩
  rcases h.2 with h2 | ⟨g, cap, cur, fz, hv, hg, hh, r⟩
  · exact .inl h2
  · exact .inr ⟨g, cap, cur, fz, hv, hg, (ha.block g (by subst hv; exact (hlt g rfl).2) (hG g (by rw [hv]; rfl))).trans hh, r⟩

theorem apart_UK {w : World} {B B' : Nat} {v v' : Value} {l : List UInt8} {K : List (List UInt8 × Nat)} (h : OwnU w B v l) (h' : OwnK w B' v' K) (b : Nat) (h1 : v.ownBlock = some b) (h2 : v'.ownBlock = some b) : False := by
  rcases h.2 with ⟨rfl, _⟩ | ⟨g, cap, cur, fz, rfl, _, hg, _⟩
  · simp [Value.ownBlock] at h1
  · rcases h'.2 with ⟨rfl, _⟩ | ⟨g', cap', cur', rfl, _, hg', _⟩
    · simp [Value.ownBlock] at h2
    · simp [Value.ownBlock] at h1 h2
      subst h1; subst h2
      rw [hg] at hg'
      injection hg' with hg'
      injection hg' with _ h3 _
      exact absurd h3 (by decide)

/-- A tail is put behind those that are fresh. -/
theorem fresh_step {w wr : World} {v9 v10 : Value} {P : List UInt8} {F : List (List UInt8 × Nat)} (HU : OwnU wr w.heap.size v9 P) (HF : OwnK wr w.heap.size v10 F) (HB : Below w.heap.size w wr) (T : List UInt8) (x : Nat) (hF : F.length + 1 ≤ 1000000) :
    ∃ a1 c1 W, (Builtin.append_ #[35, 35] 35 #[v10, .slice (some ⟨wr.heap.size, 0, none⟩) 1 1]).run Try.prog (wr.alloc (.cells #[.string (bs T), .int .i64 (x : Int)] 104)) = .ok (.slice a1 (F.length + 1) c1) W ∧
      OwnK W w.heap.size (.slice a1 (F.length + 1) c1) (F ++ [(T, x)]) ∧ OwnU W w.heap.size v9 P ∧ Below w.heap.size w W := by
  have hal : Below wr.heap.size wr (wr.alloc (.cells #[.string (bs T), .int .i64 (x : Int)] 104)) := (Below.refl _ _).alloc (Nat.le_refl _) _
  have hF1 := HF.below hal
  have hU1 := HU.below hal
  have hB1 := bel_call HB hal
  obtain ⟨a1, c1, W, h1, h2, h3⟩ := run_appK (K' := [(T, x)]) w.heap.size v10 F wr.heap.size 1 hF1 (fun j u hu => by
    match j, hu with
    | 0, hu => simp [kc] at hu; subst hu; simp [go_sem]
    | 1, hu => simp [kc] at hu; subst hu; simp [go_sem]
    | j + 2, hu => simp [kc] at hu) hF hB1.size
  exact ⟨a1, c1, W, h1, h2, hU1.but h3 fun b hb hg => apart_UK hU1 hF1 b hb hg, below_aside hB1 h3 fun b hb => ⟨Nat.lt_of_lt_of_le hb hB1.size, fun hg => by have := (hF1.lt b hg).1; omega⟩⟩

theorem out_keep {w wr W : World} {v9 v10 : Value} {P : List UInt8} {F : List (List UInt8 × Nat)} (HU : OwnU wr w.heap.size v9 P) (HF : OwnK wr w.heap.size v10 F) (HB : Below w.heap.size w wr) (hg : wr.grownBy W v9.ownBlock) : OwnK W w.heap.size v10 F ∧ Below w.heap.size w W := by
  have ha := Aside.grown (G := fun b => v9.ownBlock = some b) hg fun _ h => h
  exact ⟨HF.aside ha fun b hb hg => apart_UK HU HF b hg hb, below_aside HB ha fun b hb => ⟨Nat.lt_of_lt_of_le hb HB.size, fun hg => by have := HU.row b hg; omega⟩⟩

/-- A text's bytes are put behind those that are out. -/
theorem out_step {w wr : World} {v9 v10 : Value} {P : List UInt8} {F : List (List UInt8 × Nat)} (HU : OwnU wr w.heap.size v9 P) (HF : OwnK wr w.heap.size v10 F) (HB : Below w.heap.size w wr) (l' : List UInt8) (hl : P.length + l'.length ≤ 1000000) :
    ∃ a1 c1 W, (Builtin.append_ #[42, 9] 42 #[v9, .string (bs l')]).run Try.prog wr = .ok (.slice a1 (P.length + l'.length) c1) W ∧
      OwnU W w.heap.size (.slice a1 (P.length + l'.length) c1) (P ++ l') ∧ OwnK W w.heap.size v10 F ∧ Below w.heap.size w W := by
  obtain ⟨a1, c1, W, h1, h2, h3⟩ := run_appS (w := wr) w.heap.size v9 P l' HU hl HB.size
  exact ⟨a1, c1, W, h1, h2, out_keep HU HF HB h3⟩

/-- Bytes that are written down likewise. -/
theorem out_lit {w wr : World} {v9 v10 : Value} {P : List UInt8} {F : List (List UInt8 × Nat)} (HU : OwnU wr w.heap.size v9 P) (HF : OwnK wr w.heap.size v10 F) (HB : Below w.heap.size w wr) (l' : List UInt8) (hl : P.length + l'.length ≤ 1000000) :
    ∃ a1 c1 W, (Builtin.append_ #[42, 42] 42 #[v9, .slice (some ⟨wr.heap.size, 0, none⟩) l'.length l'.length]).run Try.prog (wr.alloc (.cells ((iz l').map (Value.int .u8)).toArray 5)) = .ok (.slice a1 (P.length + l'.length) c1) W ∧
      OwnU W w.heap.size (.slice a1 (P.length + l'.length) c1) (P ++ l') ∧ OwnK W w.heap.size v10 F ∧ Below w.heap.size w W := by
  have hal : Below wr.heap.size wr (wr.alloc (.cells ((iz l').map (Value.int .u8)).toArray 5)) := (Below.refl _ _).alloc (Nat.le_refl _) _
  have hF1 := HF.below hal
  have hU1 := HU.below hal
  have hB1 := bel_call HB hal
  obtain ⟨a1, c1, W, h1, h2, h3⟩ := run_appU (w := wr.alloc (.cells ((iz l').map (Value.int .u8)).toArray 5)) w.heap.size v9 P l' wr.heap.size l'.length hU1 (fun j hj => by
    rw [World.cell?, heap_alloc_new]
    simp [iz, hj]) hl hB1.size
  exact ⟨a1, c1, W, h1, h2, out_keep hU1 hF1 hB1 h3⟩

/-- What is told, what is known then. -/
theorem rname_fin {w W : World} {B q e : Nat} {v v9 v10 : Value} {K F : List (List UInt8 × Nat)} {P : List UInt8} {a : Nat} {n : List UInt8} (h : Rk w B q v K e) (HU : OwnU W w.heap.size v9 P) (HF : OwnK W w.heap.size v10 F) (HB : Below w.heap.size w W)
    (hE : pkE e a n = 0) (h1 : nameB K e a n = P) (h2 : nameK K e a n = K ++ F) (h3 : nameE K e a n = a + P.length) (hl : K.length + F.length ≤ 1000000) :
    ∃ a1 c1 W', (Builtin.append_ #[35, 35] 35 #[v, v10]).run Try.prog W = .ok (.slice a1 (K.length + F.length) c1) W' ∧
      W'.cell? ⟨q, 0, none⟩ = some v ∧ W'.cell? ⟨q, 1, none⟩ = some (.int .i64 e) ∧ (∀ j, W'.frozen? ⟨q, j, none⟩ = false) ∧
      RNamePost w B q v K e a n (.returned (.tuple #[v9, .int .i64 0])) ((W'.setCell ⟨q, 0, none⟩ (.slice a1 (K.length + F.length) c1)).setCell ⟨q, 1, none⟩ (.int .i64 ((a : Int) + P.length))) := by
  have hR := h.later HB
  have hq : q < w.heap.size := Nat.lt_of_lt_of_le h.lt h.size
  obtain ⟨a1, c1, W', g1, g2, g3⟩ := run_appKs B w.heap.size v v10 K F hR.own HF hl hR.size
  have hvq : ∀ b, v.ownBlock = some b → ¬ b = q := fun b hb e => by have := (h.own.lt b hb).1; have := h.lt; omega
  have hlt : q < W.heap.size := Nat.lt_of_lt_of_le hq HB.size
  have c0 := g3.cell_lt hR.row fun hg => hvq q hg rfl
  have c1' := g3.cell_lt hR.fin fun hg => hvq q hg rfl
  have f0 : ∀ j, W'.frozen? ⟨q, j, none⟩ = false := fun j => (g3.frozen (p := ⟨q, j, none⟩) hlt fun hg => hvq q hg rfl).trans (hR.free j)
  refine ⟨a1, c1, W', g1, c0, c1', f0, ?_⟩
  have hs1 : Aside (fun b => b = q) W' (W'.setCell ⟨q, 0, none⟩ (.slice a1 (K.length + F.length) c1)) := Aside.setCell _ _ rfl
  have hs2 : Aside (fun b => b = q) (W'.setCell ⟨q, 0, none⟩ (.slice a1 (K.length + F.length) c1)) ((W'.setCell ⟨q, 0, none⟩ (.slice a1 (K.length + F.length) c1)).setCell ⟨q, 1, none⟩ (.int .i64 ((a : Int) + P.length))) := Aside.setCell _ _ rfl
  have hs := hs1.trans hs2
  have hU2 := (HU.but g3 fun b hb hg => apart_UK HU hR.own b hb hg)
  have hU3 := hU2.but hs fun b hb e => by have := hU2.row b hb; omega
  have hK3 := g2.aside hs fun b hb e => by have := (g2.lt b hb).1; have := h.lt; omega
  refine ⟨v9, .slice a1 (K.length + F.length) c1, by rw [hE], by rw [h1]; exact hU3.sl, ?_, ?_⟩
  · rw [h2, h3]
    have k1 : (W'.setCell ⟨q, 0, none⟩ (.slice a1 (K.length + F.length) c1)).cell? ⟨q, 1, none⟩ = some (.int .i64 e) := by rw [World.cell?_setCell_other _ _ _ _ (by simp)]; exact c1'
    have k0 := World.cell?_setCell_same W' ⟨q, 0, none⟩ (.slice a1 (K.length + F.length) c1) c0
    exact ⟨by rw [World.cell?_setCell_other _ _ _ _ (by simp)]; exact k0, by rw [World.cell?_setCell_same _ _ _ k1]; push_cast; rfl, fun j => by rw [World.frozen?_setCell, World.frozen?_setCell]; exact f0 j, hK3, h.lt, Nat.le_trans hR.size (Nat.le_trans g3.size hs.size)⟩
  · have hA : Aside (fun b => b = q ∨ v.ownBlock = some b) w W := Aside.of_all HB
    exact (hA.trans (g3.mono fun _ _ hb => .inr hb)).trans (hs.mono fun _ _ hb => .inl hb)

theorem name_at2 {K : List (List UInt8 × Nat)} {e q : Nat} {ls : List (List UInt8)} (hs : Shorts ls) (h1 : e ≤ q) (h2 : q ≤ 65535) :
    pkE e q (nm ls) = 0 ∧ nameB K e q (nm ls) = told K ls ∧ nameK K e q (nm ls) = K ++ fr q ls (hdn K ls) ∧ nameE K e q (nm ls) = q + (told K ls).length := by
  have hE : pkE e q (nm ls) = 0 := by unfold pkE; rw [if_neg (fun h => h (chk_nm2 hs)), if_neg (by omega), if_neg (by omega)]
  unfold nameB nameK nameE
  rw [if_pos hE, if_pos hE, if_pos hE, show labs (nm ls) = ls from shorts_labs hs]
  exact ⟨hE, rfl, rfl, rfl⟩

set_option maxRecDepth 100000 in
set_option maxHeartbeats 4000000 in
theorem rname_core {w : World} {B q e : Nat} {v : Value} {K : List (List UInt8 × Nat)} (h : Rk w B q v K e) (hG : GoodK K) (hK : K.length ≤ 900000) (a : Nat) (ha : a ≤ 65535) (hea : e ≤ a) {ls : List (List UInt8)} (hs : Shorts ls) :
    Calls Try.prog 42 #[.pointer (some ⟨q, 0, none⟩), .int .i64 a, .string (bs (nm ls))] w (RNamePost w B q v K e a (nm ls)) := by
  have hnl : (nm ls).length ≤ 255 := by rw [nm_len]; have := hs.2; omega
  have HC := Lib.hid (rcheck_any (nm ls) (by omega) w)
  rw [chk_nm2 hs] at HC
  have HP := Lib.hid h
  have HS := Lib.hid hs
  have HPl := Lib.hid (fun wx (hp : Rk wx B q v K e) t => place_any hp (by omega) t)
  have t1 : decide ((a : Int) < 0) = false := by simp
  have t2 : ¬ 65535 < a := by omega
  have t3 : ¬ a < e := by omega
  clear h
  go_enter Try.func42, Try.ntmps42
  go_wp2_with fail
  refine HC.out.mono ?_; rintro e0 w1 ⟨rfl, hb⟩
  have HP1 := Lib.hid (HP.out.later hb)
  have HB1 := Lib.hid hb
  have c2 := HP1.out.fin
  clear hb HC
  go_wp2_with fail
  go_loopg [9, 10, 11] ls.length (fun g v9 v10 v11 wr => ∃ (k z : Nat) (P : List UInt8) (F : List (List UInt8 × Nat)), k + g = ls.length ∧ v11 = .int .i64 z ∧ z ≤ 254 ∧ P.length = z ∧ F.length ≤ k ∧ Hid (wire (ls.take k) = P ∧ fr a ls k = F ∧ pos ls k = z ∧ hdn K ls = k + hdn K (ls.drop k)) ∧ Hid (OwnU wr w.heap.size v9 P) ∧ Hid (OwnK wr w.heap.size v10 F) ∧ Hid (Below w.heap.size w wr))
  case atStart => exact ⟨0, 0, [], [], by omega, rfl, by omega, rfl, by simp, ⟨by simp [wire], fr_zero _ _, pos_zero _, by simp⟩, OwnU.nil _ _, OwnK.nil _ _, HB1⟩
  case round =>
    obtain ⟨k, z, P, F, hk, rfl, hz254, hPz, hFk, HH, HU, HF, HB⟩ := hrel
    clear HP1 HB1 c2
    have HR := Lib.hid (HP.out.later HB.out)
    obtain ⟨au, cu, rfl, _⟩ := HU.out.shape
    obtain ⟨af, cf, rfl⟩ := HF.out.shape
    rw [hPz]
    have hls := HS.out
    obtain ⟨hw, hfr0, hpz, hdd⟩ := HH.out
    by_cases hlt : k < ls.length
    · obtain ⟨hp, hat⟩ := nm_at hlt hls.1
      have hix := ix_run (nm ls) (pos ls k) hp
      have hfr := from_run (nm ls) (pos ls k) (by omega)
      rw [hat] at hix
      rw [nm_drop] at hfr
      have hc63 := hls.1 ls[k] (List.getElem_mem hlt)
      have hps := pos_succ hlt
      have hple := pos_le ls (k + 1)
      rw [nm_len] at hnl hp
      obtain ⟨hst1, hst2⟩ := hdn_step K ls k hlt hdd
      have hcut := cut_run (nm ls) (pos ls k) (pos ls k + 1 + ls[k].length) (by omega) (by rw [nm_len]; omega)
      have hpiece : ((nm ls).drop (pos ls k)).take (pos ls k + 1 + ls[k].length - pos ls k) = wire [ls[k]] := by
        rw [nm_drop, List.drop_eq_getElem_cons hlt, show pos ls k + 1 + ls[k].length - pos ls k = ls[k].length + 1 by omega]
        unfold nm
        simp [wire]
      have hsn : wire (ls.take (k + 1)) = P ++ wire [ls[k]] := by rw [List.take_add_one, List.getElem?_eq_getElem hlt, Option.toList_some, wire_app, hw]
      have hwl : (wire [ls[k]]).length = ls[k].length + 1 := by simp [wire]
      have hfs := fr_succ ls a k hlt
      rw [hpiece] at hcut
      have hq := HPl.out wr HR.out (nm (ls.drop k))
      obtain ⟨c, hc⟩ : ∃ c, ls[k].length = c := ⟨_, rfl⟩
      obtain ⟨T, hT⟩ : ∃ T, nm (ls.drop k) = T := ⟨_, rfl⟩
      obtain ⟨W1, hW1⟩ : ∃ W1, wire [ls[k]] = W1 := ⟨_, rfl⟩
      rw [hW1] at hcut hsn hwl
      rw [hc] at hix hc63 hps hcut hwl
      rw [hpz] at hix hfr hps hp hcut hfs
      rw [hT] at hfr hst1 hst2 hq hfs
      rw [hfr0] at hfs
      push_cast at hcut
      have tc : ((c : Int) != 0) = true := by simp; omega
      rcases hpl : plc K T with _ | x
      · have HH2 := Lib.hid (hst2 hpl)
        rw [hpl] at hq
        simp only at hq
        have HQ := Lib.hid hq
        have HX := Lib.hid (show z + 1 + c = pos ls (k + 1) by omega)
        have hz2 : z + 1 + c ≤ 254 := by omega
        have HW := Lib.hid hsn
        have HFS := Lib.hid hfs
        have hwl2 := hwl
        clear hst1 hst2 hpl hT hps hple hq hsn hfs hW1 hw hfr0 hpz hdd hpiece hc hls hat HPl
        have hFl : F.length ≤ 254 := by have := len_wire ls; omega
        by_cases h16 : a + z < 16384
        · have t4 : a + z < 16384 := h16
          obtain ⟨af1, cf1, Wa, hr1, hK1, hU1, hB1⟩ := fresh_step HU.out HF.out HB.out T (a + z) (by omega)
          obtain ⟨ao, co, Wb, hr2, hU2, hK2, hB2⟩ := out_step hU1 hK1 hB1 W1 (by omega)
          push_cast at hr1
          rw [hPz, hwl] at hr2 hU2
          have HR1 := Lib.hid hr1
          have HR2 := Lib.hid hr2
          have HU2 := Lib.hid hU2
          have HK2 := Lib.hid hK2
          have HB2 := Lib.hid hB2
          clear hr1 hK1 hU1 hB1 hr2 hU2 hK2 hB2
          rw [if_pos h16] at HFS
          go_wp2_with fail
          refine HQ.out.mono ?_; rintro e0 w2 ⟨rfl, rfl⟩
          go_wp2_with (first | (at_builtin; refine wpList_append_run (.tmp 56) (.tmp 64) 35 35 rfl rfl rfl rfl HR1.out ?_) | (at_builtin; refine wpList_append_run (.tmp 70) (.tmp 77) 42 9 rfl rfl rfl rfl HR2.out ?_))
          go_roundg (ls.length - (k + 1))
          case measure => omega
          case rel => exact ⟨k + 1, z + 1 + c, P ++ W1, F ++ [(T, a + z)], by omega, by go_num, hz2, by rw [List.length_append]; omega, by rw [List.length_append]; simp; omega, ⟨HW.out, HFS.out, HX.out.symm, HH2.out⟩, HU2, HK2, HB2⟩
        · have t4 : ¬ a + z < 16384 := h16
          obtain ⟨ao, co, Wb, hr2, hU2, hK2, hB2⟩ := out_step HU.out HF.out HB.out W1 (by omega)
          rw [hPz, hwl] at hr2 hU2
          have HR2 := Lib.hid hr2
          have HU2 := Lib.hid hU2
          have HK2 := Lib.hid hK2
          have HB2 := Lib.hid hB2
          clear hr2 hU2 hK2 hB2
          rw [if_neg h16, List.append_nil] at HFS
          go_wp2_with fail
          refine HQ.out.mono ?_; rintro e0 w2 ⟨rfl, rfl⟩
          go_wp2_with (at_builtin; refine wpList_append_run (.tmp 70) (.tmp 77) 42 9 rfl rfl rfl rfl HR2.out ?_)
          go_roundg (ls.length - (k + 1))
          case measure => omega
          case rel => exact ⟨k + 1, z + 1 + c, P ++ W1, F, by omega, by go_num, hz2, by rw [List.length_append]; omega, by omega, ⟨HW.out, HFS.out, HX.out.symm, HH2.out⟩, HU2, HK2, HB2⟩
      · have hst := hst1 x hpl
        have hx := good_lt hG hpl
        rw [hpl] at hq
        simp only at hq
        have HQ := Lib.hid hq
        have htl : told K ls = P ++ pb x := by unfold told restb; rw [hst, hw, hT, hpl]
        have hFl : F.length ≤ 254 := by have := len_wire ls; omega
        obtain ⟨f1, f2, f3, f4⟩ := name_at2 (K := K) hs hea ha
        rw [htl] at f2 f4
        rw [hst, hfr0] at f3
        obtain ⟨ao, co, Wa, hr1, hU1, hK1, hB1⟩ := out_lit HU.out HF.out HB.out (pb x) (by simp [pb]; omega)
        obtain ⟨a2, c2, Wb, hr2, k0, k1, kf, hfin⟩ := rname_fin HP.out hU1 hK1 hB1 f1 f2 f3 f4 (by omega)
        have hlen : ((P ++ pb x).length : Int) = z + 2 := by rw [List.length_append, hPz]; simp [pb]
        rw [hPz] at hr1 hU1 hfin
        rw [hlen] at hfin
        have hpb : ((iz (pb x)).map (Value.int .u8)).toArray = #[.int .u8 (192 + (x : Int) / 256), .int .u8 ((x : Int) % 256)] := by
          have h1 : (192 + x / 256) % 256 = 192 + x / 256 := by omega
          unfold pb iz
          simp [h1]
        rw [hpb, show (pb x).length = 2 from rfl] at hr1
        clear hpb hlen
        have HR1 := Lib.hid hr1
        have HR2 := Lib.hid hr2
        have HFin := Lib.hid hfin
        have k9 := (HP.out.later hB1).row
        have tc2 : ((c : Int) == 0) = false := by simp; omega
        clear hst1 hst2 hpl hT hps hple hq hfs hW1 hw hfr0 hpz hdd hpiece hc hls hat HPl hcut hwl hst htl f1 f2 f3 f4 hr1 hr2 hfin hU1 hK1 hB1 hsn HH
        go_wp2_with fail
        refine HQ.out.mono ?_; rintro e0 w2 ⟨rfl, rfl⟩
        go_wp2_with (first | (at_builtin; refine wpList_append_run (.tmp 42) (.tmp 50) 42 42 rfl rfl rfl rfl HR1.out ?_) | (at_builtin; refine wpList_append_run (.tmp 94) (.tmp 95) 35 35 rfl rfl rfl rfl HR2.out ?_))
        go_ret2
        exact HFin.out
    · have hke : k = ls.length := by omega
      subst hke
      obtain ⟨hp, hat⟩ := nm_end ls
      have hix := ix_run (nm ls) (pos ls ls.length) hp
      rw [hat, hpz] at hix
      have hst : hdn K ls = ls.length := by rw [hdd, List.drop_length]; rfl
      have htl : told K ls = P ++ [0] := by
        have hr := good_root hG
        unfold told restb
        rw [hst, hw, List.drop_length, show nm [] = [0] from rfl, hr]
      have hFl : F.length ≤ 254 := by have := len_wire ls; rw [nm_len] at hnl; omega
      obtain ⟨f1, f2, f3, f4⟩ := name_at2 (K := K) hs hea ha
      rw [htl] at f2 f4
      rw [hst, hfr0] at f3
      obtain ⟨ao, co, Wa, hr1, hU1, hK1, hB1⟩ := out_lit HU.out HF.out HB.out [0] (by simp; omega)
      obtain ⟨a2, c2, Wb, hr2, k0, k1, kf, hfin⟩ := rname_fin HP.out hU1 hK1 hB1 f1 f2 f3 f4 (by omega)
      have hlen : ((P ++ [(0 : UInt8)]).length : Int) = z + 1 := by rw [List.length_append, hPz]; simp
      rw [hPz] at hr1 hU1 hfin
      rw [hlen] at hfin
      have hpb : ((iz [0]).map (Value.int .u8)).toArray = #[.int .u8 0] := by simp [iz]
      rw [hpb, show [(0 : UInt8)].length = 1 from rfl] at hr1
      have HR1 := Lib.hid hr1
      have HR2 := Lib.hid hr2
      have HFin := Lib.hid hfin
      have k9 := (HP.out.later hB1).row
      clear hpb hlen hst htl f1 f2 f3 f4 hr1 hr2 hfin hU1 hK1 hB1 HH hat hp hw hfr0 hpz hdd hls HPl
      go_wp2_with (first | (at_builtin; refine wpList_append_run (.tmp 87) (.tmp 88) 42 42 rfl rfl rfl rfl HR1.out ?_) | (at_builtin; refine wpList_append_run (.tmp 94) (.tmp 95) 35 35 rfl rfl rfl rfl HR2.out ?_))
      go_ret2
      exact HFin.out

/-- The document's Name, of any name at any place. -/
theorem rname_any {w : World} {B q e : Nat} {v : Value} {K : List (List UInt8 × Nat)} (h : Rk w B q v K e) (hG : GoodK K) (hK : K.length ≤ 900000) (a : Int) (n : List UInt8) (hn : n.length ≤ 1000) :
    Calls Try.prog 42 #[.pointer (some ⟨q, 0, none⟩), .int .i64 a, .string (bs n)] w (RNamePost w B q v K e a n) := by
  by_cases h0 : pkE e a n = 0
  · have hc : chk n = 0 := by
      unfold pkE at h0
      split at h0
      · rename_i h1; exact absurd h0 h1
      · rename_i h1; simpa using h1
    have hr : 0 ≤ a ∧ a ≤ 65535 ∧ (e : Int) ≤ a := by
      unfold pkE at h0
      rw [if_neg (fun h => h hc)] at h0
      split at h0
      · exact absurd h0 (by decide)
      · split at h0
        · exact absurd h0 (by decide)
        · omega
    obtain ⟨p, rfl⟩ : ∃ p : Nat, a = p := ⟨a.toNat, by omega⟩
    obtain ⟨hs, hnm⟩ := shorts_of hc
    have hnm2 : n = nm (labs n) := hnm
    rw [hnm2]
    exact rname_core h hG hK p (by omega) (by omega) hs
  · exact rname_no h a n hn h0
end Go.Proofs.Ytkiahaodajecfaa
