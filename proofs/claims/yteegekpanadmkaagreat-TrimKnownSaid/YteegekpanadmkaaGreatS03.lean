/-
  A packer in memory: what its map reads as; New, Known.
-/
import Derived.Test.YteegekpanadmkaaGreatS02
import Derived.Deep.LoopGhost
import Derived.BigQuiet
import Derived.Outline
import Derived.Deep.RegionLaw
import Derived.Test.YteegekpanadmkaaGreatS00
import Derived.Deep.RegionHeld3
import Derived.Laws.OwnMore
import Derived.Laws.Panics
namespace Go.Proofs.YteegekpanadmkaaGreat
open Go.RowKit Go.Shelf
set_option linter.unusedVariables false
set_option maxRecDepth 100000

theorem keyed_ : Maps.Keyed Tryz.prog 9 := Maps.string_keyed Tryz.underlying9
theorem zero_int (w : World) : (zeroValue 3).run Tryz.prog w = .ok (.int .i64 0) w := by kernel_rfl

/-- The map's datum tells the tails K. -/
def RepD (D : DataW Unit) (K : List (List UInt8 × Nat)) : Prop :=
  Maps.size D = K.length ∧ ∀ n : List UInt8, Maps.has D (.string n) = (plc K n).isSome ∧ ∀ x, plc K n = some x → D.atKey (.string n) (.lit (.int .i64 0)) = .lit (.int .i64 x)

/-- Block bm is a map of the tails K. -/
def Tm (w : World) (bm : Nat) (K : List (List UInt8 × Nat)) : Prop := ∃ D : DataW Unit, w.ownsMap Tryz.prog 9 (plainElem Tryz.prog 3) bm K.length D ∧ RepD D K

theorem rep_nil : RepD (.map []) [] := ⟨rfl, fun n => ⟨rfl, fun x h => by simp [plc] at h⟩⟩

theorem key_str (t : List UInt8) (ht : t.length ≤ 1000000) : keyOf Tryz.prog 9 (.string (bs t)) = some (.string t) := by
  have := WideMaps.keyOf_string_mk (P := Tryz.prog) (k := 9) Tryz.underlying9 (s := bs t) (by rw [bs_size]; unfold maxLen; omega)
  rw [this]
  simp [bs]

theorem rep_put {D : DataW Unit} {K : List (List UInt8 × Nat)} (hD : Maps.Tidy D) (h : RepD D K) {t : List UInt8} (ht : plc K t = none) (x : Nat) : RepD (D.put (.string t) (.lit (.int .i64 x))) (K ++ [(t, x)]) := by
  have hno : Maps.has D (.string t) = false := by rw [(h.2 t).1, ht]; rfl
  refine ⟨by rw [Maps.size_put hD, hno, h.1]; simp, fun n => ?_⟩
  rw [plc_app, plc_one]
  by_cases e : t = n
  · subst e
    rw [ht, if_pos rfl]
    refine ⟨by rw [Maps.has_put_same hD.isMap (by trivial)]; rfl, fun y hy => ?_⟩
    have : x = y := by simpa using hy
    subst this
    exact Maps.atKey_put_same hD.isMap (by trivial) _ _
  · rw [if_neg e, Option.or_none]
    have hne : (Lit.string n) ≠ Lit.string t := fun h => e (by injection h with h; exact h.symm)
    refine ⟨by rw [Maps.has_put_other hne]; exact (h.2 n).1, fun y hy => ?_⟩
    rw [Maps.atKey_put_other hne]
    exact (h.2 n).2 y hy

theorem Tm.lt {w : World} {bm : Nat} {K : List (List UInt8 × Nat)} (h : Tm w bm K) : bm < w.heap.size := let ⟨_, h, _⟩ := h; h.lt
theorem Tm.aside {G : Nat → Prop} {w w' : World} {bm : Nat} {K : List (List UInt8 × Nat)} (h : Tm w bm K) (ha : Aside G w w') (hG : ¬ G bm) : Tm w' bm K := by
  have hlt := h.lt
  obtain ⟨D, ⟨es, clock, hb, r⟩, hR⟩ := h
  exact ⟨D, ⟨es, clock, (ha.block bm hlt hG).trans hb, r⟩, hR⟩

/-- What is looked up. -/
theorem Tm.look {w : World} {bm : Nat} {K : List (List UInt8 × Nat)} (h : Tm w bm K) (t : List UInt8) (ht : t.length ≤ 1000000) :
    (Instr.lookup 123 (.map (some bm)) (.string (bs t)) true).run Tryz.prog w = .ok (.tuple #[.int .i64 ((plc K t).getD 0 : Nat), .bool (plc K t).isSome]) w := by
  obtain ⟨D, hM, hR⟩ := h
  obtain ⟨v, ps, hrun, hv⟩ := hM.look_ok keyed_ Tryz.underlying123 (zero_int w) (plainElem_int (H := Unit) Tryz.underlying3 (q := .i64) (a := 0) (by decide)) (key_str t ht)
  obtain ⟨c, rfl, hc, _⟩ := plainElem_int_inv Tryz.underlying3 hv
  have h2 := congrArg Prod.fst hc
  have h3 := (hR.2 t).1
  rw [h3] at hrun
  rw [hrun]
  have : c = ((plc K t).getD 0 : Nat) := by
    rcases hp : plc K t with _ | x
    · rw [hp] at h3
      rw [Maps.atKey_of_not_has h3] at h2
      injection h2 with h2
      injection h2 with _ h2
      rw [← h2]; rfl
    · rw [(hR.2 t).2 x hp] at h2
      injection h2 with h2
      injection h2 with _ h2
      rw [← h2]; rfl
  rw [this]

/-- What is put in. -/
theorem Tm.store {w : World} {bm : Nat} {K : List (List UInt8 × Nat)} (h : Tm w bm K) (t : List UInt8) (ht : t.length ≤ 1000000) (hn : plc K t = none) (x : Nat) (hx : x ≤ 1000000) (hK : K.length ≤ 1000000) :
    ∃ w', (Instr.mapUpdate 123 (.map (some bm)) (.string (bs t)) (.int .i64 x)).run Tryz.prog w = .ok () w' ∧ Tm w' bm (K ++ [(t, x)]) ∧ w.grownBy w' (some bm) := by
  obtain ⟨D, hM, hR⟩ := h
  obtain ⟨w', h1, h2, h3⟩ := hM.update keyed_ Tryz.underlying123 (by unfold maxLen; omega) (key_str t ht) (plainElem_int (H := Unit) Tryz.underlying3 (q := .i64) (a := (x : Int)) (WalkArith.wf_i64 (by omega)))
  exact ⟨w', h1, ⟨_, by rw [List.length_append]; exact h2, rep_put (hM.tidy keyed_) hR hn x⟩, h3⟩

/-- Block p is a packer: it knows the tails K, in the map bm; its last name ended at e. -/
structure Pk (w : World) (p bm : Nat) (K : List (List UInt8 × Nat)) (e : Nat) : Prop where
  self : w.cell? ⟨p, 0, none⟩ = some (.pointer (some ⟨p, 0, none⟩))
  tails : w.cell? ⟨p, 1, none⟩ = some (.map (some bm))
  fin : w.cell? ⟨p, 2, none⟩ = some (.int .i64 e)
  free : ∀ j, w.frozen? ⟨p, j, none⟩ = false
  ne : p ≠ bm
  map : Tm w bm K

theorem Pk.lt {w : World} {p bm e : Nat} {K : List (List UInt8 × Nat)} (h : Pk w p bm K e) : p < w.heap.size := World.block_lt_of_cell? w _ h.self
theorem Pk.aside {G : Nat → Prop} {w w' : World} {p bm e : Nat} {K : List (List UInt8 × Nat)} (h : Pk w p bm K e) (ha : Aside G w w') (hp : ¬ G p) (hb : ¬ G bm) : Pk w' p bm K e :=
  ⟨ha.cell_lt h.self hp, ha.cell_lt h.tails hp, ha.cell_lt h.fin hp, fun j => (ha.frozen (p := ⟨p, j, none⟩) h.lt hp).trans (h.free j), h.ne, h.map.aside ha hb⟩
theorem Pk.later {w w' : World} {p bm e : Nat} {K : List (List UInt8 × Nat)} (h : Pk w p bm K e) (hb : Below w.heap.size w w') : Pk w' p bm K e :=
  h.aside (G := fun _ => False) (Aside.of_all hb) (fun h => h) (fun h => h)

/-- What New leaves. -/
def NewPost (w : World) (e : Ending) (w' : World) : Prop := ∃ p bm, e = .returned (.pointer (some ⟨p, 0, none⟩)) ∧ w.heap.size ≤ p ∧ w.heap.size ≤ bm ∧ Pk w' p bm [] 0 ∧ Below w.heap.size w w'

set_option maxHeartbeats 400000 in
theorem new_any (w : World) : Calls Tryz.prog 52 #[] w (NewPost w) := by
  have hmm := @run_makeMap Tryz.prog
  go_enter Tryz.func52, Tryz.ntmps52
  go_wp2
  go_ret
  have hb : Below w.heap.size w ((w.alloc (.map #[] 0)).alloc (.cells #[.pointer (some ⟨w.heap.size + 1, 0, none⟩), .map (some w.heap.size), .int .i64 0] 125)) := ((Below.refl _ _).alloc (Nat.le_refl _) _).alloc (by simp) _
  refine ⟨w.heap.size + 1, w.heap.size, rfl, by omega, Nat.le_refl _, ⟨by simp [go_sem], by simp [go_sem], by simp [go_sem], fun j => by simp [go_sem], by omega, .map [], ?_, rep_nil⟩, hb⟩
  exact (World.ownsMap_made w Tryz.prog 9 (plainElem Tryz.prog 3)).alloc _
end Go.Proofs.YteegekpanadmkaaGreat

/-
  How many bytes of a name are ahead of what is known; its rest; what is learnt.
-/
namespace Go.Proofs.YteegekpanadmkaaGreat
open Go.RowKit Go.Shelf
set_option linter.unusedVariables false
set_option maxRecDepth 100000

set_option maxRecDepth 100000 in
set_option maxHeartbeats 1000000 in
theorem ahead_any {w : World} {p bm e : Nat} {K : List (List UInt8 × Nat)} (h : Pk w p bm K e) {ls : List (List UInt8)} (hs : Shorts ls) :
    Calls Tryz.prog 139 #[.pointer (some ⟨p, 0, none⟩), .string (bs (nm ls))] w (Tells w (.int .i64 (pos ls (hdn K ls)))) := by
  have HP := Lib.hid h
  have hnl : (nm ls).length ≤ 255 := by rw [nm_len]; have := hs.2; omega
  clear h
  go_enter Tryz.func139, Tryz.ntmps139
  go_wp2
  go_loopg [5] ls.length (fun g v5 wr => ∃ k : Nat, k + g = ls.length ∧ v5 = .int .i64 (pos ls k) ∧ Hid (hdn K ls = k + hdn K (ls.drop k)) ∧ Hid (Below w.heap.size w wr))
  case atStart => exact ⟨0, by omega, by rw [pos_zero]; rfl, by rw [List.drop_zero, Nat.zero_add]; exact Lib.hid rfl, Below.refl _ _⟩
  case round =>
    obtain ⟨k, hk, rfl, HH, HB⟩ := hrel
    have hPk := HP.out.later HB.out
    by_cases hlt : k < ls.length
    · obtain ⟨hp, hat⟩ := nm_at hlt hs.1
      have hix := ix_run (nm ls) (pos ls k) hp
      have hfr := from_run (nm ls) (pos ls k) (by omega)
      rw [hat] at hix
      rw [nm_drop] at hfr
      have hlk := fun n => (hPk.map.aside (Aside.drewN (G := fun _ => False) wr n) (fun h => h)).look (nm (ls.drop k)) (by rw [← nm_drop, List.length_drop]; omega)
      have hc63 := hs.1 ls[k] (List.getElem_mem hlt)
      have hps := pos_succ hlt
      have hple := pos_le ls (k + 1)
      rw [nm_len] at hnl hp
      obtain ⟨hst1, hst2⟩ := hdn_step K ls k hlt HH.out
      have c1 := hPk.tails
      obtain ⟨c, hc⟩ : ∃ c, ls[k].length = c := ⟨_, rfl⟩
      obtain ⟨q, hq⟩ : ∃ q, pos ls k = q := ⟨_, rfl⟩
      obtain ⟨T, hT⟩ : ∃ T, nm (ls.drop k) = T := ⟨_, rfl⟩
      rw [hc] at hix hc63 hps
      rw [hq] at hix hfr hps hp ⊢
      rw [hT] at hfr hlk hst1 hst2
      have tc : ((c : Int) != 0) = true := by simp; omega
      rcases hpl : plc K T with _ | x
      · have HH2 := Lib.hid (hst2 hpl)
        rw [hpl] at hlk
        simp only [Option.isSome_none, Option.getD_none] at hlk
        have HQ := Lib.hid (show (q : Int) + (1 + c) = (pos ls (k + 1) : Nat) by rw [hps]; push_cast; rfl)
        have hqb : q ≤ 255 := by omega
        clear hst1 hst2 hpl hc hT hps hple hPk hq
        go_wp2_with fail
        go_quiet (fail)
        go_wp2_with fail
        go_roundg (ls.length - (k + 1))
        case measure => omega
        case rel => exact ⟨k + 1, by omega, by rw [← HQ.out], HH2, below_drewN HB.out _⟩
      · have hst := hst1 x hpl
        rw [hpl] at hlk
        simp only [Option.isSome_some, Option.getD_some] at hlk
        have HE := Lib.hid (show pos ls (hdn K ls) = q by rw [hst, hq])
        clear hst1 hst2 hpl hc hT hst hps hple hPk hq
        go_wp2_with fail
        go_quiet (fail)
        go_wp2_with fail
        go_ret
        exact ⟨by rw [HE.out]; rfl, below_drewN HB.out _⟩
    · have hke : k = ls.length := by omega
      subst hke
      obtain ⟨hp, hat⟩ := nm_end ls
      have hix := ix_run (nm ls) (pos ls ls.length) hp
      rw [hat] at hix
      have HE := Lib.hid (show pos ls (hdn K ls) = pos ls ls.length by rw [HH.out, List.drop_length]; rfl)
      obtain ⟨q, hq⟩ : ∃ q, pos ls ls.length = q := ⟨_, rfl⟩
      rw [hq] at hix HE ⊢
      clear hPk hq
      go_wp2_with fail
      go_ret
      exact ⟨by rw [HE.out]; rfl, HB.out⟩
end Go.Proofs.YteegekpanadmkaaGreat

/-
  What is told of a tail; what is learnt.
-/
namespace Go.Proofs.YteegekpanadmkaaGreat
open Go.RowKit Go.Shelf
set_option linter.unusedVariables false
set_option maxRecDepth 100000

/-- A row of new memory is told. -/
def RestPost (w : World) (l : List UInt8) (e : Ending) (w' : World) : Prop := ∃ v, e = .returned v ∧ OwnB w' w.heap.size v l ∧ Below w.heap.size w w'

theorem pb_put {x : Nat} (hx : x < 16384) : putL2 (49152 + x) = iz (pb x) ∧ putE 65535 (49152 + x) = 0 := by
  refine ⟨?_, by unfold putE; rw [if_pos (by omega)]⟩
  unfold putL2 pb iz
  rw [if_pos (by omega)]
  simp only [List.map_cons, List.map_nil, UInt8.toNat_ofNat']
  congr 1
  · omega
  · congr 1
    omega

set_option maxHeartbeats 1000000 in
theorem rest_any {w : World} {p bm e : Nat} {K : List (List UInt8 × Nat)} (h : Pk w p bm K e) (hG : GoodK K) (t : List UInt8) (ht : t.length ≤ 1000) :
    Calls Tryz.prog 140 #[.pointer (some ⟨p, 0, none⟩), .string (bs t)] w (RestPost w (restb K t)) := by
  have hlk := h.map.look t (by omega)
  have c1 := h.tails
  rcases hpl : plc K t with _ | x
  · rw [hpl] at hlk
    simp only [Option.isSome_none, Option.getD_none] at hlk
    have he : restb K t = t := by unfold restb; rw [hpl]
    rw [he]
    obtain ⟨cap, W, hcv, ho, hb, _⟩ := conv_B w t (by omega)
    have HO := Lib.hid ho
    have HB := Lib.hid hb
    clear ho hb he hpl
    go_enter Tryz.func140, Tryz.ntmps140
    go_wp2_with fail
    go_ret
    exact ⟨_, rfl, HO.out, HB.out⟩
  · have hx := good_lt hG hpl
    rw [hpl] at hlk
    simp only [Option.isSome_some, Option.getD_some] at hlk
    have he : restb K t = pb x := by unfold restb; rw [hpl]
    rw [he]
    have HP := Lib.hid (put16_any (49152 + x) w)
    rw [(pb_put hx).1, (pb_put hx).2] at HP
    clear he hpl
    go_enter Tryz.func140, Tryz.ntmps140
    go_wp2_with fail
    refine HP.out.mono ?_; rintro e w1 ⟨v, g, rfl, ho, hg, _, hb⟩
    have HO := Lib.hid ((OwnB.of_own ho (by simp [pb])).mono hg)
    have HB := Lib.hid hb
    clear ho hg hb
    go_wp2_with fail
    go_ret
    exact ⟨_, rfl, HO.out, HB.out⟩

/-- What learn leaves. -/
def LearnPost (w : World) (p bm : Nat) (K : List (List UInt8 × Nat)) (e : Nat) (x : Ending) (w' : World) : Prop := x = .returned (.tuple #[]) ∧ Pk w' p bm K e ∧ Aside (fun b => b = bm) w w'

set_option maxRecDepth 100000 in
set_option maxHeartbeats 1000000 in
theorem learn_any {w : World} {p bm e : Nat} {K : List (List UInt8 × Nat)} (h : Pk w p bm K e) {ls : List (List UInt8)} (hs : Shorts ls) (a : Nat) (ha : a ≤ 65535) (d : Nat) (hd : d ≤ hdn K ls) (hK : K.length ≤ 900000) :
    Calls Tryz.prog 141 #[.pointer (some ⟨p, 0, none⟩), .int .i64 a, .string (bs (nm ls)), .int .i64 (pos ls d)] w (LearnPost w p bm (K ++ fr a ls d) e) := by
  have hnl : (nm ls).length ≤ 255 := by rw [nm_len]; have := hs.2; omega
  have HC := Lib.hid (clone_any (bs (nm ls)) (by rw [bs_size]; omega))
  have HP := Lib.hid h
  have hdl := Nat.le_trans hd (hdn_le K ls)
  have hlw := len_wire ls
  obtain ⟨D, hD⟩ : ∃ D, pos ls d = D := ⟨_, rfl⟩
  rw [hD]
  have HD := Lib.hid hD
  clear h hD
  go_enter Tryz.func141, Tryz.ntmps141
  go_wp2_with fail
  refine (HC.out _).mono ?_; rintro e0 w1 ⟨rfl, hb⟩
  have HP1 := Lib.hid (HP.out.later hb)
  have HA1 := Lib.hid (show Aside (fun b => b = bm) w w1 from (Aside.of_all (G := fun b => b = bm) hb))
  clear hb
  go_wp2
  go_loopg [9] d (fun g v9 wr => ∃ k : Nat, k + g = d ∧ v9 = .int .i64 (pos ls k) ∧ Hid (Pk wr p bm (K ++ fr a ls k) e) ∧ Hid (Aside (fun b => b = bm) w wr))
  case atStart => exact ⟨0, by omega, by rw [pos_zero]; rfl, by rw [fr_zero, List.append_nil]; exact HP1, HA1⟩
  case round =>
    obtain ⟨k, hk, rfl, HPk, HA⟩ := hrel
    clear HP HP1 HA1 HC
    by_cases hlt : k < d
    · obtain ⟨hp, hat⟩ := nm_at (show k < ls.length by omega) hs.1
      have hix := ix_run (nm ls) (pos ls k) hp
      have hfr := from_run (nm ls) (pos ls k) (by omega)
      rw [hat] at hix
      rw [nm_drop] at hfr
      have hps := pos_succ (show k < ls.length by omega)
      have hmo := pos_mono ls (show k + 1 ≤ d by omega)
      have hple := pos_le ls d
      rw [HD.out] at hmo hple
      rw [nm_len] at hnl hp
      have hc63 := hs.1 ls[k] (List.getElem_mem (by omega))
      by_cases hf : a + pos ls k < 16384
      · obtain ⟨w2, hst, hTm, hgw⟩ := (HPk.out.map.aside (w' := wr.drew) (G := fun _ => False) (Aside.drewN wr 1) (fun h => h)).store (nm (ls.drop k)) (by rw [← nm_drop, List.length_drop, nm_len]; omega) (fr_fresh (by omega) (hdn_none (by omega))) (a + pos ls k) (by omega) (by rw [List.length_append]; have := fr_len ls a k; omega)
        have hfs := fr_succ ls a k (by omega)
        rw [if_pos hf] at hfs
        rw [List.append_assoc, ← hfs] at hTm
        have ha2 : Aside (fun b => b = bm) wr w2 := (Aside.drewN wr 1).trans (Aside.grown hgw (fun k h => by cases h; rfl))
        have HA2 := Lib.hid (HA.out.trans ha2)
        have HPk2 := Lib.hid (show Pk w2 p bm (K ++ fr a ls (k + 1)) e from ⟨ha2.cell_lt HPk.out.self HPk.out.ne, ha2.cell_lt HPk.out.tails HPk.out.ne, ha2.cell_lt HPk.out.fin HPk.out.ne, fun j => (ha2.frozen (p := ⟨p, j, none⟩) HPk.out.lt HPk.out.ne).trans (HPk.out.free j), HPk.out.ne, hTm⟩)
        have c1 := HPk.out.tails
        obtain ⟨c, hc⟩ : ∃ c, ls[k].length = c := ⟨_, rfl⟩
        obtain ⟨q, hq⟩ : ∃ q, pos ls k = q := ⟨_, rfl⟩
        obtain ⟨T, hT⟩ : ∃ T, nm (ls.drop k) = T := ⟨_, rfl⟩
        rw [hc] at hix hc63 hps
        rw [hq] at hix hfr hps hp hf hst ⊢
        rw [hT] at hfr hst
        push_cast at hst
        have t1 : q < D := by omega
        have HQ := Lib.hid (show (q : Int) + (1 + c) = (pos ls (k + 1) : Nat) by rw [hps]; push_cast; rfl)
        have hqb : q ≤ 255 := by omega
        clear hTm hgw hfs ha2 hc hT hps hq
        go_wp2_with fail
        go_region
        go_wp2_with fail
        go_roundg (d - (k + 1))
        case measure => omega
        case rel => exact ⟨k + 1, by omega, by rw [← HQ.out], HPk2, HA2⟩
      · have HE := Lib.hid (show fr a ls d = fr a ls k from fr_stop (by omega) d (by omega) hdl)
        obtain ⟨q, hq⟩ : ∃ q, pos ls k = q := ⟨_, rfl⟩
        rw [hq] at hf hps ⊢
        have t1 : q < D := by omega
        have t2 : ¬ ((a : Int) + q < 16384) := by omega
        have hqb : q ≤ 255 := by omega
        clear hix hfr hat hp hps hmo hple hq
        go_wp2_with fail
        go_end0
        exact ⟨rfl, by rw [HE.out]; exact HPk.out, HA.out⟩
    · have hkd : k = d := by omega
      subst hkd
      rw [HD.out]
      go_wp2_with fail
      go_end0
      exact ⟨rfl, HPk.out, HA.out⟩
end Go.Proofs.YteegekpanadmkaaGreat

/-
  Name: the bytes of a name that is to stand at a place.
-/
namespace Go.Proofs.YteegekpanadmkaaGreat
open Go.RowKit Go.Shelf
set_option linter.unusedVariables false
set_option maxRecDepth 100000

/-- An append of bytes, as one step of a region that draws its order. -/
theorem step_appB {ops : Array Oper} {o : Oper} {a : Act} {w : World} {K : Act → World → Prop} {Q : Exit → Act → World → Prop} {E : Prop} (hgd : o.guard = none) (s x : Operand)
    (ho : o.op = .call { callee := .builtin .append, args := #[s, x], argTypes := #[28, 28] }) (hty : o.type = 28)
    (B : Nat) (v xv : Value) (l l' : List UInt8) {lo hi : Nat} (hs : a.eval s = v) (hx : a.eval x = xv) (hown : OwnB w B v l) (hsl : Sl w lo hi xv (iz l')) (h0 : 0 < l'.length) (hb : l.length + l'.length ≤ 1000000) (hB : B ≤ w.heap.size)
    (h : ∀ a' c' w', OwnB w' B (.slice a' (l.length + l'.length) c') (l ++ l') → Below B w w' → K (a.put o.dst (.slice a' (l.length + l'.length) c')) w') :
    if Region.wanted o (yielded ops a.tmps) = true then Oper.wp Tryz.prog o a w K Q else E := by
  rw [if_pos (by simp [Region.wanted, hgd])]
  obtain ⟨v', w', h1, h2, h3, _⟩ := run_appB B v xv l l' hown hsl h0 hb hB
  obtain ⟨a', c', hv⟩ := h2.shape
  rw [List.length_append] at hv
  subst hv
  unfold Oper.wp
  simp [execOp, ho, hty, resolve, invoke, builtin, hs, hx, h1, Result.andThen]
  exact h _ _ _ h2 ((Below.refl _ _).grown h3 hB fun k hk => (hown.lt k hk).1)

theorem to_run (n : List UInt8) (i : Nat) (h : i ≤ n.length) (w : World) : (Instr.slice 9 (.string (bs n)) none (some (.int .i64 i)) none).run Tryz.prog w = .ok (.string (bs (n.take i))) w := by
  rw [run_slice_string_to_if w 9 _ _ _ Tryz.underlying9, if_pos (by simp; omega), bs_extract]
  simp

/-- What a packer answers, and what it knows then. -/
def nameB (K : List (List UInt8 × Nat)) (e : Nat) (a : Int) (n : List UInt8) : List UInt8 := if pkE e a n = 0 then told K (labs n) else []
def nameK (K : List (List UInt8 × Nat)) (e : Nat) (a : Int) (n : List UInt8) : List (List UInt8 × Nat) := if pkE e a n = 0 then K ++ fr a.toNat (labs n) (hdn K (labs n)) else K
def nameE (K : List (List UInt8 × Nat)) (e : Nat) (a : Int) (n : List UInt8) : Nat := if pkE e a n = 0 then a.toNat + (told K (labs n)).length else e

def NamePost (w : World) (p bm : Nat) (K : List (List UInt8 × Nat)) (e : Nat) (a : Int) (n : List UInt8) (x : Ending) (w' : World) : Prop :=
  ∃ v, x = .returned (.tuple #[v, .int .i64 (pkE e a n)]) ∧ OwnB w' w.heap.size v (nameB K e a n) ∧ Pk w' p bm (nameK K e a n) (nameE K e a n) ∧ Aside (fun b => b = p ∨ b = bm) w w'

theorem name_bad {w wx : World} {p bm e : Nat} {K : List (List UInt8 × Nat)} (h : Pk w p bm K e) (hb : Below w.heap.size w wx) {a : Int} {n : List UInt8} {c : Int} (hc : pkE e a n = c) (h0 : c ≠ 0) :
    NamePost w p bm K e a n (.returned (.tuple #[.slice none 0 0, .int .i64 c])) wx := by
  subst hc
  unfold NamePost nameB nameK nameE
  rw [if_neg h0, if_neg h0, if_neg h0]
  exact ⟨_, rfl, OwnB.nil _ _, h.later hb, Aside.of_all hb⟩

theorem name_fine {w w5 w6 : World} {p bm e q : Nat} {K K' : List (List UInt8 × Nat)} {n P0 R0 : List UInt8} {v : Value} (hP : Pk w p bm K e) (hE : pkE e q n = 0)
    (hF : nameB K e q n = P0 ++ R0 ∧ nameK K e q n = K' ∧ nameE K e q n = q + (P0 ++ R0).length) (ho : OwnB w5 w.heap.size v (P0 ++ R0)) (hb : Below w.heap.size w w5) (hpk : Pk w6 p bm K' e) (has : Aside (fun b => b = bm) w5 w6) :
    NamePost w p bm K e q n (.returned (.tuple #[v, .int .i64 0])) (w6.setCell ⟨p, 2, none⟩ (.int .i64 ((q : Int) + ((P0.length : Int) + R0.length)))) := by
  have hlt := ho.lt
  have hset : Aside (fun b => b = p) w6 (w6.setCell ⟨p, 2, none⟩ (.int .i64 ((q : Int) + ((P0.length : Int) + R0.length)))) := Aside.setCell _ _ rfl
  refine ⟨v, by rw [hE], ?_, ?_, ?_⟩
  · rw [hF.1]
    refine (ho.aside has fun b hv e => ?_).aside hset fun b hv e => ?_
    · have := hlt b hv; have := hP.map.lt; omega
    · have := hlt b hv; have := hP.lt; omega
  · rw [hF.2.1, hF.2.2, List.length_append]
    have h1 : (w6.setCell ⟨p, 2, none⟩ (.int .i64 ((q : Int) + ((P0.length : Int) + R0.length)))).cell? ⟨p, 2, none⟩ = some (.int .i64 ((q : Int) + ((P0.length : Int) + R0.length))) := World.cell?_setCell_same _ _ _ hpk.fin
    refine ⟨?_, ?_, by rw [h1]; push_cast; rfl, fun j => by rw [World.frozen?_setCell]; exact hpk.free j, hpk.ne, hpk.map.aside hset (fun e => hpk.ne e.symm)⟩
    · rw [World.cell?_setCell_other _ _ _ _ (by simp)]; exact hpk.self
    · rw [World.cell?_setCell_other _ _ _ _ (by simp)]; exact hpk.tails
  · exact ((Aside.of_all hb).trans (has.mono fun _ _ h => .inr h)).trans (hset.mono fun _ _ h => .inl h)

set_option maxRecDepth 100000 in
set_option maxHeartbeats 4000000 in
theorem name_any {w : World} {p bm e : Nat} {K : List (List UInt8 × Nat)} (h : Pk w p bm K e) (hG : GoodK K) (hK : K.length ≤ 900000) (he : e ≤ 1000000) (a : Int) (n : List UInt8) (hn : n.length ≤ 1000) :
    Calls Tryz.prog 130 #[.pointer (some ⟨p, 0, none⟩), .int .i64 a, .string (bs n)] w (NamePost w p bm K e a n) := by
  have HM := Lib.hid (made_yes p w h.self)
  have HC := Lib.hid (check_any n (by omega) w)
  have HP := Lib.hid h
  have BAD := Lib.hid (fun wx hb c hc h0 => name_bad (wx := wx) h hb (a := a) (n := n) (c := c) hc h0)
  by_cases hc : chk n = 0
  · rw [hc] at HC
    obtain ⟨hs, hnm⟩ := shorts_of hc
    replace hnm : n = nm (labs n) := hnm
    by_cases hr : a < 0 ∨ 65535 < a
    · have HE := Lib.hid (show pkE e a n = 2 by unfold pkE; rw [if_neg (fun h => h hc), if_pos hr])
      have hor : decide (a < 0) = true ∨ (decide (a < 0) = false ∧ decide ((65535 : Int) < a) = true) := by
        by_cases h : a < 0
        · exact .inl (by simpa using h)
        · exact .inr ⟨by simpa using h, by simpa using hr.resolve_left h⟩
      clear hr hnm hc h hs
      rcases hor with t1 | ⟨t1, t2⟩
      all_goals
        go_enter Tryz.func130, Tryz.ntmps130
        go_wp2_with fail
        refine HM.out.mono ?_; rintro e0 w1 ⟨rfl, rfl⟩
        go_wp2_with fail
        refine HC.out.mono ?_; rintro e0 w1 ⟨rfl, hb⟩
        have HB := Lib.hid hb
        clear hb
        go_wp2_with fail
        go_ret2
        exact BAD.out _ HB.out 2 HE.out (by decide)
    · by_cases hst : a < e
      · have HE := Lib.hid (show pkE e a n = 9 by unfold pkE; rw [if_neg (fun h => h hc), if_neg hr, if_pos hst])
        have t1 : decide (a < 0) = false := by simp; omega
        have t2 : decide ((65535 : Int) < a) = false := by simp; omega
        have t3 : decide (a < (e : Int)) = true := by simpa using hst
        clear hr hnm hc h hs hst
        go_enter Tryz.func130, Tryz.ntmps130
        go_wp2_with fail
        refine HM.out.mono ?_; rintro e0 w1 ⟨rfl, rfl⟩
        go_wp2_with fail
        refine HC.out.mono ?_; rintro e0 w1 ⟨rfl, hb⟩
        have HB := Lib.hid hb
        have c2 := (HP.out.later hb).fin
        clear hb
        go_wp2_with fail
        go_ret2
        exact BAD.out _ HB.out 9 HE.out (by decide)
      · have hE : pkE e a n = 0 := by unfold pkE; rw [if_neg (fun h => h hc), if_neg hr, if_neg hst]
        obtain ⟨q, rfl⟩ : ∃ q : Nat, a = q := ⟨a.toNat, by omega⟩
        obtain ⟨ls, hls⟩ : ∃ ls, labs n = ls := ⟨_, rfl⟩
        have HF := Lib.hid (show nameB K e q n = told K ls ∧ nameK K e q n = K ++ fr q ls (hdn K ls) ∧ nameE K e q n = q + (told K ls).length by
          unfold nameB nameK nameE
          rw [if_pos hE, if_pos hE, if_pos hE, hls]
          exact ⟨rfl, rfl, rfl⟩)
        have HE := Lib.hid hE
        rw [hls] at hs hnm
        subst hnm
        have hhl := hdn_le K ls
        have hnl : (nm ls).length ≤ 255 := by rw [nm_len]; have := hs.2; omega
        have hpl := pos_le ls (hdn K ls)
        have hple : pos ls (hdn K ls) ≤ (nm ls).length := by rw [nm_len]; omega
        have hlo := to_run (nm ls) (pos ls (hdn K ls)) hple
        have hfr := from_run (nm ls) (pos ls (hdn K ls)) hple
        rw [nm_take] at hlo
        rw [nm_drop] at hfr
        have HAh := Lib.hid (fun wx (hp : Pk wx p bm K e) => ahead_any hp hs)
        have HRe := Lib.hid (fun wx (hp : Pk wx p bm K e) => rest_any hp hG (nm (ls.drop (hdn K ls))) (by rw [← nm_drop, List.length_drop]; omega))
        have HLe := Lib.hid (fun wx (hp : Pk wx p bm K e) => learn_any hp hs q (by omega) (hdn K ls) (Nat.le_refl _) hK)
        have hP0 : (wire (ls.take (hdn K ls))).length ≤ 1000 := by show pos ls (hdn K ls) ≤ 1000; omega
        have hR0 : 0 < (restb K (nm (ls.drop (hdn K ls)))).length := restb_pos (by rw [nm_len]; omega)
        have hR1 : (restb K (nm (ls.drop (hdn K ls)))).length ≤ 1000 := by
          have := restb_len K (nm (ls.drop (hdn K ls)))
          rw [← nm_drop, List.length_drop] at this
          rw [← nm_drop]
          omega
        have htl : (told K ls).length = (wire (ls.take (hdn K ls))).length + (restb K (nm (ls.drop (hdn K ls)))).length := by unfold told; rw [List.length_append]
        have htd : told K ls = wire (ls.take (hdn K ls)) ++ restb K (nm (ls.drop (hdn K ls))) := rfl
        obtain ⟨z, hz⟩ : ∃ z, pos ls (hdn K ls) = z := ⟨_, rfl⟩
        rw [hz] at hlo hfr HAh HLe
        obtain ⟨P0, hP⟩ : ∃ P0, wire (ls.take (hdn K ls)) = P0 := ⟨_, rfl⟩
        rw [hP] at hlo hP0 htl htd
        obtain ⟨T, hT⟩ : ∃ T, nm (ls.drop (hdn K ls)) = T := ⟨_, rfl⟩
        rw [hT] at hfr HRe hR0 hR1 htl htd
        obtain ⟨R0, hR⟩ : ∃ R0, restb K T = R0 := ⟨_, rfl⟩
        rw [hR] at HRe hR0 hR1 htl htd
        obtain ⟨M, hM⟩ : ∃ M, nm ls = M := ⟨_, rfl⟩
        have HFM := Lib.hid hM
        have t1 : decide ((q : Int) < 0) = false := by simp
        have t2 : ¬ 65535 < q := by omega
        have t3 : ¬ q < e := by omega
        have HTL := Lib.hid htl
        have HTD := Lib.hid htd
        have HG1 := Lib.hid hR0
        clear BAD hE hls hs hhl hnl hpl hple hc hr hst h hz hP hT hR hM htl htd hR0
        go_enter Tryz.func130, Tryz.ntmps130
        go_wp2_with fail
        refine HM.out.mono ?_; rintro e0 w1 ⟨rfl, rfl⟩
        go_wp2_with fail
        refine HC.out.mono ?_; rintro e0 w1 ⟨rfl, hb⟩
        have HP1 := Lib.hid (HP.out.later hb)
        have HB1 := Lib.hid hb
        have c2 := HP1.out.fin
        clear hb
        go_wp2_with fail
        refine (HAh.out _ HP1.out).mono ?_; rintro e0 w2 ⟨rfl, hb⟩
        have HP2 := Lib.hid (HP1.out.later hb)
        have HB2 := Lib.hid (bel_call HB1.out hb)
        clear hb c2
        go_wp2_with fail
        have HD := Lib.hid (show Below w.heap.size w w2.drew from HB2.out.drew)
        have HPD := Lib.hid (show Pk w2.drew p bm K e from HP2.out.later (Below.refl _ w2).drew)
        obtain ⟨cap, W, hcv, ho1, hb1, hl1⟩ := conv_B w2.drew P0 (by omega)
        have HO1 := Lib.hid ho1
        have HW := Lib.hid (bel_call HD.out hb1)
        have HPW := Lib.hid (HPD.out.later hb1)
        clear ho1 hb1 hl1
        go_region_law (first | (refine step_appB rfl (.tmp 37) (.tmp 42) rfl rfl w.heap.size _ _ P0 R0 rfl rfl HAA.out HAX.out HG1.out (by omega) HAB.out.size ?_; intro a5 c5 w5 ho5 hb5; have HO5 := Lib.hid ho5; have HB5 := Lib.hid (HAB.out.trans hb5); clear ho5 hb5) | (go_simp; go_at_call 140; refine (HRe.out _ (by first | exact HPW.out | exact HPD.out)).mono ?_; rintro e0 w3 ⟨xv, rfl, ho, hb⟩; first | (have HAB := Lib.hid (bel_call HW.out hb); have HAA := Lib.hid ((HO1.out.below hb).mono HB2.out.size); have HAX := Lib.hid ho.sl; clear ho hb) | (have HAB0 := bel_call HD.out hb; obtain ⟨cap2, W2, hcv2, ho2, hb2, _⟩ := conv_B w3 P0 (by omega); have HAB := Lib.hid (bel_call HAB0 hb2); have HAA := Lib.hid (ho2.mono HAB0.size); have HAX := Lib.hid (ho.below hb2).sl; clear ho hb ho2 hb2 HAB0)))
        all_goals
          go_wp2_with fail
          refine (HLe.out _ (HP.out.later HB5.out)).mono ?_; rintro e0 w6 ⟨rfl, hpk, has⟩
          have FIN := Lib.hid (name_fine HP.out HE.out (HTD.out ▸ HF.out) HO5.out HB5.out hpk has)
          have c2 := hpk.fin
          have f2 := hpk.free
          clear hpk has
          go_wp2_with fail
          go_ret2
          have := FIN.out
          simpa using this
  · have hE : pkE e a n = chk n := by unfold pkE; rw [if_pos hc]
    obtain ⟨c, hcn⟩ : ∃ c, chk n = c := ⟨_, rfl⟩
    rw [hcn] at HC hE hc
    have HE := Lib.hid hE
    have tc : (c != 0) = true := by simpa using hc
    clear hE hcn h
    go_enter Tryz.func130, Tryz.ntmps130
    go_wp2_with fail
    refine HM.out.mono ?_; rintro e0 w1 ⟨rfl, rfl⟩
    go_wp2_with fail
    refine HC.out.mono ?_; rintro e0 w1 ⟨rfl, hb⟩
    have HB := Lib.hid hb
    clear hb
    go_wp2_with fail
    go_ret2
    exact BAD.out _ HB.out c HE.out hc
end Go.Proofs.YteegekpanadmkaaGreat

/-
  Known; names told again; the statement about names that are told twice.
-/
namespace Go.Proofs.YteegekpanadmkaaGreat
open Go.RowKit Go.Shelf
set_option linter.unusedVariables false
set_option maxRecDepth 100000

theorem len_wire2 {ls : List (List UInt8)} (h : ∀ x ∈ ls, 0 < x.length ∧ x.length ≤ 63) : 2 * ls.length ≤ (wire ls).length := by
  induction ls with
  | nil => simp
  | cons x r ih =>
    have h1 := h x List.mem_cons_self
    have h2 := ih fun y hy => h y (List.mem_cons_of_mem _ hy)
    simp [wire]
    omega
end Go.Proofs.YteegekpanadmkaaGreat

/-
  Names that a packer tells are read at their places; plainly.
-/
namespace Go.Proofs.YteegekpanadmkaaGreat
open Go.RowKit Go.Shelf
set_option linter.unusedVariables false
set_option maxRecDepth 100000

/-- From the place i on, in a part that began at part, these labels stand. -/
inductive Stand (b : List UInt8) : Nat → Nat → List (List UInt8) → Prop
  | zero {part i : Nat} (h : i < b.length) (h0 : b[i].toNat = 0) : Stand b part i []
  | label {part i : Nat} {l : List UInt8} {r : List (List UInt8)} (h0 : 0 < l.length) (h1 : l.length ≤ 63) (h2 : i + (1 + l.length) ≤ b.length) (h3 : (b.drop i).take (1 + l.length) = wire [l]) (h : Stand b part (i + (1 + l.length)) r) : Stand b part i (l :: r)
  | lead {part i to : Nat} {r : List (List UInt8)} (h : i + 1 < b.length) (h0 : 192 ≤ (b[i]'(Nat.lt_of_succ_lt h)).toNat) (h1 : ptr (b[i]'(Nat.lt_of_succ_lt h)) (b[i + 1]'h) = to) (h2 : to < part) (h3 : Stand b to to r) : Stand b part i r

theorem Stand.more {b : List UInt8} {part i : Nat} {ls : List (List UInt8)} (h : Stand b part i ls) (c : List UInt8) : Stand (b ++ c) part i ls := by
  induction h with
  | zero h h0 => exact .zero (by rw [List.length_append]; omega) (by rw [List.getElem_append_left h]; exact h0)
  | label h0 h1 h2 h3 _ ih =>
    refine .label h0 h1 (by rw [List.length_append]; omega) ?_ ih
    rw [List.drop_append_of_le_length (by omega), List.take_append_of_le_length (by rw [List.length_drop]; omega)]
    exact h3
  | lead h h0 h1 h2 _ ih =>
    refine .lead (by rw [List.length_append]; omega) ?_ ?_ h2 ih
    · rw [List.getElem_append_left]; exact h0
    · rw [List.getElem_append_left, List.getElem_append_left h]; exact h1

theorem rd_of {b : List UInt8} {part i : Nat} {ls : List (List UInt8)} (h : Stand b part i ls) (a : Nat) : ∀ (next : Nat) (pre : List (List UInt8)), (wire (pre ++ ls)).length ≤ 254 → ∃ nx, rd b a part i next (wire pre) = (nm (pre ++ ls), nx, 0, 0) := by
  induction h with
  | zero h h0 =>
    intro next pre _
    rw [rd_zero h h0, List.append_nil]
    exact ⟨_, rfl⟩
  | @label part i l r h0 h1 h2 h3 _ ih =>
    intro next pre hl
    have hlt : i < b.length := by omega
    have hb : b[i].toNat = l.length := by
      have h4 := congrArg (fun x : List UInt8 => x[0]?) h3
      simp only [wire, List.append_nil, List.getElem?_take, List.getElem?_drop] at h4
      rw [if_pos (by omega), Nat.add_zero, List.getElem?_eq_getElem hlt] at h4
      have h5 : b[i] = UInt8.ofNat l.length := by simpa using h4
      rw [h5, UInt8.toNat_ofNat']
      omega
    have hw : (wire (pre ++ [l])).length = (wire pre).length + (1 + l.length) := wire_snoc pre l
    have hsplit : pre ++ l :: r = (pre ++ [l]) ++ r := by simp
    have hle : (wire (pre ++ [l])).length ≤ (wire (pre ++ l :: r)).length := by rw [hsplit, wire_app (pre ++ [l]) r, List.length_append]; omega
    rw [rd_label hlt (by omega) (by omega) (by omega) (by omega), hb, h3, ← wire_app, hsplit]
    exact ih next (pre ++ [l]) (by rw [← hsplit]; exact hl)
  | lead h h0 h1 h2 _ ih =>
    intro next pre hl
    rw [rd_go (Nat.lt_of_succ_lt h) h0 h (by omega), h1]
    exact ih _ pre hl

/-- What is known stands where it is known. -/
structure Inv (b : List UInt8) (K : List (List UInt8 × Nat)) (e : Nat) (P : List (List UInt8 × Nat)) : Prop where
  good : GoodK K
  last : e ≤ b.length
  ahead : ∀ p ∈ K, p.2 < e
  tails : ∀ ls x, Shorts ls → (nm ls, x) ∈ K → Stand b x x ls
  names : ∀ p ∈ P, ∃ ls, p.1 = nm ls ∧ Shorts ls ∧ Stand b p.2 p.2 ls ∧ p.2 < b.length

theorem Inv.nil : Inv [] [] 0 [] := ⟨good_nil, Nat.le_refl _, fun p h => by simp at h, fun ls x _ h => by simp at h, fun p h => by simp at h⟩

theorem Inv.more {b : List UInt8} {K : List (List UInt8 × Nat)} {e : Nat} {P : List (List UInt8 × Nat)} (h : Inv b K e P) (c : List UInt8) : Inv (b ++ c) K e P :=
  ⟨h.good, by rw [List.length_append]; have := h.last; omega, h.ahead, fun ls x hs hx => (h.tails ls x hs hx).more c, fun p hp => by
    obtain ⟨ls, h1, h2, h3, h4⟩ := h.names p hp
    exact ⟨ls, h1, h2, h3.more c, by rw [List.length_append]; omega⟩⟩

theorem ptr_pb {x : Nat} (hx : x < 16384) : ptr (UInt8.ofNat (192 + x / 256)) (UInt8.ofNat (x % 256)) = x ∧ 192 ≤ (UInt8.ofNat (192 + x / 256)).toNat := by
  unfold ptr
  simp only [UInt8.toNat_ofNat']
  omega

theorem told_le {K : List (List UInt8 × Nat)} {ls : List (List UInt8)} (hG : GoodK K) (hs : Shorts ls) : (told K ls).length ≤ (nm ls).length := by
  have h1 := pos_rest ls (hdn K ls)
  unfold pos at h1
  unfold told
  rw [List.length_append, nm_len]
  unfold restb
  rcases hp : plc K (nm (ls.drop (hdn K ls))) with _ | x
  · show (wire (ls.take (hdn K ls))).length + (nm (ls.drop (hdn K ls))).length ≤ _
    rw [nm_len]; omega
  · show (wire (ls.take (hdn K ls))).length + 2 ≤ _
    rcases Nat.lt_or_ge (hdn K ls) ls.length with h | h
    · have h2 := len_wire2 (shorts_drop hs (hdn K ls)).1
      rw [List.length_drop] at h2
      have h3 : 0 < (ls.drop (hdn K ls)).length := by rw [List.length_drop]; omega
      omega
    · exfalso
      rw [List.drop_eq_nil_of_le h] at hp
      have := good_root hG
      rw [show nm [] = [0] from rfl] at hp
      rw [hp] at this
      cases this

theorem told_rd {b : List UInt8} {K : List (List UInt8 × Nat)} {e : Nat} {P : List (List UInt8 × Nat)} (h : Inv b K e P) {ls : List (List UInt8)} (hs : Shorts ls) :
    ∀ d k, k + d = hdn K ls → ∀ part, b.length ≤ part → Stand (b ++ told K ls) part (b.length + pos ls k) (ls.drop k) := by
  have hll := hdn_le K ls
  intro d
  induction d with
  | zero =>
    intro k hk part hp
    have hkh : k = hdn K ls := by omega
    subst hkh
    rcases Nat.lt_or_ge (hdn K ls) ls.length with hlt | hge
    · obtain ⟨x, hx⟩ := hdn_stop hlt
      have hx2 := good_lt h.good hx
      have hxe := h.ahead _ (plc_mem hx)
      obtain ⟨p1, p2⟩ := ptr_pb hx2
      have htd : told K ls = wire (ls.take (hdn K ls)) ++ [UInt8.ofNat (192 + x / 256), UInt8.ofNat (x % 256)] := by unfold told restb; rw [hx]; rfl
      have hpl : pos ls (hdn K ls) = (wire (ls.take (hdn K ls))).length := rfl
      have g0 : (b ++ told K ls)[b.length + pos ls (hdn K ls)]? = some (UInt8.ofNat (192 + x / 256)) := by
        rw [htd, List.getElem?_append_right (by omega), Nat.add_sub_cancel_left, hpl, List.getElem?_append_right (Nat.le_refl _), Nat.sub_self]; rfl
      have g1 : (b ++ told K ls)[b.length + pos ls (hdn K ls) + 1]? = some (UInt8.ofNat (x % 256)) := by
        rw [htd, List.getElem?_append_right (by omega), show b.length + pos ls (hdn K ls) + 1 - b.length = pos ls (hdn K ls) + 1 by omega, hpl, List.getElem?_append_right (by omega), show (wire (ls.take (hdn K ls))).length + 1 - (wire (ls.take (hdn K ls))).length = 1 by omega]; rfl
      obtain ⟨i0, g0⟩ := List.getElem?_eq_some_iff.mp g0
      obtain ⟨i1, g1⟩ := List.getElem?_eq_some_iff.mp g1
      refine .lead (to := x) i1 (by rw [g0]; exact p2) (by rw [g0, g1]; exact p1) (by have := h.last; have : x < e := hxe; omega) ((h.tails _ x (shorts_drop hs _) (plc_mem hx)).more _)
    · have hke : hdn K ls = ls.length := by omega
      have htd : told K ls = wire ls ++ [0] := by
        unfold told restb
        rw [hke, List.take_length, List.drop_length]
        show wire ls ++ (match plc K [0] with | some x => pb x | none => [0]) = _
        rw [good_root h.good]
      rw [hke, List.drop_length]
      have hpl : pos ls ls.length = (wire ls).length := by unfold pos; rw [List.take_length]
      have g0 : (b ++ told K ls)[b.length + pos ls ls.length]? = some 0 := by
        rw [htd, List.getElem?_append_right (by omega), Nat.add_sub_cancel_left, hpl, List.getElem?_append_right (Nat.le_refl _), Nat.sub_self]; rfl
      obtain ⟨i0, g0⟩ := List.getElem?_eq_some_iff.mp g0
      exact .zero i0 (by rw [g0]; rfl)
  | succ d ih =>
    intro k hk part hp
    have hkl : k < ls.length := by omega
    have e : ls.drop k = ls[k] :: ls.drop (k + 1) := List.drop_eq_getElem_cons hkl
    have h63 := hs.1 ls[k] (List.getElem_mem hkl)
    rw [e]
    have hcut : ((b ++ told K ls).drop (b.length + pos ls k)).take (1 + ls[k].length) = wire [ls[k]] := by
      have h1 : ls.take (hdn K ls) = ls.take k ++ (ls[k] :: (ls.drop (k + 1)).take d) := by
        rw [← hk, List.take_add, e, List.take_succ_cons]
      unfold told
      rw [h1, wire_app, List.append_assoc]
      rw [show b.length + pos ls k = b.length + (wire (ls.take k)).length from rfl, List.drop_append, List.drop_eq_nil_of_le (by omega), List.nil_append, Nat.add_sub_cancel_left, List.drop_left]
      rw [show ls[k] :: (ls.drop (k + 1)).take d = [ls[k]] ++ (ls.drop (k + 1)).take d from rfl, wire_app, List.append_assoc]
      rw [List.take_left' (by simp [wire]; omega)]
    have hpe : b.length + pos ls k + (1 + ls[k].length) = b.length + pos ls (k + 1) := by rw [pos_succ hkl]; omega
    refine .label h63.1 h63.2 ?_ hcut (by rw [hpe]; exact ih (k + 1) (by omega) part hp)
    have := congrArg List.length hcut
    rw [List.length_take, List.length_drop, List.length_append] at this
    rw [List.length_append]
    simp only [wire, List.length_append, List.length_cons, List.length_nil] at this
    omega

theorem Inv.tell {b : List UInt8} {K : List (List UInt8 × Nat)} {e : Nat} {P : List (List UInt8 × Nat)} (h : Inv b K e P) {ls : List (List UInt8)} (hs : Shorts ls) :
    Inv (b ++ told K ls) (K ++ fr b.length ls (hdn K ls)) (b.length + (told K ls).length) (P ++ [(nm ls, b.length)]) := by
  have hll := hdn_le K ls
  have hm := h.more (told K ls)
  refine ⟨good_fr h.good hs _ hll, by rw [List.length_append]; omega, ?_, ?_, ?_⟩
  · intro p hp
    rcases List.mem_append.mp hp with hp | hp
    · have := h.ahead p hp; have := h.last; omega
    · obtain ⟨j, h1, rfl, _⟩ := fr_mem hll p hp
      show b.length + pos ls j < _
      have h2 := pos_mono ls (show j + 1 ≤ hdn K ls by omega)
      rw [pos_succ (show j < ls.length by omega)] at h2
      have h3 : (told K ls).length = pos ls (hdn K ls) + (restb K (nm (ls.drop (hdn K ls)))).length := by unfold told; rw [List.length_append]; rfl
      omega
  · intro ms x hms hx
    rcases List.mem_append.mp hx with hx | hx
    · exact hm.tails ms x hms hx
    · obtain ⟨j, h1, h2, _⟩ := fr_mem hll _ hx
      injection h2 with h2 h3
      rw [nm_inj hms (shorts_drop hs j) h2, h3]
      exact told_rd h hs (hdn K ls - j) j (by omega) _ (by omega)
  · intro p hp
    rcases List.mem_append.mp hp with hp | hp
    · exact hm.names p hp
    · obtain rfl := List.mem_singleton.mp hp
      have := told_rd h hs (hdn K ls) 0 (by omega) b.length (Nat.le_refl _)
      rw [pos_zero, Nat.add_zero, List.drop_zero] at this
      exact ⟨ls, rfl, hs, this, by rw [List.length_append]; have := told_pos K ls; show b.length < _; omega⟩

end Go.Proofs.YteegekpanadmkaaGreat

/-
  The data of a type, part by part, plainly: as a reader goes along them, and as the document cuts them.
-/
namespace Go.Proofs.YteegekpanadmkaaGreat
open Go.RowKit Go.Shelf
set_option linter.unusedVariables false
set_option maxRecDepth 100000

/-- What a part of data is. -/
inductive PK where
  | fix (n : Nat)
  | nam
  | txt
  | rst
deriving DecidableEq

/-- Of which parts the data of a type are. -/
def kinds (t : Int) : List PK :=
  if t = 1 then [.fix 4] else if t = 28 then [.fix 16] else if t = 2 ∨ t = 5 ∨ t = 12 then [.nam] else if t = 15 then [.fix 2, .nam] else if t = 6 then [.nam, .nam, .fix 20] else if t = 16 then [.txt] else [.rst]

/-- A piece: its bytes, and whether it is a name. -/
abbrev Pc := List UInt8 × Bool

/-- What reading one part comes to. -/
inductive PR where
  | ok (x : Pc) (q : Nat)
  | bad (e : Int) (a : Nat)

/-- What reading all parts comes to. -/
inductive RR where
  | ok (l : List Pc)
  | bad (e : Int) (a : Nat)

/-- The bytes from p up to q, if these are within the data. -/
def cutP (b : List UInt8) (s e p q : Nat) : PR := if e < q then .bad 4 s else .ok ((b.drop p).take (q - p), false) q

/-- Where the texts end that begin at a place; n: at most so many. -/
def txE (b : List UInt8) (e : Nat) : Nat → Nat → Option Nat
  | 0, _ => none
  | n + 1, p => if e < p + 1 then none else (let q := p + (1 + (b.getD p 0).toNat); if q < e then txE b e n q else some q)

/-- One part, from p on; s: where the data begin, e: where they end; F: how a name is read. -/
def stepP (F : Nat → Got) (b : List UInt8) (s e p : Nat) : PK → PR
  | .fix n => cutP b s e p (p + n)
  | .nam => if e < p + 1 then .bad 4 s else if (F p).2.2.1 ≠ 0 then .bad (F p).2.2.1 (F p).2.2.2 else if e < (F p).2.1 then .bad 4 s else .ok ((F p).1, true) (F p).2.1
  | .txt => match txE b e (e + 1) p with | none => .bad 4 s | some q => cutP b s e p q
  | .rst => cutP b s e p e

/-- All parts. -/
def goP (F : Nat → Got) (b : List UInt8) (s e : Nat) : List PK → Nat → List Pc → RR
  | [], p, acc => if p < e then .bad 4 s else .ok acc
  | k :: ks, p, acc => match stepP F b s e p k with | .ok x q => goP F b s e ks q (acc ++ [x]) | .bad c a => .bad c a

/-- A name that stands as its bytes. -/
def pln (b : List UInt8) (p : Nat) : Got := if (rda b p).2.2.1 ≠ 0 ∨ (rda b p).1 ≠ (b.drop p).take ((rda b p).2.1 - p) then ([], 0, 4, 0) else ((rda b p).1, (rda b p).2.1, 0, 0)

/-- The pieces of data, or why they are not those of the type. -/
def spl (t : Int) (d : List UInt8) : RR := if t < 0 ∨ 65535 < t then .bad 5 0 else if 65535 < d.length then .bad 3 0 else goP (pln d) d 0 d.length (kinds t) 0 []

def RR.code : RR → Int
  | .ok _ => 0
  | .bad e _ => e
def RR.pcs : RR → List Pc
  | .ok l => l
  | .bad _ _ => []
def RR.place : RR → Nat
  | .ok _ => 0
  | .bad _ a => a

/-- The data of pieces. -/
def joined (l : List Pc) : List UInt8 := (l.map (·.1)).flatten

/-- What reading data in a message tells. -/
def rdR (b : List UInt8) (a size t : Int) : RR :=
  if t < 0 ∨ 65535 < t ∨ size < 0 ∨ 65535 < size then .bad 2 0 else if a < 0 ∨ (b.length : Int) < a then .bad 5 0 else if (b.length : Int) < a + size then .bad 4 b.length
  else goP (fun p => rda b p) b a.toNat (a.toNat + size.toNat) (kinds t) a.toNat []

/-! ### as the document cuts them -/

/-- How far the labels go with which bytes begin, whatever they are: the place of a byte 0. -/
def frt (s : List UInt8) : Nat → Nat → Option Nat
  | 0, _ => none
  | n + 1, p => if h : p < s.length then (if s[p].toNat = 0 then some p else frt s n (p + (1 + s[p].toNat))) else none
def front (s : List UInt8) : Option Nat := match frt s (s.length + 1) 0 with | none => none | some p => if chk (s.take (p + 1)) = 0 then some (p + 1) else none

/-- Are bytes one text or more? -/
def txs (s : List UInt8) : Nat → Nat → Bool
  | 0, _ => false
  | n + 1, p => if h : p < s.length then txs s n (p + (1 + s[p].toNat)) else decide (p = s.length)
def texts (s : List UInt8) : Bool := decide (s ≠ []) && txs s (s.length + 1) 0

/-- How long a part is. -/
def lenP (s : List UInt8) : PK → Option Nat
  | .fix n => if n ≤ s.length then some n else none
  | .nam => front s
  | .txt => if texts s then some s.length else none
  | .rst => some s.length

/-- Is a part a name? -/
def PK.isNam : PK → Bool
  | .nam => true
  | _ => false

/-- The pieces, and what is left. -/
def cuts : List PK → List UInt8 → Option (List Pc × List UInt8)
  | [], s => some ([], s)
  | k :: ks, s => match lenP s k with | none => none | some n => (cuts ks (s.drop n)).map fun r => ((s.take n, k.isNam) :: r.1, r.2)

end Go.Proofs.YteegekpanadmkaaGreat

/-
  Pieces in memory: rows of them that the call made.
-/
namespace Go.Proofs.YteegekpanadmkaaGreat
open Go.RowKit Go.Shelf
set_option linter.unusedVariables false
set_option maxRecDepth 100000

/-- Pieces as cells. -/
def pcc : List Pc → List Value
  | [] => []
  | p :: r => .string (bs p.1) :: .bool p.2 :: pcc r

theorem pcc_len (K : List Pc) : (pcc K).length = K.length * 2 := by
  induction K with
  | nil => rfl
  | cons p r ih => simp [pcc, ih]; omega
theorem pcc_app (K K' : List Pc) : pcc (K ++ K') = pcc K ++ pcc K' := by
  induction K with
  | nil => rfl
  | cons p r ih => simp [pcc, ih]
theorem pcc_at : ∀ (K : List Pc) (j : Nat) (h : j < K.length), (pcc K)[j * 2]? = some (.string (bs K[j].1)) ∧ (pcc K)[j * 2 + 1]? = some (.bool K[j].2)
  | [], j, h => by simp at h
  | p :: r, 0, h => ⟨rfl, rfl⟩
  | p :: r, j + 1, h => by
    obtain ⟨h1, h2⟩ := pcc_at r j (by simpa using h)
    rw [show (j + 1) * 2 = j * 2 + 1 + 1 by omega, pcc]
    exact ⟨h1, h2⟩
theorem pcc_one (K : List Pc) : ∀ u ∈ pcc K, u.oneCell' = true := by
  induction K with
  | nil => intro u hu; simp [pcc] at hu
  | cons p r ih =>
    intro u hu
    rcases List.mem_cons.mp hu with rfl | hu
    · rfl
    · rcases List.mem_cons.mp hu with rfl | hu
      · rfl
      · exact ih u hu
/-- v is a row of pieces of the call's own, in blocks from B on. -/
def OwnP (w : World) (B : Nat) (v : Value) (K : List Pc) : Prop := w.ownsRow B 212 2 v K.length (pcc K)

section
variable {w w' : World} {B : Nat} {v : Value} {K : List Pc} {G : Nat → Prop}
theorem OwnP.nil (w : World) (B : Nat) : OwnP w B (.slice none 0 0) [] := World.ownsRow_nil _ _ _ _
theorem OwnP.lt (h : OwnP w B v K) : ∀ k, v.ownBlock = some k → B ≤ k ∧ k < w.heap.size := World.ownsRow.lt h
theorem OwnP.mono {B' : Nat} (h : OwnP w B v K) (hB : B' ≤ B) : OwnP w B' v K := by
  refine ⟨h.1, ?_⟩
  rcases h.2 with h2 | ⟨g, cap, cur, hv, hg, r⟩
  · exact .inl h2
  · exact .inr ⟨g, cap, cur, hv, Nat.le_trans hB hg, r⟩
theorem OwnP.aside (h : OwnP w B v K) (ha : Aside G w w') (hG : ∀ b, v.ownBlock = some b → ¬ G b) : OwnP w' B v K := by
  have hlt := h.lt
  refine ⟨h.1, ?_⟩
  rcases h.2 with h2 | ⟨g, cap, cur, hv, hg, hh, r⟩
  · exact .inl h2
  · exact .inr ⟨g, cap, cur, hv, hg, (ha.block g (by subst hv; exact (hlt g rfl).2) (hG g (by rw [hv]; rfl))).trans hh, r⟩
theorem OwnP.below (h : OwnP w B v K) (hb : Below w.heap.size w w') : OwnP w' B v K := h.aside (G := fun _ => False) (Aside.of_all hb) fun _ _ h => h
theorem OwnP.shape (h : OwnP w B v K) : ∃ a c, v = .slice a K.length c := by
  rcases h.2 with ⟨rfl, h0⟩ | ⟨g, cap, cur, rfl, _⟩
  · exact ⟨none, 0, by rw [h0]⟩
  · exact ⟨_, cap, rfl⟩
theorem OwnP.at_ (h : OwnP w B v K) (j : Nat) (hj : j < K.length) : ∃ g c, v = .slice (some ⟨g, 0, none⟩) K.length c ∧ w.cell? ⟨g, j * 2, none⟩ = some (.string (bs K[j].1)) ∧ w.cell? ⟨g, j * 2 + 1, none⟩ = some (.bool K[j].2) := by
  have hc := fun g hg => World.ownsRow.cells h (g := g) hg
  rcases h.2 with ⟨rfl, h0⟩ | ⟨g, cap, cur, rfl, _⟩
  · omega
  · obtain ⟨h1, h2⟩ := pcc_at K j hj
    have e1 := hc g rfl _ _ h1
    have e2 := hc g rfl _ _ h2
    rw [WideShapes.add_plain, Nat.zero_add] at e1 e2
    exact ⟨g, cap, rfl, e1, e2⟩
end

theorem info_pc : (Tryz.prog.info? 212).map (fun i => (i.zero, i.size, i.bytes)) = some (some (.agg #[.string ⟨#[]⟩, .bool false]), 2, 24) := by kernel_rfl

/-- append of one piece. -/
theorem run_appP {w : World} (B : Nat) (v : Value) (K : List Pc) (x : Pc) (g c : Nat) (hown : OwnP w B v K) (h0 : w.cell? ⟨g, 0, none⟩ = some (.string (bs x.1))) (h1 : w.cell? ⟨g, 1, none⟩ = some (.bool x.2)) (hb : K.length + 1 ≤ 1000000) (hB : B ≤ w.heap.size) :
    ∃ a' c' w', (Builtin.append_ #[206, 206] 206 #[v, .slice (some ⟨g, 0, none⟩) 1 c]).run Tryz.prog w = .ok (.slice a' (K.length + 1) c') w' ∧ OwnP w' B (.slice a' (K.length + 1) c') (K ++ [x]) ∧ Aside (fun b => v.ownBlock = some b) w w' := by
  obtain ⟨i0, hi, hz0, hz1, hz2⟩ := info_parts info_pc
  obtain ⟨v', w', r1, r2, r3, _⟩ := run_append_own (P := Tryz.prog) w B 206 206 212 i0 _ 2 24 Tryz.underlying206 hi hz0 hz1 hz2 rfl (by decide) v K.length (pcc K) hown ⟨g, 0, none⟩ 1 c (pcc [x]) (pcc_len [x])
    (fun j u hu => by
      rw [WideShapes.add_plain, Nat.zero_add]
      match j, hu with
      | 0, hu => simp [pcc] at hu; rw [h0, hu]
      | 1, hu => simp [pcc] at hu; rw [h1, hu]
      | j + 2, hu => simp [pcc] at hu) (pcc_one [x]) (by unfold maxLen; omega) (by omega) hB
  have h4 : OwnP w' B v' (K ++ [x]) := by
    unfold OwnP
    rw [List.length_append, pcc_app]
    exact r2
  obtain ⟨a', c', hv⟩ := h4.shape
  rw [List.length_append] at hv
  subst hv
  exact ⟨a', c', w', r1, h4, Aside.grown r3 fun _ h => h⟩
end Go.Proofs.YteegekpanadmkaaGreat

/-
  A reader of data in memory: fail, reach.
-/
namespace Go.Proofs.YteegekpanadmkaaGreat
open Go.RowKit Go.Shelf
set_option linter.unusedVariables false
set_option linter.unusedSimpArgs false
set_option maxRecDepth 100000

/-- Block r is a reader: of which bytes, where the data begin, where one stands, where they end, how names are read, the pieces so far. -/
structure Rr (w : World) (B r : Nat) (vb vf : Value) (s p e : Nat) (acc : List Pc) : Prop where
  c0 : w.cell? ⟨r, 0, none⟩ = some vb
  c1 : w.cell? ⟨r, 1, none⟩ = some (.int .i64 s)
  c2 : w.cell? ⟨r, 2, none⟩ = some (.int .i64 p)
  c3 : w.cell? ⟨r, 3, none⟩ = some (.int .i64 e)
  c4 : w.cell? ⟨r, 4, none⟩ = some vf
  c5 : ∃ vp, w.cell? ⟨r, 5, none⟩ = some vp ∧ OwnP w B vp acc
  free : ∀ j, w.frozen? ⟨r, j, none⟩ = false
  lt : r < B
  size : B ≤ w.heap.size

/-- What a reader's parts turn: its own block, and what is new. -/
def RG (B r : Nat) (b : Nat) : Prop := b = r ∨ B ≤ b

section
variable {w w' : World} {B r s p e : Nat} {vb vf : Value} {acc : List Pc}
theorem Rr.rlt (h : Rr w B r vb vf s p e acc) : r < w.heap.size := Nat.lt_of_lt_of_le h.lt h.size
theorem Rr.later (h : Rr w B r vb vf s p e acc) (hb : Below w.heap.size w w') : Rr w' B r vb vf s p e acc := by
  obtain ⟨vp, h5, h6⟩ := h.c5
  exact ⟨cell_later hb h.c0, cell_later hb h.c1, cell_later hb h.c2, cell_later hb h.c3, cell_later hb h.c4, ⟨vp, cell_later hb h5, h6.below hb⟩, fun j => (hb.frozen (p := ⟨r, j, none⟩) h.rlt).trans (h.free j), h.lt, Nat.le_trans h.size hb.size⟩
end

/-- What a part that does not fit is panicked with. -/
def mis (e : Int) (a : Nat) : List PanicEntry := [{ v := .iface 220 (.agg #[.int .i64 e, .int .i64 a]), recovered := false }]

set_option maxHeartbeats 400000 in
theorem rfail_any {w : World} {B r s p e : Nat} {vb vf : Value} {acc : List Pc} (h : Rr w B r vb vf s p e acc) : Calls Tryz.prog 178 #[.pointer (some ⟨r, 0, none⟩)] w fun en w' => en = .panicked (mis 4 s) ∧ w' = w := by
  have h1 := h.c1
  go_enter Tryz.func178, Tryz.ntmps178
  go_wp2
  exact ⟨rfl, rfl, rfl⟩

set_option maxHeartbeats 400000 in
theorem reach_no {w : World} {B r s p e : Nat} {vb vf : Value} {acc : List Pc} (h : Rr w B r vb vf s p e acc) (q : Nat) (hq : e < q) : Calls Tryz.prog 187 #[.pointer (some ⟨r, 0, none⟩), .int .i64 q] w fun en w' => en = .panicked (mis 4 s) ∧ w' = w := by
  have HF := Lib.hid (rfail_any h)
  have h3 := h.c3
  have t1 : decide ((e : Int) < q) = true := by simp; omega
  clear h
  go_enter Tryz.func187, Tryz.ntmps187
  go_wp2_with fail
  refine HF.out.mono ?_; rintro en w1 ⟨rfl, rfl⟩
  exact ⟨rfl, rfl, rfl⟩

set_option maxHeartbeats 400000 in
theorem reach_yes {w : World} {B r s p e : Nat} {vb vf : Value} {acc : List Pc} (h : Rr w B r vb vf s p e acc) (q : Nat) (hq : ¬ e < q) : Calls Tryz.prog 187 #[.pointer (some ⟨r, 0, none⟩), .int .i64 q] w fun en w' => en = .returned (.tuple #[]) ∧ w = w' := by
  have h3 := h.c3
  have t1 : decide ((e : Int) < q) = false := by simp; omega
  clear h
  go_enter Tryz.func187, Tryz.ntmps187
  go_wp2_with fail
  go_end0
  exact ⟨rfl, rfl⟩
end Go.Proofs.YteegekpanadmkaaGreat

/-
  A reader of data in memory: add.
-/
namespace Go.Proofs.YteegekpanadmkaaGreat
open Go.RowKit Go.Shelf
set_option linter.unusedVariables false
set_option linter.unusedSimpArgs false
set_option maxRecDepth 100000

/-- A piece is kept, and one goes on. -/
theorem Rr.added {w W : World} {B r s p e : Nat} {vb vf : Value} {acc : List Pc} (h : Rr w B r vb vf s p e acc) (hW : Below w.heap.size w W) (x : Pc) (g : Nat) (h0 : W.cell? ⟨g, 0, none⟩ = some (.string (bs x.1))) (h1 : W.cell? ⟨g, 1, none⟩ = some (.bool x.2)) (hl : acc.length + 1 ≤ 1000000) (q : Nat) :
    ∃ vp a c W2, W.cell? ⟨r, 5, none⟩ = some vp ∧ (Builtin.append_ #[206, 206] 206 #[vp, .slice (some ⟨g, 0, none⟩) 1 1]).run Tryz.prog W = .ok (.slice a (acc.length + 1) c) W2 ∧
      W2.cell? ⟨r, 5, none⟩ = some vp ∧ (∀ j, W2.frozen? ⟨r, j, none⟩ = false) ∧ W2.cell? ⟨r, 2, none⟩ = some (.int .i64 p) ∧
      Rr ((W2.setCell ⟨r, 5, none⟩ (.slice a (acc.length + 1) c)).setCell ⟨r, 2, none⟩ (.int .i64 q)) B r vb vf s q e (acc ++ [x]) ∧ Aside (RG B r) w ((W2.setCell ⟨r, 5, none⟩ (.slice a (acc.length + 1) c)).setCell ⟨r, 2, none⟩ (.int .i64 q)) := by
  have hR := h.later hW
  obtain ⟨vp, h5, h6⟩ := hR.c5
  obtain ⟨a, c, W2, hr, ho, ha⟩ := run_appP (w := W) B vp acc x g 1 h6 h0 h1 hl hR.size
  have hlt := hR.lt
  have hrG : ¬ vp.ownBlock = some r := fun hv => by have := (h6.lt r hv).1; omega
  have g0 := ha.cell_lt hR.c0 hrG
  have g1 := ha.cell_lt hR.c1 hrG
  have g2 := ha.cell_lt hR.c2 hrG
  have g3 := ha.cell_lt hR.c3 hrG
  have g4 := ha.cell_lt hR.c4 hrG
  have g5 := ha.cell_lt h5 hrG
  have gf : ∀ j, W2.frozen? ⟨r, j, none⟩ = false := fun j => (ha.frozen (p := ⟨r, j, none⟩) hR.rlt hrG).trans (hR.free j)
  have s1 : Aside (fun b => b = r) W2 (W2.setCell ⟨r, 5, none⟩ (.slice a (acc.length + 1) c)) := Aside.setCell _ _ rfl
  have s2 : Aside (fun b => b = r) (W2.setCell ⟨r, 5, none⟩ (.slice a (acc.length + 1) c)) ((W2.setCell ⟨r, 5, none⟩ (.slice a (acc.length + 1) c)).setCell ⟨r, 2, none⟩ (.int .i64 q)) := Aside.setCell _ _ rfl
  have hs := s1.trans s2
  refine ⟨vp, a, c, W2, h5, hr, g5, gf, g2, ⟨?_, ?_, ?_, ?_, ?_, ⟨.slice a (acc.length + 1) c, ?_, ?_⟩, fun j => by rw [World.frozen?_setCell, World.frozen?_setCell]; exact gf j, hlt, Nat.le_trans hR.size (Nat.le_trans ha.size hs.size)⟩, ?_⟩
  · rw [World.cell?_setCell_other _ _ _ _ (by simp), World.cell?_setCell_other _ _ _ _ (by simp)]; exact g0
  · rw [World.cell?_setCell_other _ _ _ _ (by simp), World.cell?_setCell_other _ _ _ _ (by simp)]; exact g1
  · exact World.cell?_setCell_same _ _ _ (by rw [World.cell?_setCell_other _ _ _ _ (by simp)]; exact g2)
  · rw [World.cell?_setCell_other _ _ _ _ (by simp), World.cell?_setCell_other _ _ _ _ (by simp)]; exact g3
  · rw [World.cell?_setCell_other _ _ _ _ (by simp), World.cell?_setCell_other _ _ _ _ (by simp)]; exact g4
  · rw [World.cell?_setCell_other _ _ _ _ (by simp)]; exact World.cell?_setCell_same _ _ _ g5
  · exact ho.aside hs fun b hb e => by have := (ho.lt b hb).1; omega
  · have hA : Aside (RG B r) w W := Aside.of_all hW
    exact (hA.trans (ha.mono fun b _ hb => .inr (h6.lt b hb).1)).trans (hs.mono fun b _ hb => .inl hb)

/-- A part that was read. -/
def Gone (w : World) (B r : Nat) (vb vf : Value) (s e : Nat) (q : Nat) (acc : List Pc) (en : Ending) (w' : World) : Prop := en = .returned (.tuple #[]) ∧ Rr w' B r vb vf s q e acc ∧ Aside (RG B r) w w'
/-- A part that does not fit. -/
def Lost (w : World) (B r : Nat) (c : Int) (a : Nat) (en : Ending) (w' : World) : Prop := en = .panicked (mis c a) ∧ Aside (RG B r) w w'

/-- An append that runs so, as one step of a region that draws its order. -/
theorem step_app_run {ops : Array Oper} {o : Oper} {a : Act} {w w' : World} {v v' xv : Value} {K : Act → World → Prop} {Q : Exit → Act → World → Prop} {E : Prop} (hgd : o.guard = none) (s x : Operand) (t u : TypeId)
    (ho : o.op = .call { callee := .builtin .append, args := #[s, x], argTypes := #[t, u] }) (hs : a.eval s = v) (hx : a.eval x = xv) (hrun : (Builtin.append_ #[t, u] o.type #[v, xv]).run Tryz.prog w = .ok v' w') (h : K (a.put o.dst v') w') :
    if Region.wanted o (yielded ops a.tmps) = true then Oper.wp Tryz.prog o a w K Q else E := by
  rw [if_pos (by simp [Region.wanted, hgd])]
  unfold Oper.wp
  simp [execOp, ho, resolve, invoke, builtin, hs, hx, hrun, Result.andThen]
  exact h

set_option maxHeartbeats 2000000 in
theorem add_any {w : World} {B r s p e : Nat} {vb vf : Value} {acc : List Pc} (h : Rr w B r vb vf s p e acc) (x : Pc) (q : Nat) (hl : acc.length + 1 ≤ 1000000) :
    Calls Tryz.prog 188 #[.pointer (some ⟨r, 0, none⟩), .agg #[.string (bs x.1), .bool x.2], .int .i64 q] w (Gone w B r vb vf s e q (acc ++ [x])) := by
  have HA := Lib.hid (fun W hW g h0 h1 => h.added (W := W) hW x g h0 h1 hl q)
  have hrl := h.rlt
  obtain ⟨vp, h5, _⟩ := h.c5
  obtain ⟨x1, x2⟩ := x
  obtain ⟨vp', a2, c2, W2, q5, hr, k5, kf, k2, hR, hA⟩ := HA.out (((w.alloc (.cells #[.string (bs x1), .bool x2] 212)).drew).alloc (.cells #[.string (bs x1), .bool x2] 212)) ((((Below.refl _ w).alloc (Nat.le_refl _) _).drew).alloc (by simp [World.drew]) _) (w.heap.size + 1) (by simp [go_sem]) (by simp [go_sem])
  have e : vp' = vp := by
    have := cell_later ((((Below.refl _ w).alloc (Nat.le_refl _) (.cells #[.string (bs x1), .bool x2] 212)).drew).alloc (by simp [World.drew]) (.cells #[.string (bs x1), .bool x2] 212)) h5
    rw [this] at q5
    injection q5 with q5
    exact q5.symm
  subst e
  have HRUN := Lib.hid hr
  have HFIN := Lib.hid (And.intro hR hA)
  have kf5 := kf 5
  have kf2 := kf 2
  have k2b : (W2.setCell ⟨r, 5, none⟩ (.slice a2 (acc.length + 1) c2)).cell? ⟨r, 2, none⟩ = some (.int .i64 p) := by rw [World.cell?_setCell_other _ _ _ _ (by simp)]; exact k2
  clear HA hr hR hA q5 h kf
  go_enter Tryz.func188, Tryz.ntmps188
  go_wp2_with fail
  go_region_law (refine step_app_run rfl (.tmp 10) (.tmp 12) 206 206 rfl rfl rfl HRUN.out ?_)
  all_goals
    try go_wp2_with fail
    go_end0
    exact ⟨rfl, HFIN.out⟩
end Go.Proofs.YteegekpanadmkaaGreat

/-
  A reader of data in memory: take, rest, fixed.
-/
namespace Go.Proofs.YteegekpanadmkaaGreat
open Go.RowKit Go.Shelf
set_option linter.unusedVariables false
set_option linter.unusedSimpArgs false
set_option maxRecDepth 100000

/-- The text of a slice of bytes. -/
theorem conv_back {w : World} {lo hi : Nat} {v : Value} {b : List UInt8} (h : Sl w lo hi v (iz b)) : (convert 28 9 v).run Tryz.prog w = .ok (.string (bs b)) w := by
  obtain ⟨a, c, rfl, hc, hn, hp⟩ := h
  rw [iz_len] at hp ⊢
  by_cases h0 : 0 < b.length
  · obtain ⟨g, off, rfl, _, _, hx⟩ := hp h0
    exact run_convert_bytes_back (P := Tryz.prog) w 28 9 5 ⟨g, off, none⟩ c b Tryz.underlying28 Tryz.underlying5 Tryz.underlying9 (fun j hj => by
      rw [WideShapes.add_plain, hx j hj, iz_get b j hj])
  · have hl : b = [] := List.eq_nil_of_length_eq_zero (by omega)
    subst hl
    rcases a with _ | ad
    · rw [List.length_nil, run_convert_bytes_nil w 28 5 Tryz.underlying28 Tryz.underlying5 _ c 9 Tryz.underlying9]; rfl
    · rw [run_convert_bytes_string w 28 9 5 _ _ c Tryz.underlying28 Tryz.underlying5 Tryz.underlying9, run_bytesToString w ad _ c [] (by simpa using run_loadCells_list (P := Tryz.prog) w ad [] (by simp))]
      rfl

/-- A slice's bytes, from one place up to another one. -/
theorem cut_sl {w : World} {lo hi : Nat} {v : Value} {b : List UInt8} (h : Sl w lo hi v (iz b)) (p q : Nat) (hpq : p ≤ q) (hq : q ≤ b.length) :
    ∃ sv, (∀ wx, (Instr.slice 28 v (some (.int .i64 p)) (some (.int .i64 q)) none).run Tryz.prog wx = .ok sv wx) ∧ Sl w lo hi sv (iz ((b.drop p).take (q - p))) := by
  have hs := h
  obtain ⟨a, c, rfl, _⟩ := h
  obtain ⟨sv, h1, h2⟩ := slice_cut (p := p) (m := q - p) hs (by rw [iz_len]; omega)
  rw [iz_cut] at h2
  refine ⟨sv, fun wx => ?_, h2⟩
  have := h1 wx
  rwa [show ((p : Int) + ((q - p : Nat) : Int)) = (q : Int) by omega] at this

/-- What a step of the plain reader is in memory. -/
def StepPost (w : World) (B r : Nat) (vb vf : Value) (s e : Nat) (acc : List Pc) : PR → Ending → World → Prop
  | .ok x q => Gone w B r vb vf s e q (acc ++ [x])
  | .bad c a => Lost w B r c a

set_option maxHeartbeats 2000000 in
theorem take_any {w : World} {B r s p e : Nat} {vb vf : Value} {acc : List Pc} {b : List UInt8} {lo hi : Nat} (h : Rr w B r vb vf s p e acc) (hb : Sl w lo hi vb (iz b)) (he : e ≤ b.length) (q : Nat) (hpq : p ≤ q) (hl : acc.length + 1 ≤ 1000000) :
    Calls Tryz.prog 184 #[.pointer (some ⟨r, 0, none⟩), .int .i64 q] w (StepPost w B r vb vf s e acc (cutP b s e p q)) := by
  by_cases hq : e < q
  · have e1 : cutP b s e p q = .bad 4 s := by unfold cutP; rw [if_pos hq]
    rw [e1]
    have HR := Lib.hid (reach_no h q hq)
    go_enter Tryz.func184, Tryz.ntmps184
    go_wp2_with fail
    refine HR.out.mono ?_; rintro en w1 ⟨rfl, rfl⟩
    exact ⟨rfl, rfl, Aside.refl _ _⟩
  · have e1 : cutP b s e p q = .ok ((b.drop p).take (q - p), false) q := by unfold cutP; rw [if_neg hq]
    rw [e1]
    have HR := Lib.hid (reach_yes h q hq)
    obtain ⟨sv, hcut, hsl⟩ := cut_sl hb p q hpq (by omega)
    have hcv := conv_back (w := w.drew) (hsl.keep (w' := w.drew) fun _ _ _ _ => rfl)
    obtain ⟨x, hx⟩ : ∃ x, (b.drop p).take (q - p) = x := ⟨_, rfl⟩
    rw [hx] at hcv ⊢
    have HA := Lib.hid (show Calls Tryz.prog 188 #[.pointer (some ⟨r, 0, none⟩), .agg #[.string (bs x), .bool false], .int .i64 q] w.drew (Gone w.drew B r vb vf s e q (acc ++ [(x, false)])) from add_any (h.later (Below.refl _ w).drew) (x, false) q hl)
    have c0 := h.c0
    have c2 := h.c2
    clear hx hsl e1 hb h
    go_enter Tryz.func184, Tryz.ntmps184
    go_wp2_with fail
    refine HR.out.mono ?_; rintro en w1 ⟨rfl, rfl⟩
    go_wp2_with fail
    go_region_law (go_simp; go_at_call 188; refine HA.out.mono ?_; rintro en w2 ⟨rfl, hr2, ha2⟩; have HF := Lib.hid (And.intro hr2 ha2); clear hr2 ha2)
    all_goals
      try go_wp2_with fail
      go_end0
      exact ⟨rfl, HF.out.1, HF.out.2.of_drew⟩
end Go.Proofs.YteegekpanadmkaaGreat

/-
  A reader of data in memory: rest, fixed, name, texts.
-/
namespace Go.Proofs.YteegekpanadmkaaGreat
open Go.RowKit Go.Shelf
set_option linter.unusedVariables false
set_option linter.unusedSimpArgs false
set_option maxRecDepth 100000

set_option maxHeartbeats 1000000 in
theorem restR_any {w : World} {B r s p e : Nat} {vb vf : Value} {acc : List Pc} {b : List UInt8} {lo hi : Nat} {F : Nat → Got} (h : Rr w B r vb vf s p e acc) (hb : Sl w lo hi vb (iz b)) (he : e ≤ b.length) (hpe : p ≤ e) (hl : acc.length + 1 ≤ 1000000) :
    Calls Tryz.prog 177 #[.pointer (some ⟨r, 0, none⟩)] w (StepPost w B r vb vf s e acc (stepP F b s e p .rst)) := by
  have HT := Lib.hid (take_any h hb he e hpe hl)
  have c3 := h.c3
  simp only [stepP]
  unfold cutP at HT ⊢
  rw [if_neg (by omega)] at HT ⊢
  clear h hb
  go_enter Tryz.func177, Tryz.ntmps177
  go_wp2_with fail
  refine HT.out.mono ?_; rintro en w1 ⟨rfl, hr1, ha1⟩
  have HF := Lib.hid (And.intro hr1 ha1)
  clear hr1 ha1
  go_wp2_with fail
  go_end0
  exact ⟨rfl, HF.out⟩

set_option maxHeartbeats 1000000 in
theorem fixed_any (n : Int) (w : World) : Calls Tryz.prog 181 #[.int .i64 n] w fun e w' => e = .returned (.func (.func 186) #[] #[.pointer (some ⟨w.heap.size, 0, none⟩)]) ∧ w' = w.alloc (.cells #[.int .i64 n] 3) := by
  have hmf : ∀ (fn : Fn) (first cap : Array Value) (w : World), (Instr.makeFunc fn first cap).run Tryz.prog w = .ok (.func fn first cap) w := fun _ _ _ _ => rfl
  go_enter Tryz.func181, Tryz.ntmps181
  go_wp2
  go_ret
  exact ⟨rfl, rfl⟩

set_option maxHeartbeats 2000000 in
theorem fixedR_any {w : World} {B r s p e n g : Nat} {vb vf : Value} {acc : List Pc} {b : List UInt8} {lo hi : Nat} {F : Nat → Got} (h : Rr w B r vb vf s p e acc) (hb : Sl w lo hi vb (iz b)) (he : e ≤ b.length) (hpe : p ≤ e) (hn : n ≤ 1000000) (hbl : b.length ≤ 1000000) (hg : w.cell? ⟨g, 0, none⟩ = some (.int .i64 n)) (hl : acc.length + 1 ≤ 1000000) :
    Calls Tryz.prog 186 #[.pointer (some ⟨r, 0, none⟩), .pointer (some ⟨g, 0, none⟩)] w (StepPost w B r vb vf s e acc (stepP F b s e p (.fix n))) := by
  have HT0 := take_any (h.later (Below.refl _ w).drew) (hb.keep (w' := w.drew) fun _ _ _ _ => rfl) he (p + n) (by omega) hl
  have c2 := h.c2
  have es : stepP F b s e p (.fix n) = cutP b s e p (p + n) := rfl
  rw [es]
  have hw : IntKind.i64.wrap ((p : Int) + n) = ((p + n : Nat) : Int) := by rw [IntWalk.i64_in _ (by omega)]; push_cast; rfl
  obtain ⟨q, hpq⟩ : ∃ q, p + n = q := ⟨_, rfl⟩
  rw [hpq] at HT0 hw ⊢
  clear es hpq
  by_cases hq : e < q
  · have e1 : cutP b s e p q = .bad 4 s := by unfold cutP; rw [if_pos hq]
    rw [e1] at HT0 ⊢
    have HT := Lib.hid (show Calls Tryz.prog 184 #[.pointer (some ⟨r, 0, none⟩), .int .i64 q] w.drew (Lost w.drew B r 4 s) from HT0)
    clear h hb HT0 e1 hq
    go_enter Tryz.func186, Tryz.ntmps186
    go_wp2_with fail
    refine wp_region_any (by kernel_rfl) ?_
    change wpAny _ _ _ _ _ _ _ (World.drew _)
    refine wpAny_take (i := 0) (v := ?_) rfl (by kernel_rfl) (by kernel_rfl) (by kernel_rfl) (fun _ _ _ h => h) (Or.inl ⟨by rfl, ?_⟩) ?_
    rotate_left 1
    · intro w; go_simp; try (with_reducible rfl)
    refine wpAny_take (i := 1) (v := ?_) rfl (by kernel_rfl) (by kernel_rfl) (by kernel_rfl) (fun _ _ _ h => h) (Or.inl ⟨by rfl, ?_⟩) ?_
    rotate_left 1
    · intro w; go_simp; try (with_reducible rfl)
    refine wpAny_take (i := 2) (v := ?_) rfl (by kernel_rfl) (by kernel_rfl) (by kernel_rfl) (fun _ _ _ h => h) (Or.inl ⟨by rfl, ?_⟩) ?_
    rotate_left 1
    · intro w; go_simp; try (with_reducible rfl)
    refine wpAny_take (i := 3) (v := ?_) rfl (by kernel_rfl) (by kernel_rfl) (by kernel_rfl) (fun _ _ _ h => h) (Or.inl ⟨by rfl, ?_⟩) ?_
    rotate_left 1
    · intro w; go_simp; try (with_reducible rfl)
    refine wpAny_ready (rs := [4, 5]) (by kernel_rfl) (by simp) ?_
    refine AllReady.cons rfl (fun K hK => ?_) (AllReady.cons rfl (fun K hK => ?_) AllReady.nil)
    · go_simp
      refine hK _ _ ?_
      clear hK K
      refine wpAny_ready (rs := [5]) (by kernel_rfl) (by simp) ?_
      refine AllReady.cons rfl (fun K hK => ?_) AllReady.nil
      go_simp
      refine hK _ _ ?_
      clear hK K
      refine wpAny_take (i := 6) (v := ?_) rfl (by kernel_rfl) (by kernel_rfl) (by kernel_rfl) (fun _ _ _ h => h) (Or.inl ⟨by rfl, ?_⟩) ?_
      rotate_left 1
      · intro w; go_simp; try (with_reducible rfl)
      refine wpAny_ready (rs := [7]) (by kernel_rfl) (by simp) ?_
      refine AllReady.cons rfl (fun K hK => ?_) AllReady.nil
      go_simp
      refine HT.out.mono ?_
      rintro en w2 ⟨rfl, ha2⟩
      exact ⟨rfl, rfl, ha2.of_drew⟩
    · go_simp
      refine hK _ _ ?_
      clear hK K
      refine wpAny_ready (rs := [4]) (by kernel_rfl) (by simp) ?_
      refine AllReady.cons rfl (fun K hK => ?_) AllReady.nil
      go_simp
      refine hK _ _ ?_
      clear hK K
      refine wpAny_take (i := 6) (v := ?_) rfl (by kernel_rfl) (by kernel_rfl) (by kernel_rfl) (fun _ _ _ h => h) (Or.inl ⟨by rfl, ?_⟩) ?_
      rotate_left 1
      · intro w; go_simp; try (with_reducible rfl)
      refine wpAny_ready (rs := [7]) (by kernel_rfl) (by simp) ?_
      refine AllReady.cons rfl (fun K hK => ?_) AllReady.nil
      go_simp
      refine HT.out.mono ?_
      rintro en w2 ⟨rfl, ha2⟩
      exact ⟨rfl, rfl, ha2.of_drew⟩
  · obtain ⟨x, hx⟩ : ∃ x, cutP b s e p q = .ok x q := ⟨_, by unfold cutP; rw [if_neg hq]⟩
    rw [hx] at HT0 ⊢
    have HT := Lib.hid (show Calls Tryz.prog 184 #[.pointer (some ⟨r, 0, none⟩), .int .i64 q] w.drew (Gone w.drew B r vb vf s e q (acc ++ [x])) from HT0)
    clear h hb HT0 hx hq
    go_enter Tryz.func186, Tryz.ntmps186
    go_wp2_with fail
    go_region_law (go_simp; go_at_call 184; refine HT.out.mono ?_; rintro en w2 ⟨rfl, hr2, ha2⟩; have HF := Lib.hid (And.intro hr2 ha2); clear hr2 ha2)
    all_goals
      try go_wp2_with fail
      go_end0
      exact ⟨rfl, HF.out.1, HF.out.2.of_drew⟩
end Go.Proofs.YteegekpanadmkaaGreat

/-
  A reader of data in memory: name.
-/
namespace Go.Proofs.YteegekpanadmkaaGreat
open Go.RowKit Go.Shelf
set_option linter.unusedVariables false
set_option linter.unusedSimpArgs false
set_option maxRecDepth 100000

/-- How names are read: F tells it of the function value vf, wherever a reader goes from w on. -/
def FindOk (w : World) (B r f : Nat) (vb : Value) (F : Nat → Got) : Prop := ∀ wx, Aside (RG B r) w wx → ∀ p : Nat, Calls Tryz.prog f #[vb, .int .i64 p] wx (Tells wx (gotV (F p)))

theorem FindOk.later {w w' : World} {B r f : Nat} {vb : Value} {F : Nat → Got} (h : FindOk w B r f vb F) (ha : Aside (RG B r) w w') : FindOk w' B r f vb F := fun wx hx p => h wx (ha.trans hx) p

/-- What was made ahead of a call is as it was, behind it. -/
theorem aft_alloc {w w2 : World} (hb : Below (w.drew.alloc (.cells #[.int .i64 0, .int .i64 0] 42)).heap.size (w.drew.alloc (.cells #[.int .i64 0, .int .i64 0] 42)) w2) :
    w2.cell? ⟨w.heap.size, 0, none⟩ = some (.int .i64 0) ∧ w2.cell? ⟨w.heap.size, 1, none⟩ = some (.int .i64 0) ∧ w2.frozen? ⟨w.heap.size, 0, none⟩ = false ∧ w2.frozen? ⟨w.heap.size, 1, none⟩ = false := by
  have hlt : w.heap.size < (w.drew.alloc (.cells #[.int .i64 0, .int .i64 0] 42)).heap.size := by rw [World.size_alloc]; exact Nat.lt_succ_self _
  refine ⟨(hb.cell (p := ⟨w.heap.size, 0, none⟩) hlt).trans (by simp [go_sem]), (hb.cell (p := ⟨w.heap.size, 1, none⟩) hlt).trans (by simp [go_sem]), (hb.frozen (p := ⟨w.heap.size, 0, none⟩) hlt).trans (by simp [go_sem]), (hb.frozen (p := ⟨w.heap.size, 1, none⟩) hlt).trans (by simp [go_sem])⟩

theorem bel_set2 {w w2 : World} {g : Nat} (hb : Below w.heap.size w w2) (hg : w.heap.size ≤ g) (x y : Value) : Below w.heap.size w ((w2.setCell ⟨g, 0, none⟩ x).setCell ⟨g, 1, none⟩ y) :=
  (hb.setCell (p := ⟨g, 0, none⟩) hg x).setCell (p := ⟨g, 1, none⟩) hg y

set_option maxHeartbeats 4000000 in
theorem nameR_read {w : World} {B r s p e : Nat} {vb : Value} {acc : List Pc} {b : List UInt8} {F : Nat → Got} (h : Rr w B r vb (.func (.func 135) #[] #[]) s p e acc) (hF : FindOk w B r 135 vb F) (hp : p ≤ 1000000) (hl : acc.length + 1 ≤ 1000000) :
    Calls Tryz.prog 182 #[.pointer (some ⟨r, 0, none⟩)] w (StepPost w B r vb (.func (.func 135) #[] #[]) s e acc (stepP F b s e p .nam)) := by
  have c2 := h.c2
  have hw : IntKind.i64.wrap ((p : Int) + 1) = ((p + 1 : Nat) : Int) := by rw [IntWalk.i64_in _ (by omega)]; push_cast; rfl
  have hP := Lib.hid (show stepP F b s e p .nam = if e < p + 1 then .bad 4 s else if (F p).2.2.1 ≠ 0 then .bad (F p).2.2.1 (F p).2.2.2 else if e < (F p).2.1 then .bad 4 s else .ok ((F p).1, true) (F p).2.1 from rfl)
  by_cases hq : e < p + 1
  · have e1 := hP.out
    rw [if_pos hq] at e1
    rw [e1]
    have HR := Lib.hid (reach_no h (p + 1) hq)
    push_cast at HR
    clear h hq e1 hP hw
    go_enter Tryz.func182, Tryz.ntmps182
    go_wp2_with fail
    refine HR.out.mono ?_; rintro en w1 ⟨rfl, rfl⟩
    exact ⟨rfl, rfl, Aside.refl _ _⟩
  · have HR := Lib.hid (reach_yes h (p + 1) hq)
    have HF := Lib.hid (fun wx (hb : Below w.heap.size w wx) => hF wx (Aside.of_all hb) p)
    have HH := Lib.hid h
    have e1 := hP.out
    rw [if_neg hq] at e1
    rw [e1]
    push_cast at HR
    obtain ⟨N, hN⟩ : ∃ N, (F p).1 = N := ⟨_, rfl⟩
    obtain ⟨E, hE⟩ : ∃ E, (F p).2.1 = E := ⟨_, rfl⟩
    obtain ⟨C, hC⟩ : ∃ C, (F p).2.2.1 = C := ⟨_, rfl⟩
    obtain ⟨A, hA⟩ : ∃ A, (F p).2.2.2 = A := ⟨_, rfl⟩
    unfold gotV at HF
    rw [hN, hE, hC, hA] at HF
    rw [hN, hE, hC, hA]
    have c0 := h.c0
    have c4 := h.c4
    obtain ⟨X, hX⟩ : ∃ X, (if C ≠ 0 then PR.bad C A else if e < E then PR.bad 4 s else PR.ok (N, true) E) = X := ⟨_, rfl⟩
    rw [hX]
    have HX := Lib.hid hX
    clear h hq e1 hP hw hF hN hE hC hA hX
    go_enter Tryz.func182, Tryz.ntmps182
    go_wp2_with fail
    refine HR.out.mono ?_; rintro en w1 ⟨rfl, rfl⟩
    go_wp2_with fail
    have HK := Lib.hid (fun wx (hb : Below w.heap.size w wx) => show wx.cell? ⟨r, 0, none⟩ = some vb ∧ wx.cell? ⟨r, 2, none⟩ = some (.int .i64 p) ∧ wx.cell? ⟨r, 4, none⟩ = some (.func (.func 135) #[] #[]) from ⟨cell_later hb c0, cell_later hb c2, cell_later hb c4⟩)
    have hrl := HH.out.rlt
    go_region_held3 (fun wx => wx.cell? ⟨r, 0, none⟩ = some vb ∧ wx.cell? ⟨r, 2, none⟩ = some (.int .i64 p) ∧ wx.cell? ⟨r, 4, none⟩ = some (.func (.func 135) #[] #[])) (first | exact HK.out _ (Below.refl _ w).drew | exact HK.out _ (((Below.refl _ w).drew).alloc (Nat.le_refl _) _) | exact HK.out _ HBW.out | exact HK.out _ (bel_alloc HBW.out _) | exact HK.out _ (bel_set2 HBW.out (Nat.le_refl _) _ _) | exact HK.out _ (bel_set2 (bel_alloc HBW.out _) HBW.out.size _ _)) (first | (go_at_call 135; refine (HF.out _ (by first | exact (Below.refl _ w).drew | exact ((Below.refl _ w).drew).alloc (Nat.le_refl _) _)).mono ?_; rintro en w2 ⟨rfl, hb2⟩; have HBW : Hid (Below w.heap.size w w2) := (by first | exact bel_call (Below.refl _ w).drew hb2 | exact bel_call (((Below.refl _ w).drew).alloc (Nat.le_refl _) _) hb2); try (obtain ⟨k0, k1, kf0, kf1⟩ := aft_alloc hb2); clear hb2))
    · have HB3 : Hid (Below w.heap.size w (w2.alloc (.cells #[.int .i64 C, .int .i64 A] 42))) := bel_alloc HBW.out _
      have HR3 := Lib.hid (HH.out.later HB3.out)
      by_cases hC : C = 0
      · subst hC
        by_cases hEe : e < E
        · obtain rfl : X = .bad 4 s := by rw [← HX.out, if_neg (by simp), if_pos hEe]
          have HRn := Lib.hid (reach_no HR3.out E hEe)
          clear HX HF HK c0 c2 c4
          go_wp2_with fail
          refine HRn.out.mono ?_; rintro en w4 ⟨rfl, rfl⟩
          exact ⟨rfl, rfl, Aside.of_all HB3.out⟩
        · obtain rfl : X = .ok (N, true) E := by rw [← HX.out, if_neg (by simp), if_neg hEe]
          have HRy := Lib.hid (reach_yes HR3.out E hEe)
          have HAd := Lib.hid (show Calls Tryz.prog 188 #[.pointer (some ⟨r, 0, none⟩), .agg #[.string (bs N), .bool true], .int .i64 E] _ _ from add_any HR3.out (N, true) E hl)
          clear HX HF HK c0 c2 c4
          go_wp2_with fail
          refine HRy.out.mono ?_; rintro en w4 ⟨rfl, rfl⟩
          go_wp2_with fail
          refine HAd.out.mono ?_; rintro en w4 ⟨rfl, hr4, ha4⟩
          have HFin := Lib.hid (And.intro hr4 ((Aside.of_all HB3.out).trans ha4))
          clear hr4 ha4
          go_wp2_with fail
          go_end0
          exact ⟨rfl, HFin.out⟩
      · obtain rfl : X = .bad C A := by rw [← HX.out, if_pos hC]
        have tC : (C != 0) = true := by simpa using hC
        clear HX HF HK c0 c2 c4
        go_wp2_with fail
        exact ⟨rfl, rfl, Aside.of_all HB3.out⟩
    · have HB3 : Hid (Below w.heap.size w ((w2.setCell ⟨w.heap.size, 0, none⟩ (.int .i64 C)).setCell ⟨w.heap.size, 1, none⟩ (.int .i64 A))) := bel_set2 HBW.out (Nat.le_refl _) _ _
      have HR3 := Lib.hid (HH.out.later HB3.out)
      by_cases hC : C = 0
      · subst hC
        by_cases hEe : e < E
        · obtain rfl : X = .bad 4 s := by rw [← HX.out, if_neg (by simp), if_pos hEe]
          have HRn := Lib.hid (reach_no HR3.out E hEe)
          clear HX HF HK c0 c2 c4
          go_wp2_with fail
          refine HRn.out.mono ?_; rintro en w4 ⟨rfl, rfl⟩
          exact ⟨rfl, rfl, Aside.of_all HB3.out⟩
        · obtain rfl : X = .ok (N, true) E := by rw [← HX.out, if_neg (by simp), if_neg hEe]
          have HRy := Lib.hid (reach_yes HR3.out E hEe)
          have HAd := Lib.hid (show Calls Tryz.prog 188 #[.pointer (some ⟨r, 0, none⟩), .agg #[.string (bs N), .bool true], .int .i64 E] _ _ from add_any HR3.out (N, true) E hl)
          clear HX HF HK c0 c2 c4
          go_wp2_with fail
          refine HRy.out.mono ?_; rintro en w4 ⟨rfl, rfl⟩
          go_wp2_with fail
          refine HAd.out.mono ?_; rintro en w4 ⟨rfl, hr4, ha4⟩
          have HFin := Lib.hid (And.intro hr4 ((Aside.of_all HB3.out).trans ha4))
          clear hr4 ha4
          go_wp2_with fail
          go_end0
          exact ⟨rfl, HFin.out⟩
      · obtain rfl : X = .bad C A := by rw [← HX.out, if_pos hC]
        have tC : (C != 0) = true := by simpa using hC
        clear HX HF HK c0 c2 c4
        go_wp2_with fail
        exact ⟨rfl, rfl, Aside.of_all HB3.out⟩

set_option maxHeartbeats 4000000 in
theorem nameR_plain {w : World} {B r s p e : Nat} {vb : Value} {acc : List Pc} {b : List UInt8} {F : Nat → Got} (h : Rr w B r vb (.func (.func 171) #[] #[]) s p e acc) (hF : FindOk w B r 171 vb F) (hp : p ≤ 1000000) (hl : acc.length + 1 ≤ 1000000) :
    Calls Tryz.prog 182 #[.pointer (some ⟨r, 0, none⟩)] w (StepPost w B r vb (.func (.func 171) #[] #[]) s e acc (stepP F b s e p .nam)) := by
  have c2 := h.c2
  have hw : IntKind.i64.wrap ((p : Int) + 1) = ((p + 1 : Nat) : Int) := by rw [IntWalk.i64_in _ (by omega)]; push_cast; rfl
  have hP := Lib.hid (show stepP F b s e p .nam = if e < p + 1 then .bad 4 s else if (F p).2.2.1 ≠ 0 then .bad (F p).2.2.1 (F p).2.2.2 else if e < (F p).2.1 then .bad 4 s else .ok ((F p).1, true) (F p).2.1 from rfl)
  by_cases hq : e < p + 1
  · have e1 := hP.out
    rw [if_pos hq] at e1
    rw [e1]
    have HR := Lib.hid (reach_no h (p + 1) hq)
    push_cast at HR
    clear h hq e1 hP hw
    go_enter Tryz.func182, Tryz.ntmps182
    go_wp2_with fail
    refine HR.out.mono ?_; rintro en w1 ⟨rfl, rfl⟩
    exact ⟨rfl, rfl, Aside.refl _ _⟩
  · have HR := Lib.hid (reach_yes h (p + 1) hq)
    have HF := Lib.hid (fun wx (hb : Below w.heap.size w wx) => hF wx (Aside.of_all hb) p)
    have HH := Lib.hid h
    have e1 := hP.out
    rw [if_neg hq] at e1
    rw [e1]
    push_cast at HR
    obtain ⟨N, hN⟩ : ∃ N, (F p).1 = N := ⟨_, rfl⟩
    obtain ⟨E, hE⟩ : ∃ E, (F p).2.1 = E := ⟨_, rfl⟩
    obtain ⟨C, hC⟩ : ∃ C, (F p).2.2.1 = C := ⟨_, rfl⟩
    obtain ⟨A, hA⟩ : ∃ A, (F p).2.2.2 = A := ⟨_, rfl⟩
    unfold gotV at HF
    rw [hN, hE, hC, hA] at HF
    rw [hN, hE, hC, hA]
    have c0 := h.c0
    have c4 := h.c4
    obtain ⟨X, hX⟩ : ∃ X, (if C ≠ 0 then PR.bad C A else if e < E then PR.bad 4 s else PR.ok (N, true) E) = X := ⟨_, rfl⟩
    rw [hX]
    have HX := Lib.hid hX
    clear h hq e1 hP hw hF hN hE hC hA hX
    go_enter Tryz.func182, Tryz.ntmps182
    go_wp2_with fail
    refine HR.out.mono ?_; rintro en w1 ⟨rfl, rfl⟩
    go_wp2_with fail
    have HK := Lib.hid (fun wx (hb : Below w.heap.size w wx) => show wx.cell? ⟨r, 0, none⟩ = some vb ∧ wx.cell? ⟨r, 2, none⟩ = some (.int .i64 p) ∧ wx.cell? ⟨r, 4, none⟩ = some (.func (.func 171) #[] #[]) from ⟨cell_later hb c0, cell_later hb c2, cell_later hb c4⟩)
    have hrl := HH.out.rlt
    go_region_held3 (fun wx => wx.cell? ⟨r, 0, none⟩ = some vb ∧ wx.cell? ⟨r, 2, none⟩ = some (.int .i64 p) ∧ wx.cell? ⟨r, 4, none⟩ = some (.func (.func 171) #[] #[])) (first | exact HK.out _ (Below.refl _ w).drew | exact HK.out _ (((Below.refl _ w).drew).alloc (Nat.le_refl _) _) | exact HK.out _ HBW.out | exact HK.out _ (bel_alloc HBW.out _) | exact HK.out _ (bel_set2 HBW.out (Nat.le_refl _) _ _) | exact HK.out _ (bel_set2 (bel_alloc HBW.out _) HBW.out.size _ _)) (first | (go_at_call 171; refine (HF.out _ (by first | exact (Below.refl _ w).drew | exact ((Below.refl _ w).drew).alloc (Nat.le_refl _) _)).mono ?_; rintro en w2 ⟨rfl, hb2⟩; have HBW : Hid (Below w.heap.size w w2) := (by first | exact bel_call (Below.refl _ w).drew hb2 | exact bel_call (((Below.refl _ w).drew).alloc (Nat.le_refl _) _) hb2); try (obtain ⟨k0, k1, kf0, kf1⟩ := aft_alloc hb2); clear hb2))
    · have HB3 : Hid (Below w.heap.size w (w2.alloc (.cells #[.int .i64 C, .int .i64 A] 42))) := bel_alloc HBW.out _
      have HR3 := Lib.hid (HH.out.later HB3.out)
      by_cases hC : C = 0
      · subst hC
        by_cases hEe : e < E
        · obtain rfl : X = .bad 4 s := by rw [← HX.out, if_neg (by simp), if_pos hEe]
          have HRn := Lib.hid (reach_no HR3.out E hEe)
          clear HX HF HK c0 c2 c4
          go_wp2_with fail
          refine HRn.out.mono ?_; rintro en w4 ⟨rfl, rfl⟩
          exact ⟨rfl, rfl, Aside.of_all HB3.out⟩
        · obtain rfl : X = .ok (N, true) E := by rw [← HX.out, if_neg (by simp), if_neg hEe]
          have HRy := Lib.hid (reach_yes HR3.out E hEe)
          have HAd := Lib.hid (show Calls Tryz.prog 188 #[.pointer (some ⟨r, 0, none⟩), .agg #[.string (bs N), .bool true], .int .i64 E] _ _ from add_any HR3.out (N, true) E hl)
          clear HX HF HK c0 c2 c4
          go_wp2_with fail
          refine HRy.out.mono ?_; rintro en w4 ⟨rfl, rfl⟩
          go_wp2_with fail
          refine HAd.out.mono ?_; rintro en w4 ⟨rfl, hr4, ha4⟩
          have HFin := Lib.hid (And.intro hr4 ((Aside.of_all HB3.out).trans ha4))
          clear hr4 ha4
          go_wp2_with fail
          go_end0
          exact ⟨rfl, HFin.out⟩
      · obtain rfl : X = .bad C A := by rw [← HX.out, if_pos hC]
        have tC : (C != 0) = true := by simpa using hC
        clear HX HF HK c0 c2 c4
        go_wp2_with fail
        exact ⟨rfl, rfl, Aside.of_all HB3.out⟩
    · have HB3 : Hid (Below w.heap.size w ((w2.setCell ⟨w.heap.size, 0, none⟩ (.int .i64 C)).setCell ⟨w.heap.size, 1, none⟩ (.int .i64 A))) := bel_set2 HBW.out (Nat.le_refl _) _ _
      have HR3 := Lib.hid (HH.out.later HB3.out)
      by_cases hC : C = 0
      · subst hC
        by_cases hEe : e < E
        · obtain rfl : X = .bad 4 s := by rw [← HX.out, if_neg (by simp), if_pos hEe]
          have HRn := Lib.hid (reach_no HR3.out E hEe)
          clear HX HF HK c0 c2 c4
          go_wp2_with fail
          refine HRn.out.mono ?_; rintro en w4 ⟨rfl, rfl⟩
          exact ⟨rfl, rfl, Aside.of_all HB3.out⟩
        · obtain rfl : X = .ok (N, true) E := by rw [← HX.out, if_neg (by simp), if_neg hEe]
          have HRy := Lib.hid (reach_yes HR3.out E hEe)
          have HAd := Lib.hid (show Calls Tryz.prog 188 #[.pointer (some ⟨r, 0, none⟩), .agg #[.string (bs N), .bool true], .int .i64 E] _ _ from add_any HR3.out (N, true) E hl)
          clear HX HF HK c0 c2 c4
          go_wp2_with fail
          refine HRy.out.mono ?_; rintro en w4 ⟨rfl, rfl⟩
          go_wp2_with fail
          refine HAd.out.mono ?_; rintro en w4 ⟨rfl, hr4, ha4⟩
          have HFin := Lib.hid (And.intro hr4 ((Aside.of_all HB3.out).trans ha4))
          clear hr4 ha4
          go_wp2_with fail
          go_end0
          exact ⟨rfl, HFin.out⟩
      · obtain rfl : X = .bad C A := by rw [← HX.out, if_pos hC]
        have tC : (C != 0) = true := by simpa using hC
        clear HX HF HK c0 c2 c4
        go_wp2_with fail
        exact ⟨rfl, rfl, Aside.of_all HB3.out⟩
end Go.Proofs.YteegekpanadmkaaGreat
