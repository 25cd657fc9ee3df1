/-
  What is told of a tail; what is learnt.
-/
import Derived.Test.YtaikpgcmcmkdcaaKm
namespace Go.Proofs.Ytaikpgcmcmkdcaa
open Go.RowKit Go.Shelf
set_option linter.unusedVariables false
set_option maxRecDepth 100000

/-- A row of new memory is told. -/
def RestPost (w : World) (l : List UInt8) (e : Ending) (w' : World) : Prop := ∃ v, e = .returned v ∧ OwnB w' w.heap.size v l ∧ Below w.heap.size w w'

theorem pb_put {x : Nat} (hx : x < 16384) : putL2 (49152 + x) = iz (pb x) ∧ putE 65535 (49152 + x) = 0 := by
  refine ⟨?_, by unfold putE; rw [if_pos (by omega)]⟩
  unfold putL2 pb iz
  rw [if_pos (by omega)]
  simp only [List.map_cons, List.map_nil, UInt8.toNat_ofNat']
  congr 1
  · omega
  · congr 1
    omega

set_option maxHeartbeats 1000000 in
theorem rest_any {w : World} {p bm e : Nat} {K : List (List UInt8 × Nat)} (h : Pk w p bm K e) (hG : GoodK K) (t : List UInt8) (ht : t.length ≤ 1000) :
    Calls Try.prog 61 #[.pointer (some ⟨p, 0, none⟩), .string (bs t)] w (RestPost w (restb K t)) := by
  have hlk := h.map.look t (by omega)
  have c1 := h.tails
  rcases hpl : plc K t with _ | x
  · rw [hpl] at hlk
    simp only [Option.isSome_none, Option.getD_none] at hlk
    have he : restb K t = t := by unfold restb; rw [hpl]
    rw [he]
    obtain ⟨cap, W, hcv, ho, hb, _⟩ := conv_B w t (by omega)
    have HO := Lib.hid ho
    have HB := Lib.hid hb
    clear ho hb he hpl
    go_enter Try.func61, Try.ntmps61
    go_wp2_with fail
    go_ret
    exact ⟨_, rfl, HO.out, HB.out⟩
  · have hx := good_lt hG hpl
    rw [hpl] at hlk
    simp only [Option.isSome_some, Option.getD_some] at hlk
    have he : restb K t = pb x := by unfold restb; rw [hpl]
    rw [he]
    have HP := Lib.hid (put16_any (49152 + x) w)
    rw [(pb_put hx).1, (pb_put hx).2] at HP
    clear he hpl
    go_enter Try.func61, Try.ntmps61
    go_wp2_with fail
    refine HP.out.mono ?_; rintro e w1 ⟨v, g, rfl, ho, hg, _, hb⟩
    have HO := Lib.hid ((OwnB.of_own ho (by simp [pb])).mono hg)
    have HB := Lib.hid hb
    clear ho hg hb
    go_wp2_with fail
    go_ret
    exact ⟨_, rfl, HO.out, HB.out⟩

/-- What learn leaves. -/
def LearnPost (w : World) (p bm : Nat) (K : List (List UInt8 × Nat)) (e : Nat) (x : Ending) (w' : World) : Prop := x = .returned (.tuple #[]) ∧ Pk w' p bm K e ∧ Aside (fun b => b = bm) w w'

set_option maxRecDepth 100000 in
set_option maxHeartbeats 1000000 in
theorem learn_any {w : World} {p bm e : Nat} {K : List (List UInt8 × Nat)} (h : Pk w p bm K e) {ls : List (List UInt8)} (hs : Shorts ls) (a : Nat) (ha : a ≤ 65535) (d : Nat) (hd : d ≤ hdn K ls) (hK : K.length ≤ 900000) :
    Calls Try.prog 62 #[.pointer (some ⟨p, 0, none⟩), .int .i64 a, .string (bs (nm ls)), .int .i64 (pos ls d)] w (LearnPost w p bm (K ++ fr a ls d) e) := by
  have hnl : (nm ls).length ≤ 255 := by rw [nm_len]; have := hs.2; omega
  have HC := Lib.hid (clone_any (bs (nm ls)) (by rw [bs_size]; omega))
  have HP := Lib.hid h
  have hdl := Nat.le_trans hd (hdn_le K ls)
  have hlw := len_wire ls
  obtain ⟨D, hD⟩ : ∃ D, pos ls d = D := ⟨_, rfl⟩
  rw [hD]
  have HD := Lib.hid hD
  clear h hD
  go_enter Try.func62, Try.ntmps62
  go_wp2_with fail
  refine (HC.out _).mono ?_; rintro e0 w1 ⟨rfl, hb⟩
  have HP1 := Lib.hid (HP.out.later hb)
  have HA1 := Lib.hid (show Aside (fun b => b = bm) w w1 from (Aside.of_all (G := fun b => b = bm) hb))
  clear hb
  go_wp2
  go_loopg [9] d (fun g v9 wr => ∃ k : Nat, k + g = d ∧ v9 = .int .i64 (pos ls k) ∧ Hid (Pk wr p bm (K ++ fr a ls k) e) ∧ Hid (Aside (fun b => b = bm) w wr))
  case atStart => exact ⟨0, by omega, by rw [pos_zero]; rfl, by rw [fr_zero, List.append_nil]; exact HP1, HA1⟩
  case round =>
    obtain ⟨k, hk, rfl, HPk, HA⟩ := hrel
    clear HP HP1 HA1 HC
    by_cases hlt : k < d
    · obtain ⟨hp, hat⟩ := nm_at (show k < ls.length by omega) hs.1
      have hix := ix_run (nm ls) (pos ls k) hp
      have hfr := from_run (nm ls) (pos ls k) (by omega)
      rw [hat] at hix
      rw [nm_drop] at hfr
      have hps := pos_succ (show k < ls.length by omega)
      have hmo := pos_mono ls (show k + 1 ≤ d by omega)
      have hple := pos_le ls d
      rw [HD.out] at hmo hple
      rw [nm_len] at hnl hp
      have hc63 := hs.1 ls[k] (List.getElem_mem (by omega))
      by_cases hf : a + pos ls k < 16384
      · obtain ⟨w2, hst, hTm, hgw⟩ := (HPk.out.map.aside (w' := wr.drew) (G := fun _ => False) (Aside.drewN wr 1) (fun h => h)).store (nm (ls.drop k)) (by rw [← nm_drop, List.length_drop, nm_len]; omega) (fr_fresh (by omega) (hdn_none (by omega))) (a + pos ls k) (by omega) (by rw [List.length_append]; have := fr_len ls a k; omega)
        have hfs := fr_succ ls a k (by omega)
        rw [if_pos hf] at hfs
        rw [List.append_assoc, ← hfs] at hTm
        have ha2 : Aside (fun b => b = bm) wr w2 := (Aside.drewN wr 1).trans (Aside.grown hgw (fun k h => by cases h; rfl))
        have HA2 := Lib.hid (HA.out.trans ha2)
        have HPk2 := Lib.hid (show Pk w2 p bm (K ++ fr a ls (k + 1)) e from ⟨ha2.cell_lt HPk.out.self HPk.out.ne, ha2.cell_lt HPk.out.tails HPk.out.ne, ha2.cell_lt HPk.out.fin HPk.out.ne, fun j => (ha2.frozen (p := ⟨p, j, none⟩) HPk.out.lt HPk.out.ne).trans (HPk.out.free j), HPk.out.ne, hTm⟩)
        have c1 := HPk.out.tails
        obtain ⟨c, hc⟩ : ∃ c, ls[k].length = c := ⟨_, rfl⟩
        obtain ⟨q, hq⟩ : ∃ q, pos ls k = q := ⟨_, rfl⟩
        obtain ⟨T, hT⟩ : ∃ T, nm (ls.drop k) = T := ⟨_, rfl⟩
        rw [hc] at hix hc63 hps
        rw [hq] at hix hfr hps hp hf hst ⊢
        rw [hT] at hfr hst
        push_cast at hst
        have t1 : q < D := by omega
        have HQ := Lib.hid (show (q : Int) + (1 + c) = (pos ls (k + 1) : Nat) by rw [hps]; push_cast; rfl)
        have hqb : q ≤ 255 := by omega
        clear hTm hgw hfs ha2 hc hT hps hq
        go_wp2_with fail
        go_region
        go_wp2_with fail
        go_roundg (d - (k + 1))
        case measure => omega
        case rel => exact ⟨k + 1, by omega, by rw [← HQ.out], HPk2, HA2⟩
      · have HE := Lib.hid (show fr a ls d = fr a ls k from fr_stop (by omega) d (by omega) hdl)
        obtain ⟨q, hq⟩ : ∃ q, pos ls k = q := ⟨_, rfl⟩
        rw [hq] at hf hps ⊢
        have t1 : q < D := by omega
        have t2 : ¬ ((a : Int) + q < 16384) := by omega
        have hqb : q ≤ 255 := by omega
        clear hix hfr hat hp hps hmo hple hq
        go_wp2_with fail
        go_end0
        exact ⟨rfl, by rw [HE.out]; exact HPk.out, HA.out⟩
    · have hkd : k = d := by omega
      subst hkd
      rw [HD.out]
      go_wp2_with fail
      go_end0
      exact ⟨rfl, HPk.out, HA.out⟩
end Go.Proofs.Ytaikpgcmcmkdcaa
