/-
  The document's bytes of a head.
-/
import Derived.Test.YtknfgcmidpgifaaGreatDoorZ08
import Derived.Test.YtknfgcmidpgifaaGreatDoorRows
import Derived.Test.YtknfgcmidpgifaaGreatDoorZ02
import Derived.SizedLaws
import Derived.HandedShaped
import Derived.LaidLaws
import Derived.Lay
import Derived.Lib.LaidU8T
import Derived.PinnedBridge
import Derived.Shelf.Vars
import Derived.Stop.Joined
import Derived.Test.YtknfgcmidpgifaaGreatDoorZ06
import Derived.Deep.SlicePairs
namespace Go.Proofs.YtknfgcmidpgifaaGreatDoor
open Go.RowKit Go.Shelf
set_option linter.unusedVariables false
set_option linter.unusedSimpArgs false
set_option maxRecDepth 100000

theorem adds_run (a b : List UInt8) (ha : a.length ≤ 1000000) (hb : b.length ≤ 1000000) (w : World) : (Op.stringOp .add (bs a) (bs b)).run Tryz.prog w = .ok (.string (bs (a ++ b))) w := by
  have h1 := bs_size a
  have h2 := bs_size b
  rw [run_string_add_sum w _ _ (by omega)]
  congr 2
theorem flat_step (l : List Fd) (k : Nat) (hk : k < l.length) : ((l.take (k + 1)).flatMap pcF).flatten = ((l.take k).flatMap pcF).flatten ++ (l[k].1 ++ ([58, 32] ++ (l[k].2 ++ crlf))) := by
  rw [pcF_step l k hk, List.flatten_append]
  simp [pcF]
theorem flat_take_len (l : List Fd) (k : Nat) : ((l.take k).flatMap pcF).flatten.length ≤ (l.flatMap pcF).flatten.length := by
  conv => rhs; rw [← List.take_append_drop k l, List.flatMap_append, List.flatten_append, List.length_append]
  omega

def RbPost (w : World) (b : List UInt8) (e : Ending) (w' : World) : Prop := ∃ v, e = .returned v ∧ OwnB w' w.heap.size v b ∧ Below w.heap.size w w'

set_option maxHeartbeats 8000000 in
theorem rbytes_any {w : World} {hi : Nat} {u : Value} {h : Hd} (hh : Hv w hi u h) (h1 : hi ≤ w.heap.size) (hv : h.v = 0 ∨ h.v = 1) (hl : (wrH h).length ≤ 900000) :
    Calls Tryz.prog 34 #[u] w (RbPost w (wrH h)) := by
  have hwr : wrH h = (h.m ++ [32] ++ h.t ++ htp ++ dgt h.v ++ crlf) ++ (h.fs.flatMap pcF).flatten ++ crlf := by
    unfold wrH; rw [pcs_eq, List.flatten_append, List.flatten_append]; unfold pc0; simp
  obtain ⟨T, hT⟩ : ∃ T, wrH h = T := ⟨_, rfl⟩
  rw [hT] at hl hwr ⊢
  obtain ⟨m, t, v, l⟩ := h
  obtain ⟨sl, rfl, hs0⟩ := hh
  simp only at hs0 hv hwr ⊢
  clear hT
  have HIT := Lib.hid (itoa_any v hv)
  obtain ⟨a, c, rfl⟩ := Lst.shape hs0
  obtain ⟨N, hN⟩ : ∃ N, w.heap.size = N := ⟨_, rfl⟩
  have hb0 : Below w.heap.size w (w.alloc (.cells #[.string (bs m), .string (bs t), .int .i64 v, .slice a l.length c] 24)) := (Below.refl _ _).alloc (Nat.le_refl _) _
  have hx := cel_new4 w (.string (bs m)) (.string (bs t)) (.int .i64 v) (.slice a l.length c) 24
  have HS := Lib.hid (show SF _ hi _ l from Lst.below hs0 hb0 h1)
  rw [hN] at hx hb0 h1
  have HB0 := Lib.hid hb0
  have HX := Lib.hid hx
  have hsz : (w.alloc (.cells #[.string (bs m), .string (bs t), .int .i64 v, .slice a l.length c] 24)).heap.size = N + 1 := by simp [hN]
  obtain ⟨W, hW⟩ : ∃ W, w.alloc (.cells #[.string (bs m), .string (bs t), .int .i64 v, .slice a l.length c] 24) = W := ⟨_, rfl⟩
  rw [hW] at HB0 HX HS hsz
  have HSZ := Lib.hid hsz
  have HH := Lib.hid h1
  -- what is put together, part by part
  have hTl : T.length = (m ++ [32] ++ t ++ htp ++ dgt v ++ crlf).length + (l.flatMap pcF).flatten.length + 2 := by rw [hwr, List.length_append, List.length_append]; rfl
  have hlm : (m ++ [32] ++ t ++ htp ++ dgt v ++ crlf).length = m.length + t.length + 12 := by simp [htp, crlf, dgt_len]; omega
  have HLN := Lib.hid (show l.length ≤ 900000 from by have := pc_sum l; omega)
  have r1 : ∀ w, (Op.stringOp .add (bs m) ⟨#[32]⟩).run Tryz.prog w = .ok (.string (bs (m ++ [32]))) w := fun w => adds_run m [32] (by omega) (by simp) w
  obtain ⟨s1, e1⟩ : ∃ s, m ++ [32] = s := ⟨_, rfl⟩
  have l1 : s1.length = m.length + 1 := by rw [← e1]; simp
  rw [e1] at r1
  have r2 : ∀ w, (Op.stringOp .add (bs s1) (bs t)).run Tryz.prog w = .ok (.string (bs (s1 ++ t))) w := fun w => adds_run s1 t (by omega) (by omega) w
  obtain ⟨s2, e2⟩ : ∃ s, s1 ++ t = s := ⟨_, rfl⟩
  have l2 : s2.length = s1.length + t.length := by rw [← e2]; simp
  rw [e2] at r2
  have r3 : ∀ w, (Op.stringOp .add (bs s2) ⟨#[32, 72, 84, 84, 80, 47, 49, 46]⟩).run Tryz.prog w = .ok (.string (bs (s2 ++ htp))) w := fun w => adds_run s2 htp (by omega) (by decide) w
  obtain ⟨s3, e3⟩ : ∃ s, s2 ++ htp = s := ⟨_, rfl⟩
  have l3 : s3.length = s2.length + 8 := by rw [← e3]; simp [htp]
  rw [e3] at r3
  have r4 : ∀ w, (Op.stringOp .add (bs s3) (bs (dgt v))).run Tryz.prog w = .ok (.string (bs (s3 ++ dgt v))) w := fun w => adds_run s3 (dgt v) (by omega) (by rw [dgt_len]; omega) w
  obtain ⟨s4, e4⟩ : ∃ s, s3 ++ dgt v = s := ⟨_, rfl⟩
  have l4 : s4.length = s3.length + 1 := by rw [← e4]; simp [dgt_len]
  rw [e4] at r4
  have r5 : ∀ w, (Op.stringOp .add (bs s4) ⟨#[13, 10]⟩).run Tryz.prog w = .ok (.string (bs (s4 ++ crlf))) w := fun w => adds_run s4 crlf (by omega) (by decide) w
  obtain ⟨s5, e5⟩ : ∃ s, s4 ++ crlf = s := ⟨_, rfl⟩
  rw [e5] at r5
  have HW5 := Lib.hid (show T = s5 ++ (l.flatMap pcF).flatten ++ crlf by rw [hwr, ← e5, ← e4, ← e3, ← e2, ← e1])
  have HT := Lib.hid hl
  obtain ⟨c0, c1, c2, c3⟩ := HX.out.four
  clear hs0 hb0 hx hsz h1 hv hwr hTl hlm e1 e2 e3 e4 e5 l1 l2 l3 l4 hl
  go_enter Tryz.func34, Tryz.ntmps34
  go_wp2_with fail
  go_quiet ((go_at_call 67; exact Calls.quiet_of_same (HIT.out _)))
  have HBQ := Lib.hid (fun n => below_drewN (Below.refl W.heap.size W) n)
  clear r1 r2 r3 r4 r5 c0 c1 c2 c3
  go_wp2_with fail
  go_loopg [3, 4] l.length (fun n v3 v4 wr => ∃ (k : Nat) (S : List UInt8), k + n = l.length ∧ v4 = .int .i64 k ∧ v3 = .string (bs S) ∧ Hid (s5 ++ ((l.take k).flatMap pcF).flatten = S) ∧ Hid (Below W.heap.size W wr))
  case atStart => exact ⟨0, s5, by omega, rfl, rfl, Lib.hid (by simp), HBQ.out _⟩
  case round =>
    clear HBQ
    obtain ⟨k, S, hk, rfl, rfl, HQ, HB⟩ := hrel
    have hkb : k ≤ 900000 := by have := HLN.out; omega
    obtain ⟨c0, c1, c2, c3⟩ := (HX.out.below (by simp) HB.out).four
    by_cases hlt : k < l.length
    · obtain ⟨b, off, c2', he, hb, hc⟩ := HS.out.at_ k hlt
      injection he with he hn3 hc3
      clear hn3 hc3
      subst he
      obtain ⟨p0, p1⟩ := hc.keep fun o => HB.out.cell (p := ⟨b, o, none⟩) (by have := HSZ.out; have := HH.out; show b < W.heap.size; omega)
      have hvs := flat_step l k hlt
      have htl : (s5 ++ ((l.take (k + 1)).flatMap pcF).flatten).length ≤ 900000 := by
        have h5 := HT.out
        rw [HW5.out, List.length_append, List.length_append] at h5
        have := flat_take_len l (k + 1)
        rw [List.length_append]
        omega
      rw [hvs, ← List.append_assoc, HQ.out] at htl
      obtain ⟨x, hx⟩ : ∃ x, l[k] = x := ⟨_, rfl⟩
      rw [hx] at p0 p1 hvs htl
      have hlen : (S ++ (x.1 ++ ([58, 32] ++ (x.2 ++ crlf)))).length = S.length + x.1.length + x.2.length + 4 := by simp [crlf]; omega
      rw [hlen] at htl
      have r1 : ∀ w, (Op.stringOp .add (bs S) (bs x.1)).run Tryz.prog w = .ok (.string (bs (S ++ x.1))) w := fun w => adds_run S x.1 (by omega) (by omega) w
      obtain ⟨s1, e1⟩ : ∃ s, S ++ x.1 = s := ⟨_, rfl⟩
      have l1 : s1.length = S.length + x.1.length := by rw [← e1]; simp
      rw [e1] at r1
      have r2 : ∀ w, (Op.stringOp .add (bs s1) ⟨#[58, 32]⟩).run Tryz.prog w = .ok (.string (bs (s1 ++ [58, 32]))) w := fun w => adds_run s1 [58, 32] (by omega) (by simp) w
      obtain ⟨s2, e2⟩ : ∃ s, s1 ++ [58, 32] = s := ⟨_, rfl⟩
      have l2 : s2.length = s1.length + 2 := by rw [← e2]; simp
      rw [e2] at r2
      have r3 : ∀ w, (Op.stringOp .add (bs s2) (bs x.2)).run Tryz.prog w = .ok (.string (bs (s2 ++ x.2))) w := fun w => adds_run s2 x.2 (by omega) (by omega) w
      obtain ⟨s3, e3⟩ : ∃ s, s2 ++ x.2 = s := ⟨_, rfl⟩
      have l3 : s3.length = s2.length + x.2.length := by rw [← e3]; simp
      rw [e3] at r3
      have r4 : ∀ w, (Op.stringOp .add (bs s3) ⟨#[13, 10]⟩).run Tryz.prog w = .ok (.string (bs (s3 ++ crlf))) w := fun w => adds_run s3 crlf (by omega) (by decide) w
      obtain ⟨s4, e4⟩ : ∃ s, s3 ++ crlf = s := ⟨_, rfl⟩
      rw [e4] at r4
      have HVS := Lib.hid (show s5 ++ ((l.take (k + 1)).flatMap pcF).flatten = s4 by
        rw [hvs, ← List.append_assoc, HQ.out, ← e4, ← e3, ← e2, ← e1]; simp)
      have HB2 := Lib.hid (fun n => below_drewN HB.out n)
      clear hvs hc hx hb HB htl hlen e1 e2 e3 e4 l1 l2 l3
      go_wp2_with fail
      go_quiet (fail)
      go_wp2_with fail
      go_roundg (l.length - (k + 1))
      case measure => omega
      case rel => exact ⟨k + 1, s4, by omega, by go_num, rfl, HVS, HB2.out _⟩
    · have t1 : ¬ ((k : Int) < l.length) := by omega
      have hte : T = S ++ crlf := by rw [HW5.out, ← HQ.out, List.take_of_length_le (by omega)]
      have hsl : S.length + 2 = T.length := by rw [hte]; simp [crlf]
      have hT9 := HT.out
      have r1 : ∀ w, (Op.stringOp .add (bs S) ⟨#[13, 10]⟩).run Tryz.prog w = .ok (.string (bs (S ++ crlf))) w := fun w => adds_run S crlf (by omega) (by decide) w
      rw [← hte] at r1
      obtain ⟨cap, X, hcv, ho, hbX, _⟩ := conv_B wr T (by omega)
      have HOX := Lib.hid (ho.mono (B' := w.heap.size) (by have := HB.out.size; rw [hN]; have := HSZ.out; omega))
      have HBX := Lib.hid (show Below w.heap.size w X from by
        rw [hN]
        exact HB0.out.trans ((bel_call HB.out hbX).mono (by have := HSZ.out; omega)))
      clear ho hbX hte hsl hT9
      go_wp2_with fail
      go_ret
      exact ⟨.slice (some ⟨wr.heap.size, 0, none⟩) T.length cap, rfl, HOX.out, HBX.out⟩
end Go.Proofs.YtknfgcmidpgifaaGreatDoor

/-
  The document's Check, Write.
-/
namespace Go.Proofs.YtknfgcmidpgifaaGreatDoor
open Go.RowKit Go.Shelf
set_option linter.unusedVariables false
set_option linter.unusedSimpArgs false
set_option maxRecDepth 100000

theorem tgtL_D (s : List UInt8) : tgtL s = (tgtD s && decide (s.length ≤ 2048)) := by
  by_cases h : s.length ≤ 2048
  · rw [decide_eq_true h, Bool.and_true, tgt_eq s h]
  · rw [decide_eq_false h, Bool.and_false]
    unfold tgtL
    rw [decide_eq_false h]
    simp
/-- A head that is not long. -/
theorem short_of {h : Hd} (hl : longH h = false) : h.m.length ≤ 6000 ∧ h.t.length ≤ 6000 ∧ h.fs.length ≤ 60 ∧ szF h.fs ≤ 6000 := by
  unfold longH longF at hl
  simp only [Bool.or_eq_false_iff, decide_eq_false_iff_not] at hl
  omega
theorem short_len {h : Hd} (hl : longH h = false) : (wrH h).length ≤ 900000 := by
  have := short_of hl
  rw [wrH_len]; omega
theorem short_mem {h : Hd} (hl : longH h = false) : ∀ x ∈ h.fs, x.1.length ≤ 6000 ∧ x.2.length ≤ 6000 := fun x hx => by
  have h1 := szF_mem hx
  have h2 := (short_of hl).2.2.2
  omega
theorem short_fits {h : Hd} (hl : longH h = false) : Fits h := ⟨by have := (short_of hl).2.2.1; omega, fun x hx => by have := short_mem hl x hx; omega⟩
theorem short_big {h : Hd} (hl : longH h = false) : Big h := ⟨by have := (short_of hl).1; omega, by have := (short_of hl).2.1; omega, fun x hx => by have := short_mem hl x hx; omega⟩

set_option maxHeartbeats 8000000 in
theorem rcheck_any {w : World} {hi : Nat} {u : Value} {h : Hd} (hh : Hv w hi u h) (h1 : hi ≤ w.heap.size) (hsh : longH h = false) :
    Calls Tryz.prog 16 #[u] w (Tells w (.int .i64 (chkH h))) := by
  obtain ⟨m, t, v, l⟩ := h
  have HH := Lib.hid hh
  obtain ⟨sl, rfl, hs0⟩ := hh
  have HSH := Lib.hid hsh
  simp only at hs0
  obtain ⟨a, c, rfl⟩ := Lst.shape hs0
  have hb0 : Below w.heap.size w (w.alloc (.cells #[.string (bs m), .string (bs t), .int .i64 v, .slice a l.length c] 24)) := (Below.refl _ _).alloc (Nat.le_refl _) _
  have hx := cel_new4 w (.string (bs m)) (.string (bs t)) (.int .i64 v) (.slice a l.length c) 24
  have hv0 : Hv (w.alloc (.cells #[.string (bs m), .string (bs t), .int .i64 v, .slice a l.length c] 24)) (w.alloc (.cells #[.string (bs m), .string (bs t), .int .i64 v, .slice a l.length c] 24)).heap.size (.agg #[.string (bs m), .string (bs t), .int .i64 v, .slice a l.length c]) ⟨m, t, v, l⟩ := ((HH.out.wide h1).later hb0)
  obtain ⟨N, hN⟩ : ∃ N, w.heap.size = N := ⟨_, rfl⟩
  rw [hN] at hx
  have HB0 := Lib.hid hb0
  have HX0 := Lib.hid hx
  obtain ⟨W, hW⟩ : ∃ W, w.alloc (.cells #[.string (bs m), .string (bs t), .int .i64 v, .slice a l.length c] 24) = W := ⟨_, rfl⟩
  rw [hW] at HB0 HX0 hv0
  have HD0 := Lib.hid (Below.refl W.heap.size W)
  have HV0 := Lib.hid hv0
  have hso := short_of hsh
  simp only at hso
  have HSM := Lib.hid (short_mem hsh)
  have HWD := Lib.hid (rword_any m 16 (by omega) (by omega) W)
  have HTG := Lib.hid (fun w => rtarget_any t (by omega) w)
  have HC := Lib.hid (show chkH ⟨m, t, v, l⟩ = if (wordL m 16 && ((tgtD t && decide (t.length ≤ 2048)) && ((v == 0 || v == 1) && (decide (l.length ≤ 32) && (l.all (fun f => wordL f.1 64 && valL f.2) && (hostL l v && decide ((wrH ⟨m, t, v, l⟩).length ≤ 4096))))))) = true then 0 else 2 by rw [← tgtL_D]; rfl)
  obtain ⟨B1, hB1⟩ : ∃ B, wordL m 16 = B := ⟨_, rfl⟩
  obtain ⟨B2, hB2⟩ : ∃ B, tgtD t = B := ⟨_, rfl⟩
  rw [hB1] at HWD
  simp only [hB2] at HTG
  rw [hB1, hB2] at HC
  obtain ⟨R, hR⟩ : ∃ R, chkH ⟨m, t, v, l⟩ = R := ⟨_, rfl⟩
  rw [hR] at HC ⊢
  have hl60 : l.length ≤ 60 := hso.2.2.1
  obtain ⟨c0, c1, c2, c3⟩ := HX0.out.four
  clear hs0 hb0 hx hv0 hB1 hB2 hR hso
  cases B1 with
  | false =>
    have HR := Lib.hid (show R = 2 from HC.out.trans (if_neg (by simp)))
    clear HC
    go_enter Tryz.func16, Tryz.ntmps16
    go_wp2_with fail
    refine (HWD.out).mono ?_; rintro e w1 ⟨rfl, hb1⟩
    have HD1 := Lib.hid (bel_call HD0.out hb1)
    have HX1 := Lib.hid (HX0.out.below (by simp) hb1)
    have HV1 := Lib.hid (HV0.out.later hb1)
    clear hb1
    clear c0 c1 c2 c3
    obtain ⟨c0, c1, c2, c3⟩ := HX1.out.four
    go_wp2_with fail
    go_ret
    exact ⟨by rw [HR.out]; rfl, HB0.out.trans (HD1.out.mono HB0.out.size)⟩
  | true =>
    cases B2 with
    | false =>
      have HR := Lib.hid (show R = 2 from HC.out.trans (if_neg (by simp)))
      clear HC
      go_enter Tryz.func16, Tryz.ntmps16
      go_wp2_with fail
      refine (HWD.out).mono ?_; rintro e w1 ⟨rfl, hb1⟩
      have HD1 := Lib.hid (bel_call HD0.out hb1)
      have HX1 := Lib.hid (HX0.out.below (by simp) hb1)
      have HV1 := Lib.hid (HV0.out.later hb1)
      clear hb1
      clear c0 c1 c2 c3
      obtain ⟨c0, c1, c2, c3⟩ := HX1.out.four
      go_wp2_with fail
      refine (HTG.out _).mono ?_; rintro e w2 ⟨rfl, hb2⟩
      have HD2 := Lib.hid (bel_call HD1.out hb2)
      have HX2 := Lib.hid (HX1.out.below (by simp) hb2)
      have HV2 := Lib.hid (HV1.out.later hb2)
      clear hb2
      clear c0 c1 c2 c3
      obtain ⟨c0, c1, c2, c3⟩ := HX2.out.four
      go_wp2_with fail
      go_ret
      exact ⟨by rw [HR.out]; rfl, HB0.out.trans (HD2.out.mono HB0.out.size)⟩
    | true =>
      by_cases h2 : t.length ≤ 2048
      · have t2 : ¬ ((2048 : Int) < t.length) := by omega
        have HC1 := Lib.hid (show R = if ((v == 0 || v == 1) && (decide (l.length ≤ 32) && (l.all (fun f => wordL f.1 64 && valL f.2) && (hostL l v && decide ((wrH ⟨m, t, v, l⟩).length ≤ 4096))))) = true then 0 else 2 by rw [HC.out, decide_eq_true h2]; rfl)
        clear HC h2
        by_cases h3 : v < 0
        · have HR := Lib.hid (show R = 2 from HC1.out.trans (if_neg (by simp; omega)))
          clear HC1
          go_enter Tryz.func16, Tryz.ntmps16
          go_wp2_with fail
          refine (HWD.out).mono ?_; rintro e w1 ⟨rfl, hb1⟩
          have HD1 := Lib.hid (bel_call HD0.out hb1)
          have HX1 := Lib.hid (HX0.out.below (by simp) hb1)
          have HV1 := Lib.hid (HV0.out.later hb1)
          clear hb1
          clear c0 c1 c2 c3
          obtain ⟨c0, c1, c2, c3⟩ := HX1.out.four
          go_wp2_with fail
          refine (HTG.out _).mono ?_; rintro e w2 ⟨rfl, hb2⟩
          have HD2 := Lib.hid (bel_call HD1.out hb2)
          have HX2 := Lib.hid (HX1.out.below (by simp) hb2)
          have HV2 := Lib.hid (HV1.out.later hb2)
          clear hb2
          clear c0 c1 c2 c3
          obtain ⟨c0, c1, c2, c3⟩ := HX2.out.four
          go_wp2_with fail
          go_ret
          exact ⟨by rw [HR.out]; rfl, HB0.out.trans (HD2.out.mono HB0.out.size)⟩
        · by_cases h4 : 1 < v
          · have HR := Lib.hid (show R = 2 from HC1.out.trans (if_neg (by simp; omega)))
            clear HC1
            go_enter Tryz.func16, Tryz.ntmps16
            go_wp2_with fail
            refine (HWD.out).mono ?_; rintro e w1 ⟨rfl, hb1⟩
            have HD1 := Lib.hid (bel_call HD0.out hb1)
            have HX1 := Lib.hid (HX0.out.below (by simp) hb1)
            have HV1 := Lib.hid (HV0.out.later hb1)
            clear hb1
            clear c0 c1 c2 c3
            obtain ⟨c0, c1, c2, c3⟩ := HX1.out.four
            go_wp2_with fail
            refine (HTG.out _).mono ?_; rintro e w2 ⟨rfl, hb2⟩
            have HD2 := Lib.hid (bel_call HD1.out hb2)
            have HX2 := Lib.hid (HX1.out.below (by simp) hb2)
            have HV2 := Lib.hid (HV1.out.later hb2)
            clear hb2
            clear c0 c1 c2 c3
            obtain ⟨c0, c1, c2, c3⟩ := HX2.out.four
            go_wp2_with fail
            go_ret
            exact ⟨by rw [HR.out]; rfl, HB0.out.trans (HD2.out.mono HB0.out.size)⟩
          · have H3 := Lib.hid (show v = 0 ∨ v = 1 by omega)
            have h3' : (v == 0 || v == 1) = true := by rcases H3.out with rfl | rfl <;> rfl
            have HC2 := Lib.hid (show R = if (decide (l.length ≤ 32) && (l.all (fun f => wordL f.1 64 && valL f.2) && (hostL l v && decide ((wrH ⟨m, t, v, l⟩).length ≤ 4096)))) = true then 0 else 2 by rw [HC1.out, h3']; rfl)
            clear h3' HC1
            by_cases h5 : l.length ≤ 32
            · have t5 : ¬ ((32 : Int) < l.length) := by omega
              have HC3 := Lib.hid (show R = if (l.all (fun f => wordL f.1 64 && valL f.2) && (hostL l v && decide ((wrH ⟨m, t, v, l⟩).length ≤ 4096))) = true then 0 else 2 by rw [HC2.out, decide_eq_true h5]; rfl)
              clear HC2
              go_enter Tryz.func16, Tryz.ntmps16
              go_wp2_with fail
              refine (HWD.out).mono ?_; rintro e w1 ⟨rfl, hb1⟩
              have HD1 := Lib.hid (bel_call HD0.out hb1)
              have HX1 := Lib.hid (HX0.out.below (by simp) hb1)
              have HV1 := Lib.hid (HV0.out.later hb1)
              clear hb1
              clear c0 c1 c2 c3
              obtain ⟨c0, c1, c2, c3⟩ := HX1.out.four
              go_wp2_with fail
              refine (HTG.out _).mono ?_; rintro e w2 ⟨rfl, hb2⟩
              have HD2 := Lib.hid (bel_call HD1.out hb2)
              have HX2 := Lib.hid (HX1.out.below (by simp) hb2)
              have HV2 := Lib.hid (HV1.out.later hb2)
              clear hb2
              clear c0 c1 c2 c3
              obtain ⟨c0, c1, c2, c3⟩ := HX2.out.four
              go_wp2_with fail
              clear c0 c1 c2 c3
              go_loopg [3] l.length (fun n v3 wr => ∃ k : Nat, k + n = l.length ∧ v3 = .int .i64 k ∧ Hid ((l.take k).all (fun f => wordL f.1 64 && valL f.2) = true) ∧ Hid (Below w2.heap.size w2 wr))
              case atStart => exact ⟨0, by omega, rfl, Lib.hid rfl, Lib.hid (Below.refl _ _)⟩
              case round =>
                obtain ⟨k, hk, rfl, HA, HB⟩ := hrel
                have HXr := Lib.hid (HX2.out.below (by simp) HB.out)
                have HVr := Lib.hid (HV2.out.later HB.out)
                have HDr := Lib.hid (bel_call HD2.out HB.out)
                obtain ⟨c0, c1, c2, c3⟩ := HXr.out.four
                by_cases hlt : k < l.length
                · obtain ⟨b, off, c2', he, hb, hc⟩ := HVr.out.sf.at_ k hlt
                  injection he with he hn3 hc3
                  clear hn3 hc3
                  subst he
                  have HAT := Lib.hid (And.intro hc (show b < wr.heap.size from hb))
                  obtain ⟨p0, p1⟩ := hc
                  have htk : l.take (k + 1) = l.take k ++ [l[k]] := by rw [List.take_add_one, List.getElem?_eq_getElem hlt]; rfl
                  have HAY := Lib.hid (show (wordL l[k].1 64 && valL l[k].2) = true → (l.take (k + 1)).all (fun f => wordL f.1 64 && valL f.2) = true from fun h => by rw [htk, List.all_append, HA.out]; simpa using h)
                  have HAN := Lib.hid (show (wordL l[k].1 64 && valL l[k].2) = false → l.all (fun f => wordL f.1 64 && valL f.2) = false from fun h => by
                    rw [← Bool.not_eq_true, List.all_eq_true]
                    intro h2
                    have h3 := h2 _ (List.getElem_mem hlt)
                    rw [h] at h3; cases h3)
                  have hsm := HSM.out l[k] (List.getElem_mem hlt)
                  obtain ⟨x, hx⟩ : ∃ x, l[k] = x := ⟨_, rfl⟩
                  rw [hx] at p0 p1 HAY HAN hsm HAT
                  have HW6 := Lib.hid (rword_any x.1 64 (by omega) (by omega) wr)
                  have HV6 := Lib.hid (fun w => rvalue_any x.2 (by omega) w)
                  obtain ⟨K1, hK1⟩ : ∃ K, wordL x.1 64 = K := ⟨_, rfl⟩
                  obtain ⟨K2, hK2⟩ : ∃ K, valL x.2 = K := ⟨_, rfl⟩
                  rw [hK1] at HW6 HAY HAN
                  rw [hK2] at HAY HAN
                  simp only [hK2] at HV6
                  clear hx htk hK1 hK2 hsm hb
                  cases K1 with
                  | false =>
                    have HR := Lib.hid (show R = 2 by rw [HC3.out, HAN.out rfl]; rfl)
                    go_wp2_with fail
                    refine (HW6.out).mono ?_; rintro e w5 ⟨rfl, hb5⟩
                    have HD5 := Lib.hid (bel_call HDr.out hb5)
                    clear hb5 c0 c1 c2 c3 p0 p1
                    go_wp2_with fail
                    go_ret
                    exact ⟨by rw [HR.out]; rfl, HB0.out.trans (HD5.out.mono HB0.out.size)⟩
                  | true =>
                    go_wp2_with fail
                    refine (HW6.out).mono ?_; rintro e w5 ⟨rfl, hb5⟩
                    have HD5 := Lib.hid (bel_call HDr.out hb5)
                    have HB5 := Lib.hid (bel_call HB.out hb5)
                    obtain ⟨q0, q1⟩ := HAT.out.1.keep fun o => hb5.cell (p := ⟨b, o, none⟩) HAT.out.2
                    have HX5 := Lib.hid (HXr.out.below (by simp) hb5)
                    clear hb5 c0 c1 c2 c3 p0 p1
                    obtain ⟨c0, c1, c2, c3⟩ := HX5.out.four
                    go_wp2_with fail
                    refine (HV6.out _).mono ?_; rintro e w6 ⟨rfl, hb6⟩
                    have HD6 := Lib.hid (bel_call HD5.out hb6)
                    have HB6 := Lib.hid (bel_call HB5.out hb6)
                    clear hb6 c0 c1 c2 c3 q0 q1
                    cases K2 with
                    | false =>
                      have HR := Lib.hid (show R = 2 by rw [HC3.out, HAN.out rfl]; rfl)
                      go_wp2_with fail
                      go_ret
                      exact ⟨by rw [HR.out]; rfl, HB0.out.trans (HD6.out.mono HB0.out.size)⟩
                    | true =>
                      have HAA := Lib.hid (HAY.out rfl)
                      go_wp2_with fail
                      go_roundg (l.length - (k + 1))
                      case measure => omega
                      case rel => exact ⟨k + 1, by omega, by go_num, HAA, HB6⟩
                · have t1 : ¬ ((k : Int) < l.length) := by omega
                  have HC4 := Lib.hid (show R = if (hostL l v && decide ((wrH ⟨m, t, v, l⟩).length ≤ 4096)) = true then 0 else 2 by
                    have h5 := HA.out
                    rw [List.take_of_length_le (by omega)] at h5
                    rw [HC3.out, h5]; rfl)
                  have HHO := Lib.hid (rhosts_any HVr.out (Nat.le_refl _) (short_fits HSH.out))
                  obtain ⟨K6, hK6⟩ : ∃ K, hostL l v = K := ⟨_, rfl⟩
                  rw [hK6] at HC4
                  simp only [hK6] at HHO
                  clear hK6 HC3
                  go_wp2_with fail
                  refine (HHO.out).mono ?_; rintro e w5 ⟨rfl, hb5⟩
                  have HD5 := Lib.hid (bel_call HDr.out hb5)
                  have HX5 := Lib.hid (HXr.out.below (by simp) hb5)
                  have HV5 := Lib.hid (HVr.out.later hb5)
                  clear hb5 c0 c1 c2 c3
                  cases K6 with
                  | false =>
                    have HR := Lib.hid (show R = 2 from HC4.out.trans (if_neg (by simp)))
                    go_wp2_with fail
                    go_ret
                    exact ⟨by rw [HR.out]; rfl, HB0.out.trans (HD5.out.mono HB0.out.size)⟩
                  | true =>
                    have HC5 := Lib.hid (show R = if (decide ((wrH ⟨m, t, v, l⟩).length ≤ 4096)) = true then 0 else 2 from HC4.out)
                    obtain ⟨c0, c1, c2, c3⟩ := HX5.out.four
                    have HBY := Lib.hid (rbytes_any HV5.out (Nat.le_refl _) H3.out (short_len HSH.out))
                    obtain ⟨Z, hZ⟩ : ∃ Z, wrH ⟨m, t, v, l⟩ = Z := ⟨_, rfl⟩
                    rw [hZ] at HBY HC5
                    clear hZ HC4
                    go_wp2_with fail
                    refine (HBY.out).mono ?_; rintro e w6 ⟨v6, rfl, ho6, hb6⟩
                    obtain ⟨a6, c6, rfl⟩ := OwnB.shape ho6
                    have HD6 := Lib.hid (bel_call HD5.out hb6)
                    clear hb6 ho6 c0 c1 c2 c3
                    by_cases h7 : Z.length ≤ 4096
                    · have HR := Lib.hid (show R = 0 by rw [HC5.out, decide_eq_true h7]; rfl)
                      have t7 : ¬ ((4096 : Int) < Z.length) := by omega
                      go_wp2_with fail
                      go_ret
                      exact ⟨by rw [HR.out]; rfl, HB0.out.trans (HD6.out.mono HB0.out.size)⟩
                    · have HR := Lib.hid (show R = 2 by rw [HC5.out, decide_eq_false h7]; rfl)
                      have t7 : (4096 : Int) < Z.length := by omega
                      go_wp2_with fail
                      go_ret
                      exact ⟨by rw [HR.out]; rfl, HB0.out.trans (HD6.out.mono HB0.out.size)⟩
            · have HR := Lib.hid (show R = 2 from HC2.out.trans (if_neg (by simp; omega)))
              have t5 : (32 : Int) < l.length := by omega
              clear HC2
              go_enter Tryz.func16, Tryz.ntmps16
              go_wp2_with fail
              refine (HWD.out).mono ?_; rintro e w1 ⟨rfl, hb1⟩
              have HD1 := Lib.hid (bel_call HD0.out hb1)
              have HX1 := Lib.hid (HX0.out.below (by simp) hb1)
              have HV1 := Lib.hid (HV0.out.later hb1)
              clear hb1
              clear c0 c1 c2 c3
              obtain ⟨c0, c1, c2, c3⟩ := HX1.out.four
              go_wp2_with fail
              refine (HTG.out _).mono ?_; rintro e w2 ⟨rfl, hb2⟩
              have HD2 := Lib.hid (bel_call HD1.out hb2)
              have HX2 := Lib.hid (HX1.out.below (by simp) hb2)
              have HV2 := Lib.hid (HV1.out.later hb2)
              clear hb2
              clear c0 c1 c2 c3
              obtain ⟨c0, c1, c2, c3⟩ := HX2.out.four
              go_wp2_with fail
              go_ret
              exact ⟨by rw [HR.out]; rfl, HB0.out.trans (HD2.out.mono HB0.out.size)⟩
      · have t2 : (2048 : Int) < t.length := by omega
        have HR := Lib.hid (show R = 2 by rw [HC.out, decide_eq_false h2]; rfl)
        clear HC h2
        go_enter Tryz.func16, Tryz.ntmps16
        go_wp2_with fail
        refine (HWD.out).mono ?_; rintro e w1 ⟨rfl, hb1⟩
        have HD1 := Lib.hid (bel_call HD0.out hb1)
        have HX1 := Lib.hid (HX0.out.below (by simp) hb1)
        have HV1 := Lib.hid (HV0.out.later hb1)
        clear hb1
        clear c0 c1 c2 c3
        obtain ⟨c0, c1, c2, c3⟩ := HX1.out.four
        go_wp2_with fail
        refine (HTG.out _).mono ?_; rintro e w2 ⟨rfl, hb2⟩
        have HD2 := Lib.hid (bel_call HD1.out hb2)
        have HX2 := Lib.hid (HX1.out.below (by simp) hb2)
        have HV2 := Lib.hid (HV1.out.later hb2)
        clear hb2
        clear c0 c1 c2 c3
        obtain ⟨c0, c1, c2, c3⟩ := HX2.out.four
        go_wp2_with fail
        go_ret
        exact ⟨by rw [HR.out]; rfl, HB0.out.trans (HD2.out.mono HB0.out.size)⟩

set_option maxHeartbeats 2000000 in
theorem rwrite_any {w : World} {hi : Nat} {u : Value} {h : Hd} (hh : Hv w hi u h) (h1 : hi ≤ w.heap.size) (hsh : longH h = false) :
    Calls Tryz.prog 13 #[u] w (WrPost w h) := by
  obtain ⟨m, t, v, l⟩ := h
  have HH := Lib.hid hh
  obtain ⟨sl, rfl, hs0⟩ := hh
  simp only at hs0
  obtain ⟨a, c, rfl⟩ := Lst.shape hs0
  have hb0 : Below w.heap.size w (w.alloc (.cells #[.string (bs m), .string (bs t), .int .i64 v, .slice a l.length c] 24)) := (Below.refl _ _).alloc (Nat.le_refl _) _
  have hx := cel_new4 w (.string (bs m)) (.string (bs t)) (.int .i64 v) (.slice a l.length c) 24
  have hv0 : Hv (w.alloc (.cells #[.string (bs m), .string (bs t), .int .i64 v, .slice a l.length c] 24)) (w.alloc (.cells #[.string (bs m), .string (bs t), .int .i64 v, .slice a l.length c] 24)).heap.size (.agg #[.string (bs m), .string (bs t), .int .i64 v, .slice a l.length c]) ⟨m, t, v, l⟩ := ((HH.out.wide h1).later hb0)
  obtain ⟨N, hN⟩ : ∃ N, w.heap.size = N := ⟨_, rfl⟩
  rw [hN] at hx
  have HB0 := Lib.hid hb0
  have HX0 := Lib.hid hx
  obtain ⟨W, hW⟩ : ∃ W, w.alloc (.cells #[.string (bs m), .string (bs t), .int .i64 v, .slice a l.length c] 24) = W := ⟨_, rfl⟩
  rw [hW] at HB0 HX0 hv0
  have HV0 := Lib.hid hv0
  have HCK := Lib.hid (rcheck_any hv0 (Nat.le_refl _) hsh)
  have HMP := Lib.hid (fun hm => mayH_parts (h := ⟨m, t, v, l⟩) hm)
  have HCD := Lib.hid (show chkH ⟨m, t, v, l⟩ = if mayH ⟨m, t, v, l⟩ = true then 0 else 2 from rfl)
  unfold WrPost
  obtain ⟨B, hB⟩ : ∃ B, mayH ⟨m, t, v, l⟩ = B := ⟨_, rfl⟩
  rw [hB] at HMP HCD ⊢
  rw [HCD.out] at HCK ⊢
  obtain ⟨c0, c1, c2, c3⟩ := HX0.out.four
  clear hs0 hb0 hx hv0 hB
  cases B with
  | false =>
    have HCK : Hid (Calls Tryz.prog 16 #[.agg #[.string (bs m), .string (bs t), .int .i64 v, .slice a l.length c]] W (Tells W (.int .i64 2))) := HCK
    go_enter Tryz.func13, Tryz.ntmps13
    go_wp2_with fail
    refine (HCK.out).mono ?_; rintro e w1 ⟨rfl, hb1⟩
    have HB1 := Lib.hid (HB0.out.trans (hb1.mono HB0.out.size))
    clear hb1
    go_wp2_with fail
    go_ret2
    exact ⟨_, rfl, OwnB.nil _ _, by rw [← hN]; exact HB1.out⟩
  | true =>
    have HV3 := Lib.hid (HMP.out rfl).2.1
    have HCK : Hid (Calls Tryz.prog 16 #[.agg #[.string (bs m), .string (bs t), .int .i64 v, .slice a l.length c]] W (Tells W (.int .i64 0))) := HCK
    go_enter Tryz.func13, Tryz.ntmps13
    go_wp2_with fail
    refine (HCK.out).mono ?_; rintro e w1 ⟨rfl, hb1⟩
    have HB1 := Lib.hid (HB0.out.trans (hb1.mono HB0.out.size))
    have HV1 := Lib.hid (HV0.out.later hb1)
    have HX1 := Lib.hid (HX0.out.below (by simp) hb1)
    clear hb1 c0 c1 c2 c3
    obtain ⟨c0, c1, c2, c3⟩ := HX1.out.four
    have HPC := Lib.hid (rbytes_any HV1.out (Nat.le_refl _) HV3.out (short_len hsh))
    go_wp2_with fail
    refine (HPC.out).mono ?_; rintro e w2 ⟨v2, rfl, ho2, hb2⟩
    have HB2 := Lib.hid (HB1.out.trans (hb2.mono HB1.out.size))
    have HO2 := Lib.hid (ho2.mono HB1.out.size)
    clear hb2 ho2 c0 c1 c2 c3
    go_wp2_with fail
    go_ret2
    exact ⟨_, rfl, by simp only [if_true]; rw [← hN]; exact HO2.out, by rw [← hN]; exact HB2.out⟩
end Go.Proofs.YtknfgcmidpgifaaGreatDoor

/-
  The statement HeadWrites.
-/
namespace Go.Proofs.YtknfgcmidpgifaaGreatDoor
open Go.RowKit Go.Shelf
set_option linter.unusedVariables false
set_option linter.unusedSimpArgs false
set_option maxRecDepth 100000

theorem OwnF.asideG {w w' : World} {B : Nat} {v : Value} {l : List Fd} {G : Nat → Prop} (h : OwnF w B v l) (ha : Aside G w w') (hG : ∀ b, v.ownBlock = some b → ¬ G b) : OwnF w' B v l := row_aside h ha hG
theorem OwnF.lt {w : World} {B : Nat} {v : Value} {l : List Fd} (h : OwnF w B v l) : ∀ k, v.ownBlock = some k → B ≤ k ∧ k < w.heap.size := World.ownsRow.lt h
theorem short_mayR {h : Hd} (hl : longH h = false) : (if mayH h = true then wrH h else []).length ≤ 900000 := by
  split
  · exact short_len hl
  · simp

set_option maxHeartbeats 16000000 in
theorem writes_law {w : World} {hi : Nat} {u : Value} {h : Hd} (hh : Hv w hi u h) (h1 : hi ≤ w.heap.size) (hm : Mem h) (hE : Env w) :
    Calls Tryz.prog 3 #[u] w (Tells w (.bool true)) := by
  obtain ⟨m, t, v, l⟩ := h
  have HH := Lib.hid (And.intro hh h1)
  have HE := Lib.hid hE
  obtain ⟨sl, rfl, hs0⟩ := hh
  simp only at hs0
  obtain ⟨a, c, rfl⟩ := Lst.shape hs0
  have hb0 : Below w.heap.size w (w.alloc (.cells #[.string (bs m), .string (bs t), .int .i64 v, .slice a l.length c] 24)) := (Below.refl _ _).alloc (Nat.le_refl _) _
  have hx := cel_new4 w (.string (bs m)) (.string (bs t)) (.int .i64 v) (.slice a l.length c) 24
  obtain ⟨N, hN⟩ : ∃ N, w.heap.size = N := ⟨_, rfl⟩
  rw [hN] at hx
  have HB0 := Lib.hid hb0
  have HX0 := Lib.hid hx
  have hz : (w.alloc (.cells #[.string (bs m), .string (bs t), .int .i64 v, .slice a l.length c] 24)).heap.size = N + 1 := by simp [hN]
  obtain ⟨W, hW⟩ : ∃ W, w.alloc (.cells #[.string (bs m), .string (bs t), .int .i64 v, .slice a l.length c] 24) = W := ⟨_, rfl⟩
  rw [hW] at HB0 HX0 hz
  have HZ0 := Lib.hid hz
  have HHv := Lib.hid (fun (wx : World) (hb : Below w.heap.size w wx) => (HH.out.1.below hb HH.out.2).wide (hi' := wx.heap.size) (Nat.le_trans HH.out.2 hb.size))
  have HAW := Lib.hid (fun (wx : World) (hb : Below w.heap.size w wx) => awake_any (HE.out.later hb))
  have HLH := Lib.hid (longH_any (HHv.out _ HB0.out) (Nat.le_refl _) hm)
  obtain ⟨LG, hLG⟩ : ∃ B, longH ⟨m, t, v, l⟩ = B := ⟨_, rfl⟩
  rw [hLG] at HLH
  obtain ⟨c0, c1, c2, c3⟩ := HX0.out.four
  clear hs0 hb0 hx hz hm hE
  cases LG with
  | true =>
    clear hLG
    go_enter Tryz.func3, Tryz.ntmps3
    go_wp2_with fail
    refine (HLH.out).mono ?_; rintro e w1 ⟨rfl, hb1⟩
    have HB1 := Lib.hid (HB0.out.trans (hb1.mono HB0.out.size))
    clear hb1
    go_wp2_with fail
    refine (HAW.out _ HB1.out).mono ?_; rintro e w2 ⟨rfl, hb2⟩
    have HB2 := Lib.hid (HB1.out.trans (hb2.mono HB1.out.size))
    clear hb2
    go_wp2_with fail
    go_ret
    exact ⟨rfl, HB2.out⟩
  | false =>
    have HSH := Lib.hid hLG
    clear hLG
    have HLL := Lib.hid (show l.length ≤ 900000 by have := (short_of HSH.out).2.2.1; simp only at this; omega)
    go_enter Tryz.func3, Tryz.ntmps3
    go_wp2_with fail
    refine (HLH.out).mono ?_; rintro e w1 ⟨rfl, hb1⟩
    have HB1 := Lib.hid (HB0.out.trans (hb1.mono HB0.out.size))
    have HX1 := Lib.hid (HX0.out.below (by simp) hb1)
    have HZ1 := Lib.hid (show N < w1.heap.size by have := hb1.size; have := HZ0.out; omega)
    have HCP := Lib.hid (copyH_any (HHv.out _ HB1.out) (Nat.le_refl _) HLL.out)
    clear hb1 c0 c1 c2 c3
    obtain ⟨c0, c1, c2, c3⟩ := HX1.out.four
    go_wp2_with fail
    refine (HCP.out).mono ?_; rintro e w2 ⟨v2, rfl, ⟨sl2, rfl, ho2⟩, hb2⟩
    obtain ⟨a2, k2, rfl⟩ := OwnF.shape ho2
    simp only at ho2
    have hal : Below w2.heap.size w2 (w2.alloc (.cells #[.string (bs m), .string (bs t), .int .i64 v, .slice a2 l.length k2] 24)) := (Below.refl _ _).alloc (Nat.le_refl _) _
    have hxx := (HX1.out.below (by simp) hb2).below (by simp) hal
    have hyy := cel_new4 w2 (.string (bs m)) (.string (bs t)) (.int .i64 v) (.slice a2 l.length k2) 24
    have hoo := ho2.below hal
    have hbb := HB1.out.trans ((bel_call hb2 hal).mono HB1.out.size)
    have hzz : w2.heap.size + 1 = (w2.alloc (.cells #[.string (bs m), .string (bs t), .int .i64 v, .slice a2 l.length k2] 24)).heap.size := by simp
    have HM2 := Lib.hid (show w1.heap.size ≤ w2.heap.size from hb2.size)
    obtain ⟨W2, hW2⟩ : ∃ W2, w2.alloc (.cells #[.string (bs m), .string (bs t), .int .i64 v, .slice a2 l.length k2] 24) = W2 := ⟨_, rfl⟩
    have HWW := Lib.hid hW2
    clear c0 c1 c2 c3
    obtain ⟨c0, c1, c2, c3⟩ := hxx.four
    rw [hW2] at hxx hyy hoo hbb hzz
    have HX2 := Lib.hid hxx
    have HY2 := Lib.hid hyy
    have HO2 := Lib.hid hoo
    have HB2 := Lib.hid hbb
    have HZ2 := Lib.hid hzz
    clear hal hxx hyy hoo hbb hzz hb2 ho2 hW2
    go_wp2_with fail
    rw [HWW.out]
    clear c0 c1 c2 c3 HCP HLH
    obtain ⟨Z, hZ⟩ : ∃ Z, (if mayH ⟨m, t, v, l⟩ = true then wrH ⟨m, t, v, l⟩ else []) = Z := ⟨_, rfl⟩
    obtain ⟨CK, hCK⟩ : ∃ C, chkH ⟨m, t, v, l⟩ = C := ⟨_, rfl⟩
    have HZL := Lib.hid (show Z.length ≤ 900000 by rw [← hZ]; exact short_mayR HSH.out)
    have HWR := Lib.hid (fun (wx : World) (ho : OwnF wx w1.heap.size (.slice a2 l.length k2) l) => write_any (w := wx) (h := ⟨m, t, v, l⟩) ⟨.slice a2 l.length k2, rfl, OwnF.sf ho (Nat.le_trans HLL.out (by omega))⟩ (Nat.le_refl _) (short_big HSH.out))
    have HCA := Lib.hid (fun (wx : World) (ho : OwnF wx w1.heap.size (.slice a2 l.length k2) l) => check_any (w := wx) (h := ⟨m, t, v, l⟩) ⟨.slice a2 l.length k2, rfl, OwnF.sf ho (Nat.le_trans HLL.out (by omega))⟩ (Nat.le_refl _) (short_big HSH.out))
    have HRW := Lib.hid (fun (wx : World) (hb : Below w.heap.size w wx) => rwrite_any (HHv.out wx hb) (Nat.le_refl _) HSH.out)
    have HRC := Lib.hid (fun (wx : World) (hb : Below w.heap.size w wx) => rcheck_any (HHv.out wx hb) (Nat.le_refl _) HSH.out)
    unfold WrPost at HWR HRW
    simp only [hZ, hCK] at HWR HRW
    simp only [hCK] at HCA HRC
    obtain ⟨q, hq⟩ : ∃ q, w2.heap.size = q := ⟨_, rfl⟩
    have HQQ := Lib.hid hq
    rw [hq] at HY2 HZ2 HM2
    clear hZ hCK
    refine (HWR.out _ HO2.out).mono ?_; rintro e w3 ⟨x, rfl, hox, hb3⟩
    obtain ⟨ax, kx, rfl⟩ := OwnB.shape hox
    have HB3 := Lib.hid (HB2.out.trans (hb3.mono HB2.out.size))
    have HX3 := Lib.hid (HX2.out.below (by simp) hb3)
    have HY3 := Lib.hid (HY2.out.below (by simp) hb3)
    have HO3 := Lib.hid (HO2.out.below hb3)
    have HXO3 := Lib.hid hox
    have HM3 := Lib.hid (show W2.heap.size ≤ w3.heap.size from hb3.size)
    clear hox hb3
    obtain ⟨c0, c1, c2, c3⟩ := HX3.out.four
    go_wp2_with fail
    refine (HRW.out _ HB3.out).mono ?_; rintro e w4 ⟨y, rfl, hoy, hb4⟩
    obtain ⟨ay, ky, rfl⟩ := OwnB.shape hoy
    have HB4 := Lib.hid (HB3.out.trans (hb4.mono HB3.out.size))
    have HX4 := Lib.hid (HX3.out.below (by simp) hb4)
    have HY4 := Lib.hid (HY3.out.below (by simp) hb4)
    have HO4 := Lib.hid (HO3.out.below hb4)
    have HXO4 := Lib.hid (HXO3.out.below hb4)
    have HYO4 := Lib.hid hoy
    have HM4 := Lib.hid (show w3.heap.size ≤ w4.heap.size from hb4.size)
    clear hoy hb4 c0 c1 c2 c3
    go_wp2_with fail
    have hdr : Below w4.heap.size w4 w4.drew := (Below.refl _ w4).drew
    have HD := Lib.hid hdr
    have HSX := Lib.hid (HXO4.out.below hdr).sl
    have HSY := Lib.hid (HYO4.out.below hdr).sl
    have HC5 := Lib.hid (HCA.out w4.drew (HO4.out.below hdr))
    have hnn : (CK != CK) = false := by simp
    have HQ := Lib.hid (show ∀ wx, Below w4.heap.size w4 wx → (wx.cell? ⟨N, 0, none⟩ = some (.string (bs m)) ∧ wx.cell? ⟨N, 1, none⟩ = some (.string (bs t)) ∧ wx.cell? ⟨N, 2, none⟩ = some (.int .i64 v) ∧ wx.cell? ⟨N, 3, none⟩ = some (.slice a l.length c)) ∧ (wx.cell? ⟨q, 0, none⟩ = some (.string (bs m)) ∧ wx.cell? ⟨q, 1, none⟩ = some (.string (bs t)) ∧ wx.cell? ⟨q, 2, none⟩ = some (.int .i64 v) ∧ wx.cell? ⟨q, 3, none⟩ = some (.slice a2 l.length k2)) from fun wx hb => ⟨(HX4.out.below (by simp) hb).four, (HY4.out.below (by simp) hb).four⟩)
    clear hdr
    go_region_held3 (fun wx => (wx.cell? ⟨N, 0, none⟩ = some (.string (bs m)) ∧ wx.cell? ⟨N, 1, none⟩ = some (.string (bs t)) ∧ wx.cell? ⟨N, 2, none⟩ = some (.int .i64 v) ∧ wx.cell? ⟨N, 3, none⟩ = some (.slice a l.length c)) ∧ (wx.cell? ⟨q, 0, none⟩ = some (.string (bs m)) ∧ wx.cell? ⟨q, 1, none⟩ = some (.string (bs t)) ∧ wx.cell? ⟨q, 2, none⟩ = some (.int .i64 v) ∧ wx.cell? ⟨q, 3, none⟩ = some (.slice a2 l.length k2))) (first | exact HQ.out _ HD.out | exact HQ.out _ HD5.out | exact HQ.out _ HD6.out) (first
      | (go_at_call 14; refine (same_any HSX.out HSY.out).mono ?_; rintro e w9 ⟨rfl, hw9⟩; subst hw9)
      | (go_at_call 15; refine (HC5.out).mono ?_; rintro e w5 ⟨rfl, hb5⟩; have HD5 : Hid (Below w4.heap.size w4 w5) := bel_call HD.out hb5; clear hb5)
      | (go_at_call 16; refine (HRC.out _ (HB4.out.trans (HD5.out.mono HB4.out.size))).mono ?_; rintro e w6 ⟨rfl, hb6⟩; have HD6 : Hid (Below w4.heap.size w4 w6) := bel_call HD5.out hb6; clear hb6))
    have HB6 := Lib.hid (HB4.out.trans (HD6.out.mono HB4.out.size))
    have HX6 := Lib.hid (HX4.out.below (by simp) HD6.out)
    have HY6 := Lib.hid (HY4.out.below (by simp) HD6.out)
    have HO6 := Lib.hid (HO4.out.below HD6.out)
    have HXO6 := Lib.hid (HXO4.out.below HD6.out)
    have HYO6 := Lib.hid (HYO4.out.below HD6.out)
    have HXL := Lib.hid HXO3.out.lt
    clear HC5 HSX HSY HQ HD HX4 HY4 HO4 HXO4 HYO4 HX3 HY3 HO3 HCA HRC HRW HX2 HY2
    go_wp2_with fail
    refine (over_B HXO6.out).mono ?_; rintro e w7 ⟨rfl, ha7⟩
    have HB7 := Lib.hid (below_aside HB6.out ha7 (fun k hk => ⟨by have := HB6.out.size; omega, fun h => by have := h.1; have := HB2.out.size; omega⟩))
    have HX7 := Lib.hid (HX6.out.aside (by simp) ha7 (fun h => by have := h.1; have := HZ1.out; have := HM2.out; have := HZ2.out; omega))
    have HY7 := Lib.hid (HY6.out.aside (by simp) ha7 (fun h => by have := h.1; have := HZ2.out; omega))
    have HO7 := Lib.hid (HO6.out.asideG ha7 (fun b hb h => by have := (HO2.out.lt b hb).2; have := h.1; omega))
    have HYO7 := Lib.hid (HYO6.out.aside ha7 (fun b hb h => by have := (HYO6.out.lt b hb).1; have := (HXL.out b h.2).2; omega))
    clear ha7 HX6 HY6 HO6 HXO6 HYO6 HXL HXO3
    obtain ⟨d0, d1, d2, d3⟩ := HY7.out.four
    go_wp2_with fail
    refine (HWR.out _ HO7.out).mono ?_; rintro e w8 ⟨z, rfl, hoz, hb8⟩
    obtain ⟨az, kz, rfl⟩ := OwnB.shape hoz
    have HB8 := Lib.hid (HB7.out.trans (hb8.mono HB7.out.size))
    have HX8 := Lib.hid (HX7.out.below (by simp) hb8)
    have HY8 := Lib.hid (HY7.out.below (by simp) hb8)
    have HO8 := Lib.hid (HO7.out.below hb8)
    have HSY := Lib.hid (HYO7.out.below hb8).sl
    have HSZ := Lib.hid hoz.sl
    clear hoz hb8 d0 d1 d2 d3
    obtain ⟨c0, c1, c2, c3⟩ := HX8.out.four
    obtain ⟨d0, d1, d2, d3⟩ := HY8.out.four
    have HSH8 := Lib.hid (sameH_yes (w := w8) (h := ⟨m, t, v, l⟩) ⟨.slice a2 l.length k2, rfl, OwnF.sf HO8.out (Nat.le_trans HLL.out (by omega))⟩ (HHv.out _ HB8.out) (Nat.le_refl _) (Nat.le_refl _))
    go_wp2_with fail
    refine (same_any HSZ.out HSY.out).mono ?_; rintro e w9 ⟨rfl, hw9⟩
    subst hw9
    go_wp2_with fail
    refine (HSH8.out).mono ?_; rintro e w9 ⟨rfl, hb9⟩
    have HB9 := Lib.hid (HB8.out.trans (hb9.mono HB8.out.size))
    clear hb9 c0 c1 c2 c3 d0 d1 d2 d3
    go_wp2_with fail
    refine (HAW.out _ HB9.out).mono ?_; rintro e w10 ⟨rfl, hb10⟩
    have HB10 := Lib.hid (HB9.out.trans (hb10.mono HB9.out.size))
    clear hb10
    go_wp2_with fail
    go_ret
    exact ⟨rfl, HB10.out⟩
end Go.Proofs.YtknfgcmidpgifaaGreatDoor

/-
  What a card leans on: the wrap with the world's shape and what is laid; the tables and the number that the library's functions lean on.
-/
namespace Go.Proofs.YtknfgcmidpgifaaGreatDoor
open Go.RowKit Go.Shelf
set_option linter.unusedVariables false
set_option linter.unusedSimpArgs false
set_option maxRecDepth 100000

/-- A law's contract at every world that fits: what is laid lies so, and the world has its shape. -/
theorem handed_laid {H : Type} {enc : TypeId × Value → H} {a : Assume} {C : Checked} {os : Os} {f : FuncId} {fn : Func} {s : ChangeSpec} {conds : List PathCond} {apart fresh handsOn again : Bool} {l : List (String × DataW Unit)}
    (own : ownKnob C.prog.godebug = none) (started : os.Started) (noInit : C.prog.inits.idxOf? f = none) (hfn : C.prog.funcs[f]? = some fn)
    (witness : ∃ (w : World) (tape : Tape) (i : Input), w.os = os ∧ (w.forCall tape i).Shaped C.prog ∧ i.vars = [] ∧ Input.okWide C.prog (w.forCall tape i) .any w.heap.size f i ∧
      ((s.pre enc C.prog fn conds apart (w.forCall tape i).memory i.args ∧ laidMetH C.prog l (w.forCall tape i).memory) ∧ sizedMet enc C.prog fn (OpenSpec.ofChange s) apart (w.forCall tape i).memory i.args) ∧ a.holds C.prog (lone (Frame.enter C.prog f i.args .normal) [] (w.forCall tape i)))
    (contract : ∀ (W : World) (base : Nat) (args : Array Value) (ds gs : List (DataW H)) (before : List MemPlace),
      (∀ (j : Nat) t v, fn.params[j]? = some t → args[j]? = some v → Value.okWide C.prog W .any base t v) →
      DataW.Whole enc C.prog fn.params.toList s.vars apart W args.toList ds gs before →
      (DataW.weightsEach C.prog (fn.params.toList ++ s.plain.varTypes C.prog) (ds ++ gs)).all (· ≤ reachBytes) = true → laidMetH C.prog l W → W.ShapedOpen C.prog →
      Calls C.prog f args W fun e W' => ∃ v, e = .returned v ∧ s.post enc C.prog fn apart fresh handsOn again W args v W') :
    ReturnsInHanded a C os f .any (fun w args => (s.pre enc C.prog fn conds apart w args ∧ laidMetH C.prog l w) ∧ sizedMet enc C.prog fn (OpenSpec.ofChange s) apart w args) (s.post enc C.prog fn apart fresh handsOn again) := by
  refine returnsInHanded_of_calls own started noInit witness ?_
  intro w tape i _ hsh _ hok hpre _
  obtain ⟨_, _, _, fn', hfn', _, _, _, _, hval⟩ := hok
  obtain rfl : fn' = fn := Option.some.inj (hfn'.symm.trans hfn)
  obtain ⟨⟨⟨ds, gs, before, hw, _⟩, hl⟩, hz⟩ := hpre
  have hw' := DataW.Whole.of_heap (w' := w.forCall tape i) (by rfl) hw
  refine (contract (w.forCall tape i) w.heap.size i.args ds gs before hval hw' (hz.weights hw) (laidMetH.of_heap (w := (w.forCall tape i).memory) (by rfl) hl) hsh).mono fun e W' ⟨v, he, hp⟩ => ?_
  subst he
  exact ChangeSpec.post_blind hp

theorem first_is : Rows.laid_unicode_utf8_first = Lib.firstData := Pinned.utf8First_eq
theorem accept_is : (Rows.laid_unicode_utf8_acceptRanges : DataW Unit) = Lib.acceptData := by kernel_rfl
/-- The tables lie, and MaxLen holds some number. -/
theorem env_of {w : World} {l : List (String × DataW Unit)} (h : laidMet Tryz.prog l w) (hs : w.ShapedOpen Tryz.prog) (h1 : ("unicode/utf8.first", Rows.laid_unicode_utf8_first) ∈ l) (h2 : ("unicode/utf8.acceptRanges", Rows.laid_unicode_utf8_acceptRanges) ∈ l) : Env w :=
  ⟨utf8Tabs_of_readsT (U8Types.of260 Tryz.lays260) ⟨by kernel_rfl, by kernel_rfl, by kernel_rfl, by kernel_rfl, by kernel_rfl, by kernel_rfl, by kernel_rfl⟩ (first_is ▸ Lib.laidMet.reads h h1) (accept_is ▸ Lib.laidMet.reads h h2),
    cell_of_shapedOpen_int (g := Tryz.lays143_ren.g 1) (t := 3) (zero := #[.int .i64 0]) (k := .i64) hs (of_decide_eq_true (by kernel_rfl)) (by kernel_rfl) rfl (by kernel_rfl) (by kernel_rfl) Tryz.underlying3⟩
end Go.Proofs.YtknfgcmidpgifaaGreatDoor

/-
  Heads that came in.
-/
namespace Go.Proofs.YtknfgcmidpgifaaGreatDoor
open Go.RowKit Go.Shelf Go.ChangeShapes
set_option linter.unusedVariables false
set_option linter.unusedSimpArgs false
set_option maxRecDepth 100000

theorem cells_fd : Tryz.prog.cellsOf 44 = 2 := by kernel_rfl
theorem cells_hd : Tryz.prog.cellsOf 24 = 4 := by kernel_rfl
theorem cells_st : Tryz.prog.cellsOf 9 = 1 := by kernel_rfl
theorem cells_in : Tryz.prog.cellsOf 3 = 1 := by kernel_rfl
theorem cells_sfd : Tryz.prog.cellsOf 22 = 1 := by kernel_rfl
theorem bytes_fd : Tryz.prog.bytesOf 44 = 32 := by kernel_rfl
theorem reach_is : reachBytes = 140737488351232 := by decide

theorem weights_all {H : Type} {P : Program} {e : TypeId} {d : DataW H} : ∀ {l : List (DataW H)}, d ∈ l → ∀ n ∈ d.weights P e, n ∈ DataW.weightsAll P e l
  | d0 :: r, hd, n, hn => by
    rw [DataW.weightsAll]
    rcases List.mem_cons.mp hd with rfl | hd
    · exact List.mem_append_left _ hn
    · exact List.mem_append_right _ (weights_all hd n hn)

section
variable {H : Type} {enc : TypeId × Value → H} {w : World} {base fuel : Nat} {spare : Nat → Bool} {held : Bool} {cs : List Value} {x : DataW H × List MemPlace}
theorem open_fs (h : DataW.trod enc Tryz.prog w base spare held fuel 22 cs = some x) (hw : ∀ n ∈ x.1.weights Tryz.prog 22, n ≤ reachBytes) :
    ∃ sl, cs = [sl] ∧ ∃ l : List Fd, SF w w.heap.size sl l ∧ ∀ x ∈ l, x.1.length ≤ 140737488351232 ∧ x.2.length ≤ 140737488351232 := by
  rcases Deep.open_slice_pairs Tryz.underlying22 Tryz.underlying44 cells_fd rfl rfl cells_st cells_st h with ⟨rfl, _⟩ | ⟨a, len, cap, m, n, V0, V1, D0, D1, P0, P1, rfl, _, hl, _, hm, rfl, hr⟩
  · exact ⟨_, rfl, [], Lst.nil _ _, fun x hx => by simp at hx⟩
  · have hlm : len ≤ m := by rw [hm]; split <;> omega
    have hlen : len ≤ 140737488351232 := by
      have := hw ((len + (m - len)) * 32) (by simp [DataW.weights, Tryz.underlying22, bytes_fd])
      rw [reach_is] at this
      omega
    have hex : ∀ i, i < len → ∃ f : Fd, V0 i = .string (bs f.1) ∧ V1 i = .string (bs f.2) ∧ f.1.length ≤ 140737488351232 ∧ f.2.length ≤ 140737488351232 := fun i hi => by
      obtain ⟨_, _, g0, g1⟩ := hr i (by omega)
      obtain ⟨s, k0, e0, _⟩ := DataW.trod_string Tryz.underlying9 g0
      obtain ⟨t, k1, e1, _⟩ := DataW.trod_string Tryz.underlying9 g1
      injection k0 with k0 _
      injection k1 with k1 _
      have d0 : D0 i = .lit (.string s.data.toList) := congrArg Prod.fst e0
      have d1 : D1 i = .lit (.string t.data.toList) := congrArg Prod.fst e1
      have hin : ∀ n, (n = s.data.toList.length ∨ n = t.data.toList.length) → n ≤ reachBytes := fun n hn => hw n (by
        simp only [DataW.weights, Tryz.underlying22]
        refine List.mem_cons_of_mem _ (List.mem_append_left _ (weights_all (d := .agg [D0 i, D1 i]) (List.mem_map.mpr ⟨i, List.mem_range.mpr hi, rfl⟩) _ ?_))
        rw [d0, d1]
        simp only [DataW.weights, Tryz.underlying44, List.toList_toArray, List.map_cons, List.map_nil, DataW.weightsEach, List.mem_append, List.mem_singleton, List.not_mem_nil, or_false]
        exact hn)
      have h0 := hin _ (.inl rfl)
      have h1 := hin _ (.inr rfl)
      rw [reach_is] at h0 h1
      exact ⟨(s.data.toList, t.data.toList), by rw [k0]; exact congrArg Value.string (bs_eta s), by rw [k1]; exact congrArg Value.string (bs_eta t), h0, h1⟩
    obtain ⟨F, hF⟩ : ∃ F : Nat → Fd, ∀ i, i < len → V0 i = .string (bs (F i).1) ∧ V1 i = .string (bs (F i).2) ∧ (F i).1.length ≤ 140737488351232 ∧ (F i).2.length ≤ 140737488351232 :=
      ⟨fun i => if hi : i < len then (hex i hi).choose else ([], []), fun i hi => by simp only [dif_pos hi]; exact (hex i hi).choose_spec⟩
    refine ⟨_, rfl, (List.range len).map F, ⟨some a, cap, by simp, by simpa using hlen, fun h => by simp at h, fun h0 => ?_⟩, fun y hy => ?_⟩
    · have h0 : 0 < len := by simpa using h0
      obtain ⟨b, off, spot⟩ := a
      have c0 := (hr 0 (by omega)).1
      have hspot : spot = none := by simpa [Addr.add] using World.cell?_spot c0
      subst hspot
      have hlt : b < w.heap.size := by
        rw [WideShapes.add_plain] at c0
        exact World.block_lt_of_cell? w _ c0
      refine ⟨b, off, rfl, hlt, fun i u hu => ?_⟩
      have hl2 : ∀ x : Fd, (cf x).length = 2 := fun _ => rfl
      by_cases hi : i < len * 2
      · have hj : i / 2 < len := by omega
        obtain ⟨c0, c1, _, _⟩ := hr (i / 2) (by omega)
        obtain ⟨e0, e1, _, _⟩ := hF (i / 2) hj
        rw [WideShapes.add_plain] at c0 c1
        have hget : ((List.range len).map F)[i / 2]'(by simpa using hj) = F (i / 2) := by simp
        have g : ∀ r v, (cf (F (i / 2)))[r]? = some v → (acf ((List.range len).map F))[i / 2 * 2 + r]? = some v := fun r v hv => flat_at hl2 _ (i / 2) (by simpa using hj) r v (by rw [hget]; exact hv)
        by_cases hm2 : i % 2 = 0
        · have := g 0 _ rfl
          rw [show i / 2 * 2 + 0 = i by omega, hu] at this
          rw [show i / 2 * 2 = i by omega] at c0
          rw [Option.some.inj this, ← e0]
          exact c0
        · have := g 1 _ rfl
          rw [show i / 2 * 2 + 1 = i by omega, hu] at this
          rw [show i / 2 * 2 + 1 = i by omega] at c1
          rw [Option.some.inj this, ← e1]
          exact c1
      · have := (List.getElem?_eq_some_iff.mp hu).1
        rw [acf_len, List.length_map, List.length_range] at this
        omega
    · obtain ⟨i, hi, rfl⟩ := List.mem_map.mp hy
      exact (hF i (List.mem_range.mp hi)).2.2

/-- A head that came in reads as one. -/
theorem open_head {cs : Array Value} (h : DataW.trod enc Tryz.prog w base spare held fuel 24 cs.toList = some x) (hl : cs.size = 4) (hw : ∀ n ∈ x.1.weights Tryz.prog 24, n ≤ reachBytes) :
    ∃ h : Hd, Hv w w.heap.size (.agg cs) h ∧ Mem h := by
  obtain ⟨cs⟩ := cs
  simp only [List.size_toArray] at hl
  cases fuel with
  | zero => simp [DataW.trod] at h
  | succ fuel =>
    obtain ⟨xs, k, _, h8, _, h9, h10⟩ := DataW.trod_struct Tryz.underlying24 h
    match cs, hl with
    | [v0, v1, v2, v3], _ =>
      have g0 := h10 0 _ rfl
      have g1 := h10 1 _ rfl
      have g2 := h10 2 _ rfl
      have g3 := h10 3 _ rfl
      match xs, h9 with
      | [y0, y1, y2, y3], _ =>
        simp [cells_st, cells_in, cells_sfd] at g0 g1 g2 g3
        obtain ⟨s, k0, _, _⟩ := DataW.trod_string Tryz.underlying9 g0
        obtain ⟨t, k1, _, _⟩ := DataW.trod_string Tryz.underlying9 g1
        obtain ⟨i, k2, _, _⟩ := DataW.trod_int Tryz.underlying3 g2
        obtain ⟨sl, k3, l, hs, hm⟩ := open_fs g3 (fun n hn => hw n (by
          rw [h8]
          simp only [List.map_cons, List.map_nil, DataW.weights, Tryz.underlying24, List.toList_toArray, DataW.weightsEach, List.mem_append, List.not_mem_nil, or_false]
          simp [hn]))
        injection k0 with k0 _
        injection k1 with k1 _
        injection k2 with k2 _
        injection k3 with k3 _
        subst k0; subst k1; subst k2; subst k3
        exact ⟨⟨s.data.toList, t.data.toList, i, l⟩, ⟨_, by rw [← bs_eta, ← bs_eta], hs⟩, hm⟩
end
end Go.Proofs.YtknfgcmidpgifaaGreatDoor
