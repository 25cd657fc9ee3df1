/-
  A message in so many bytes.
-/
import Derived.Test.YteegekpanadmkaaGreatZ16
import Derived.Test.YteegekpanadmkaaGreatZ15
import Derived.Test.YteegekpanadmkaaGreatZ09
import Derived.Test.YteegekpanadmkaaGreatZ12
import Derived.Test.YteegekpanadmkaaGreatZ14
import Derived.Test.YteegekpanadmkaaGreatZ08
import Derived.SizedLaws
namespace Go.Proofs.YteegekpanadmkaaGreat
open Go.RowKit Go.Shelf
set_option linter.unusedVariables false
set_option linter.unusedSimpArgs false
set_option maxRecDepth 100000

/-- A message's bytes, at most so many; how many entries were left out; why not. -/
def fitA (m : Ms) (size : Int) : Option (List UInt8) × Nat × Int := if chkM m ≠ 0 then (none, 0, chkM m) else if size < 12 ∨ 65535 < size then (none, 0, 5) else ((wrM (mcut m (fitN m size))).1, fitN m size, 0)
def FitPost (w : World) (R : Option (List UInt8) × Nat × Int) (e : Ending) (w' : World) : Prop := ∃ v, e = .returned (.tuple #[v, .int .i64 (R.2.1 : Nat), .int .i64 R.2.2]) ∧ OwnB w' w.heap.size v (R.1.getD []) ∧ Below w.heap.size w w'

theorem OwnX.mg {w : World} {B : Nat} {v : Value} {m : Ms} (h : OwnX w B v m) (hn : m.q.length + m.an.length + m.ns.length + m.ar.length ≤ 100000) : Mg w w.heap.size v m := by
  obtain ⟨q, a, n, r, rfl, hq, ha, hns, hr, hd1, hd2⟩ := h
  exact OwnM.mg ⟨q, a, n, r, rfl, hq, ha, hns, hr⟩ (by omega)

theorem StI.later {w0 W W' : World} {B p b : Nat} {m : Ms} {ord : List Nat} (h : StI w0 B p b m ord W) (hpb : p ≠ b) (hb : b < w0.heap.size) (hbl : Below W.heap.size W W') : StI w0 B p b m ord W' :=
  ⟨h.1.keep hpb (by have := h.2.size; omega) h.1 (Aside.refl _ _) hbl, h.2.trans (Aside.of_all hbl)⟩
/-- What `without` comes to. -/
theorem StI.wo {w0 W : World} {B p b : Nat} {m : Ms} {ord : List Nat} (hI : StI w0 B p b m ord W) (hm : Mrg (kOf (ents m)) ord (List.range (ents m).length).reverse) (hc : chkM m = 0) (ht : totM m ≤ 1100)
    (hB : B ≤ w0.heap.size) (hb : b < w0.heap.size) (n : Nat) (hn : n ≤ 1100) :
    Calls Tryz.prog 34 #[.pointer (some ⟨p, 0, none⟩), .int .i64 n] W (fun e w' => ∃ v, e = .returned v ∧ StI w0 B p b m ord w' ∧ OwnX w' W.heap.size v (mcut m n)) := by
  obtain ⟨_, _, f0, f1, _⟩ := chkM_ok hc
  have hel := ents_len m
  have hW := hI.2.size
  unfold totM at ht
  refine (without_any hI.1 hm (by omega) (by omega) (by omega) f0 f1 n (by omega)).mono ?_
  rintro e w' ⟨v, rfl, h1, h2, h3⟩
  rw [gath_mcut m hm n] at h2
  exact ⟨v, rfl, ⟨h1, hI.2.trans h3⟩, h2⟩

set_option maxHeartbeats 8000000 in
theorem fit_any {w : World} {hi : Nat} {u : Value} {m : Ms} (h : Mg w hi u m) (h1 : hi ≤ w.heap.size) (hf : m.Fine) (hn : totM m ≤ 1100) (size : Int) :
    Calls Tryz.prog 10 #[u, .int .i64 size] w (FitPost w (fitA m size)) := by
  have hmg := h
  obtain ⟨q, a, n, r, rfl, hq, ha, hn2, hr⟩ := h
  obtain ⟨qa, qc, rfl⟩ := Lst.shape hq
  obtain ⟨aa, ac, rfl⟩ := Lst.shape ha
  obtain ⟨na, nc, rfl⟩ := Lst.shape hn2
  obtain ⟨ra, rc, rfl⟩ := Lst.shape hr
  have hmf : ∀ (fn : Fn) (first cap : Array Value) (w : World), (Instr.makeFunc fn first cap).run Tryz.prog w = .ok (.func fn first cap) w := fun _ _ _ _ => rfl
  obtain ⟨i0, hi0⟩ : ∃ i, m.id = i := ⟨_, rfl⟩
  obtain ⟨f0, hf0⟩ : ∃ i, m.fl = i := ⟨_, rfl⟩
  obtain ⟨lq, hlq⟩ : ∃ i, m.q.length = i := ⟨_, rfl⟩
  obtain ⟨la, hla⟩ : ∃ i, m.an.length = i := ⟨_, rfl⟩
  obtain ⟨ln, hln⟩ : ∃ i, m.ns.length = i := ⟨_, rfl⟩
  obtain ⟨lr, hlr⟩ : ∃ i, m.ar.length = i := ⟨_, rfl⟩
  obtain ⟨E, hEE⟩ : ∃ E, chkM m = E := ⟨_, rfl⟩
  rw [hi0, hf0, hlq, hla, hln, hlr] at hmg ⊢
  obtain ⟨N, hN⟩ : ∃ N, w.heap.size = N := ⟨_, rfl⟩
  obtain ⟨W1, hW1⟩ : ∃ X, (w.alloc (.cells #[.int .i64 i0, .int .i64 f0, .slice qa lq qc, .slice aa la ac, .slice na ln nc, .slice ra lr rc] 25)).alloc (.cells #[.int .i64 size] 3) = X := ⟨_, rfl⟩
  have hb1 : Below w.heap.size w W1 := by rw [← hW1]; exact ((Below.refl _ _).alloc (Nat.le_refl _) _).alloc (by simp) _
  have hx1 : Cel W1 N [.int .i64 i0, .int .i64 f0, .slice qa lq qc, .slice aa la ac, .slice na ln nc, .slice ra lr rc] := by
    rw [← hW1, ← hN]
    exact (cel_new6 w _ _ _ _ _ _ 25).below (by simp) ((Below.refl _ _).alloc (Nat.le_refl _) _)
  have hz1 : W1.cell? ⟨N + 1, 0, none⟩ = some (.int .i64 size) := by
    rw [← hW1, ← hN]
    have := (cel_new1 (w.alloc (.cells #[.int .i64 i0, .int .i64 f0, .slice qa lq qc, .slice aa la ac, .slice na ln nc, .slice ra lr rc] 25)) (.int .i64 size) 3).c 0 (by simp)
    rwa [World.size_alloc] at this
  have hmg1 := (hmg.wide h1).later hb1
  have HCK := Lib.hid (checkM_any hmg1 (Nat.le_refl _) hf)
  have HMG := Lib.hid (And.intro hmg1 (And.intro hb1 (And.intro hf hn)))
  have HX := Lib.hid (And.intro hx1 hz1)
  obtain ⟨x0, x1, x2, x3, x4, x5⟩ := hx1.six
  rw [hEE] at HCK
  have HW1 := Lib.hid hW1
  have HE := Lib.hid hEE
  have HN := Lib.hid hN
  clear hmg hmg1 hq ha hn2 hr hi0 hf0 hlq hla hln hlr hb1 hx1 hW1 hEE hN hn hf
  by_cases hE : E = 0
  · have tE : (E != 0) = false := by rw [hE]; rfl
    go_enter Tryz.func10, Tryz.ntmps10
    go_wp2_with fail
    rw [HW1.out, HN.out]
    clear HW1
    refine HCK.out.mono ?_; rintro e w2 ⟨rfl, hb2⟩
    have hz2 : w2.cell? ⟨N + 1, 0, none⟩ = some (.int .i64 size) := (World.cell?_of_block (w := W1) (a := ⟨N + 1, 0, none⟩) (hb2.block (N + 1) (World.block_lt_of_cell? W1 _ hz1))).trans hz1
    have hx2 := HX.out.1.below (by simp) hb2
    have hm2 := HMG.out.1.later hb2
    have HLY := Lib.hid (lay_any hm2 (Nat.le_refl _) (by have := ents_len m; have := HMG.out.2.2.2; unfold totM at this; omega))
    have HB2 := Lib.hid hb2
    clear x0 x1 x2 x3 x4 x5
    obtain ⟨x0, x1, x2, x3, x4, x5⟩ := hx2.six
    clear hx2 hm2 hb2 hz1
    have hbw : Below w.heap.size w w2 := HMG.out.2.1.trans (HB2.out.mono HMG.out.2.1.size)
    have HBW := Lib.hid hbw
    clear hbw
    by_cases h12 : size < 12
    · have hR : fitA m size = (none, 0, 5) := by unfold fitA; rw [HE.out, hE, if_neg (by simp), if_pos (.inl h12)]
      go_wp2_with fail
      go_ret3
      rw [hR]
      exact ⟨_, rfl, OwnB.nil _ _, HBW.out⟩
    · by_cases h65 : 65535 < size
      · have hR : fitA m size = (none, 0, 5) := by unfold fitA; rw [HE.out, hE, if_neg (by simp), if_pos (.inr h65)]
        go_wp2_with fail
        go_ret3
        rw [hR]
        exact ⟨_, rfl, OwnB.nil _ _, HBW.out⟩
      · have hR : fitA m size = ((wrM (mcut m (fitN m size))).1, fitN m size, 0) := by unfold fitA; rw [HE.out, hE, if_neg (by simp), if_neg (by omega)]
        have HR := Lib.hid hR
        clear hR
        go_wp2_with fail
        clear x0 x1 x2 x3 x4 x5
        refine HLY.out.mono ?_; rintro e w3 ⟨p, b, ord, rfl, hp, hb, hb3, hpb, hsh, hmr, hbl⟩
        obtain ⟨SB, hSB⟩ : ∃ k, w3.heap.size = k := ⟨_, rfl⟩
        obtain ⟨W, hW⟩ : ∃ X, w3.alloc (.cells #[.pointer (some ⟨p, 0, none⟩)] 57) = X := ⟨_, rfl⟩
        have hbW : Below w3.heap.size w3 W := by rw [← hW]; exact (Below.refl _ _).alloc (Nat.le_refl _) _
        have hWs : W.heap.size = SB + 1 := by rw [← hW, World.size_alloc, hSB]
        have z3 : w3.cell? ⟨N + 1, 0, none⟩ = some (.int .i64 size) := (World.cell?_of_block (w := w2) (a := ⟨N + 1, 0, none⟩) (hbl.block (N + 1) (World.block_lt_of_cell? w2 _ hz2))).trans hz2
        have z4 : W.cell? ⟨N + 1, 0, none⟩ = some (.int .i64 size) := (World.cell?_of_block (w := w3) (a := ⟨N + 1, 0, none⟩) (hbW.block (N + 1) (World.block_lt_of_cell? w3 _ z3))).trans z3
        have s4 : W.cell? ⟨SB, 0, none⟩ = some (.pointer (some ⟨p, 0, none⟩)) := by rw [← hW, ← hSB]; exact (cel_new1 w3 _ 57).c 0 (by simp)
        have hsW : Sht W (p + 1) p b m.id m.fl (ents m) ord := by obtain ⟨va, vo, O, hs⟩ := hsh; exact ⟨va, vo, O, hs.below hbW⟩
        have hzN : N + 1 < w2.heap.size := World.block_lt_of_cell? w2 _ hz2
        have hpW : p < SB := by obtain ⟨va, vo, O, hs⟩ := hsh; rw [← hSB]; exact hs.lts
        have c3 : ∃ a c, W.cell? ⟨p, 3, none⟩ = some (.slice a (ents m).length c) := by
          obtain ⟨va, vo, O, hs⟩ := hsW
          have := hs.1.c 3 (by simp)
          rcases hs.2.2.2.2 with ⟨h5, h6⟩ | ⟨c, g, d, e1, e2, e3⟩
          · rw [h6] at this; exact ⟨none, 0, by rw [this, h5]; rfl⟩
          · rw [e2] at this; exact ⟨_, _, this⟩
        obtain ⟨oa, oc, c3⟩ := c3
        have hC0 : chkM m = 0 := by rw [HE.out, hE]
        have hlen : (ents m).length = totM m := by rw [ents_len]; rfl
        have HASK := Lib.hid (fun (w' : World) (n : Nat) (hn : n < totM m) (hI : StI W (p + 1) p b m ord w') => ask_fit (SB := SB) (ZB := N + 1) (size := size) hI hmr hC0 HMG.out.2.2.1 HMG.out.2.2.2 (by omega) (by omega) s4 z4 hpb (by omega) (by omega) (by omega) (by omega) n (by have := HMG.out.2.2.2; omega))
        have HI0 : StI W (p + 1) p b m ord W := ⟨hsW, Aside.refl _ _⟩
        have HSE := Lib.hid (search_any (N := totM m) HI0 (by have := HMG.out.2.2.2; omega) HASK.out (fun i j hij hj hp => by
          obtain ⟨d, rfl⟩ : ∃ d, j = i + d := ⟨j - i, by omega⟩
          exact br_mono hC0 size (by omega) hp d (by omega)))
        obtain ⟨hF1, hF2, hF3⟩ := fitN_facts hC0 (size := size) (by omega)
        have hFb : srP m size (fitN m size) = true := fit_br (cut_chk hC0 _) size (by omega) hF1
        have HFF := Lib.hid (show (wrM (mcut m (fitN m size))).1 = (wrM (mcut m (fitN m size))).1 from rfl)
        rw [hlen] at c3
        have HWO := Lib.hid (fun (w' : World) (n : Nat) (hn : n ≤ totM m) (hI : StI W (p + 1) p b m ord w') => hI.wo hmr hC0 HMG.out.2.2.2 (by omega) (by omega) n (by have := HMG.out.2.2.2; omega))
        have HLT := Lib.hid (fun (w' w'' : World) (hI : StI W (p + 1) p b m ord w') (hb : Below w'.heap.size w' w'') => hI.later hpb (by omega) hb)
        have HWT := Lib.hid (fun (w' : World) (B : Nat) (v : Value) (n : Nat) (hx : OwnX w' B v (mcut m n)) => written_any (hx.mg (by have := cut_tot m n; have := HMG.out.2.2.2; unfold totM at *; omega)) (Nat.le_refl _) (cut_fine HMG.out.2.2.1 n) (by have := cut_tot m n; have := HMG.out.2.2.2; unfold totM at *; omega) size)
        have HCE := Lib.hid (fun (w' : World) (hI : StI W (p + 1) p b m ord w') => (show w'.cell? ⟨SB, 0, none⟩ = some (.pointer (some ⟨p, 0, none⟩)) ∧ w'.cell? ⟨N + 1, 0, none⟩ = some (.int .i64 size) from ⟨hI.2.cell_lt s4 (show ¬ SB = b by omega), hI.2.cell_lt z4 (show ¬ N + 1 = b by omega)⟩))
        have HEND := Lib.hid (fun (w' : World) (hI : StI W (p + 1) p b m ord w') => below_aside (HBW.out.trans ((hbl.mono HBW.out.size).trans (hbW.mono (by have := hbl.size; have := HBW.out.size; omega)))) hI.2 (fun k hk => ⟨by have := hbl.size; have := HBW.out.size; omega, by have := HBW.out.size; omega⟩))
        obtain ⟨F, hF⟩ : ∃ F, fitN m size = F := ⟨_, rfl⟩
        rw [hF] at hF1 hF2 hF3 hFb HR
        obtain ⟨T, hT⟩ : ∃ T, totM m = T := ⟨_, rfl⟩
        rw [hT] at c3 HSE HWO hF2
        have hT1 : T ≤ 1100 := by have := HMG.out.2.2.2; omega
        have HF := Lib.hid (And.intro hF1 (And.intro hF3 hFb))
        clear HASK HI0 hsW hsh hmr hbl hbW hF1 hF3 hFb hF hT hlen hC0 z3 hz2 HFF h12 h65
        go_wp2_with fail
        refine HSE.out.mono ?_; rintro e w5 ⟨r, rfl, hr, hrl, hru, hI5⟩
        have hrF : r ≤ F := by
          rcases Nat.lt_or_ge F r with h | h
          · have := (hrl F h).symm.trans HF.out.2.2; cases this
          · exact h
        have HI5 := Lib.hid hI5
        clear hrl hru hI5 c3 s4 z4 hW
        go_wp2_with fail
        go_loopg [9] F (fun kx s wr => ∃ i : Nat, i ≤ F ∧ F ≤ i + kx ∧ s = .int .i64 i ∧ Hid (StI W (p + 1) p b m ord wr))
        case atStart => exact ⟨r, hrF, by omega, rfl, HI5.out⟩
        case round =>
          obtain ⟨i, hi, hik, rfl, HI⟩ := hrel
          have HID := Lib.hid (HLT.out wr wr.drew HI.out (Below.refl _ _).drew)
          have HCD := Lib.hid (HCE.out _ HID.out)
          have HWOD := Lib.hid (HWO.out wr.drew i (by omega) HID.out)
          obtain ⟨fb, hfb⟩ : ∃ x, fitW (mcut m i) size = x := ⟨_, rfl⟩
          have HFB := Lib.hid hfb
          clear hfb
          go_wp2_with fail
          go_region_held3 (fun wx => wx.cell? ⟨SB, 0, none⟩ = some (.pointer (some ⟨p, 0, none⟩)) ∧ wx.cell? ⟨N + 1, 0, none⟩ = some (.int .i64 size)) (first | exact HCD.out | exact HC6.out | exact HC7.out) (first | (go_at_call 34; refine HWOD.out.mono ?_; rintro e0 w6 ⟨v6, rfl, hi6, hx6⟩; have HI6 := Lib.hid hi6; have HC6 := Lib.hid (HCE.out _ hi6); have HWT6 := Lib.hid (HWT.out _ _ _ _ hx6); clear hi6 hx6) | (go_at_call 35; refine HWT6.out.mono ?_; rintro e0 w7 ⟨v7, rfl, hb7, hz7⟩; have HI7 := Lib.hid (HLT.out _ _ HI6.out hb7); have HC7 := Lib.hid (HCE.out _ HI7.out); have HZ7 := Lib.hid hz7; have HS7 := Lib.hid HI6.out.2.size; clear hb7 hz7))
          rcases fb with _ | _
          · have hlt : i < F := by
              rcases Nat.lt_or_ge i F with h | h
              · exact h
              · have h3 := HF.out.1
                rw [show F = i by omega, HFB.out] at h3
                cases h3
            have hi9 : i < 2000 := by omega
            rw [HFB.out]
            go_wp2_with fail
            go_roundg (F - (i + 1))
            case rel => exact ⟨i + 1, by omega, by omega, by go_num, HI7⟩
            case measure => omega
          · obtain rfl : i = F := by
              rcases Nat.lt_or_ge i F with h | h
              · have h3 := HF.out.2.1 i h
                rw [HFB.out] at h3
                cases h3
              · omega
            rw [HFB.out]
            go_wp2_with fail
            go_ret3
            rw [HR.out]
            obtain ⟨z, hz1, hz2⟩ := HZ7.out HFB.out
            refine ⟨_, rfl, ?_, HEND.out _ HI7.out⟩
            rw [hz1]
            exact hz2.mono (by have := HS7.out; have := HN.out; omega)
  · have tE : (E != 0) = true := by simpa using hE
    go_enter Tryz.func10, Tryz.ntmps10
    go_wp2_with fail
    rw [HW1.out, HN.out]
    clear HW1
    refine HCK.out.mono ?_; rintro e w2 ⟨rfl, hb2⟩
    have HB2 := Lib.hid hb2
    clear hb2 x0 x1 x2 x3 x4 x5 hz1
    go_wp2_with fail
    go_ret3
    rw [show fitA m size = (none, 0, E) by unfold fitA; rw [HE.out, if_pos hE]]
    exact ⟨_, rfl, OwnB.nil _ _, HMG.out.2.1.trans (HB2.out.mono HMG.out.2.1.size)⟩
end Go.Proofs.YteegekpanadmkaaGreat

/-
  The chapter's message, in so many bytes: values.
-/
namespace Go.Proofs.YteegekpanadmkaaGreat
open Go.RowKit Go.Shelf
set_option linter.unusedVariables false
set_option linter.unusedSimpArgs false
set_option maxRecDepth 100000

def samQ : Qn := ⟨[1, 97, 0], 1, 1⟩
def samR : Rc := ⟨[1, 97, 0], 1, 1, 5, [49, 50, 51, 52]⟩
def samO : Rc := ⟨[0], 41, 1232, 0, []⟩
def samM : Ms := ⟨7, 32768, [samQ], [samR], [], [samO]⟩
def samB : List UInt8 := [0, 7, 128, 0, 0, 1, 0, 1, 0, 0, 0, 1, 1, 97, 0, 0, 1, 0, 1, 192, 12, 0, 1, 0, 1, 0, 0, 0, 5, 0, 4, 49, 50, 51, 52, 0, 0, 41, 4, 208, 0, 0, 0, 0, 0, 0]
theorem t1 : wrM samM = (some samB, 0) := by kernel_rfl
end Go.Proofs.YteegekpanadmkaaGreat

/-
  The chapter's message made; what is asked of it.
-/
namespace Go.Proofs.YteegekpanadmkaaGreat
open Go.RowKit Go.Shelf
set_option linter.unusedVariables false
set_option linter.unusedSimpArgs false
set_option maxRecDepth 100000

set_option maxHeartbeats 4000000 in
theorem sample_any (w : World) : Calls Tryz.prog 26 #[] w fun e w' => ∃ v, e = .returned v ∧ Mg w' w'.heap.size v samM ∧ Below w.heap.size w w' := by
  obtain ⟨N, hN⟩ : ∃ N, w.heap.size = N := ⟨_, rfl⟩
  have HN := Lib.hid hN
  go_enter Tryz.func26, Tryz.ntmps26
  go_wp2
  obtain ⟨W1, hW1⟩ : ∃ X, w.alloc (.cells #[.int .i64 7, .int .i64 32768, .slice (some ⟨N + 1 + 1, 0, none⟩) 1 1, .slice (some ⟨N + 1 + 1 + 1 + 1, 0, none⟩) 1 1, .slice none 0 0, .slice (some ⟨N + 1 + 1 + 1 + 1 + 1, 0, none⟩) 1 1] 25) = X := ⟨_, rfl⟩
  obtain ⟨W2, hW2⟩ : ∃ X, W1.alloc (.cells #[.string ⟨#[1, 97, 0]⟩, .int .i64 1, .int .i64 1] 56) = X := ⟨_, rfl⟩
  obtain ⟨W3, hW3⟩ : ∃ X, W2.alloc (.cells #[.string ⟨#[1, 97, 0]⟩, .int .i64 1, .int .i64 1] 56) = X := ⟨_, rfl⟩
  obtain ⟨W4, hW4⟩ : ∃ X, W3.alloc (.cells #[.int .i64 7, .int .i64 32768, .slice (some ⟨N + 1 + 1, 0, none⟩) 1 1, .slice (some ⟨N + 1 + 1 + 1 + 1, 0, none⟩) 1 1, .slice none 0 0, .slice (some ⟨N + 1 + 1 + 1 + 1 + 1, 0, none⟩) 1 1] 25) = X := ⟨_, rfl⟩
  obtain ⟨W5, hW5⟩ : ∃ X, W4.alloc (.cells #[.string ⟨#[1, 97, 0]⟩, .int .i64 1, .int .i64 1, .int .i64 5, .string ⟨#[49, 50, 51, 52]⟩] 52) = X := ⟨_, rfl⟩
  obtain ⟨W6, hW6⟩ : ∃ X, W5.alloc (.cells #[.string ⟨#[0]⟩, .int .i64 41, .int .i64 1232, .int .i64 0, .string ⟨#[]⟩] 52) = X := ⟨_, rfl⟩
  rw [hW1, hW2, hW3, hW4, hW5, hW6]
  have l1 : W1.heap.size = N + 1 := by rw [← hW1, World.size_alloc, hN]
  have l2 : W2.heap.size = N + 1 + 1 := by rw [← hW2, World.size_alloc, l1]
  have l3 : W3.heap.size = N + 1 + 1 + 1 := by rw [← hW3, World.size_alloc, l2]
  have l4 : W4.heap.size = N + 1 + 1 + 1 + 1 := by rw [← hW4, World.size_alloc, l3]
  have l5 : W5.heap.size = N + 1 + 1 + 1 + 1 + 1 := by rw [← hW5, World.size_alloc, l4]
  have b6 : Below W5.heap.size W5 W6 := by rw [← hW6]; exact (Below.refl _ _).alloc (Nat.le_refl _) _
  have b5 : Below W4.heap.size W4 W6 := by refine Below.trans ?_ (b6.mono (by omega)); rw [← hW5]; exact (Below.refl _ _).alloc (Nat.le_refl _) _
  have b4 : Below W3.heap.size W3 W6 := by refine Below.trans ?_ (b5.mono (by omega)); rw [← hW4]; exact (Below.refl _ _).alloc (Nat.le_refl _) _
  have b3 : Below W2.heap.size W2 W6 := by refine Below.trans ?_ (b4.mono (by omega)); rw [← hW3]; exact (Below.refl _ _).alloc (Nat.le_refl _) _
  have b2 : Below W1.heap.size W1 W6 := by refine Below.trans ?_ (b3.mono (by omega)); rw [← hW2]; exact (Below.refl _ _).alloc (Nat.le_refl _) _
  have b1 : Below w.heap.size w W6 := by refine Below.trans ?_ (b2.mono (by omega)); rw [← hW1]; exact (Below.refl _ _).alloc (Nat.le_refl _) _
  have hc : Cel W6 N [.int .i64 7, .int .i64 32768, .slice (some ⟨N + 1 + 1, 0, none⟩) 1 1, .slice (some ⟨N + 1 + 1 + 1 + 1, 0, none⟩) 1 1, .slice none 0 0, .slice (some ⟨N + 1 + 1 + 1 + 1 + 1, 0, none⟩) 1 1] := by
    have := cel_new6 w (.int .i64 7) (.int .i64 32768) (.slice (some ⟨N + 1 + 1, 0, none⟩) 1 1) (.slice (some ⟨N + 1 + 1 + 1 + 1, 0, none⟩) 1 1) (.slice none 0 0) (.slice (some ⟨N + 1 + 1 + 1 + 1 + 1, 0, none⟩) 1 1) 25
    rw [hW1, hN] at this
    exact this.below (by simp) b2
  have hq := sq_one W2 samQ
  have hr := sr_one W4 samR
  have ho := sr_one W5 samO
  unfold samQ at hq
  unfold samR at hr
  unfold samO at ho
  rw [show bs [1, 97, 0] = ⟨#[1, 97, 0]⟩ from rfl] at hq hr
  rw [show bs [49, 50, 51, 52] = ⟨#[49, 50, 51, 52]⟩ from rfl] at hr
  rw [show bs [0] = ⟨#[0]⟩ from rfl, show bs [] = ⟨#[]⟩ from rfl] at ho
  rw [l2] at hq
  rw [l4] at hr
  rw [l5] at ho
  rw [hW3] at hq
  rw [hW5] at hr
  rw [hW6] at ho
  have s6 : W6.heap.size = N + 1 + 1 + 1 + 1 + 1 + 1 := by rw [← hW6, World.size_alloc, l5]
  obtain ⟨m0, m1, m2, m3, m4, m5⟩ := hc.six
  refine bodyPost_ret (v := .agg #[.int .i64 7, .int .i64 32768, .slice (some ⟨N + 1 + 1, 0, none⟩) 1 1, .slice (some ⟨N + 1 + 1 + 1 + 1, 0, none⟩) 1 1, .slice none 0 0, .slice (some ⟨N + 1 + 1 + 1 + 1 + 1, 0, none⟩) 1 1]) (by simp [results, Tryz.results26, go_sem, m0, m1, m2, m3, m4, m5]) rfl ⟨_, rfl, ⟨_, _, _, _, rfl, ?_, ?_, Lst.nil _ _, ?_⟩, b1⟩
  · exact Lst.wide (Lst.below hq (b4.mono (Nat.le_of_eq l3.symm)) (Nat.le_refl _)) (by omega)
  · exact Lst.wide (Lst.below hr (b6.mono (Nat.le_of_eq l5.symm)) (Nat.le_refl _)) (by omega)
  · exact Lst.wide ho (by omega)
theorem samFine : samM.Fine := ⟨by decide, by decide, by decide, by decide⟩

set_option maxHeartbeats 4000000 in
theorem fits_any (w : World) (size : Int) {z : List UInt8} {n : Nat} (h : fitA samM size = (some z, n, 0)) : Calls Tryz.prog 27 #[.int .i64 size, .int .i64 z.length, .int .i64 n] w (Tells w (.bool true)) := by
  have HS := Lib.hid (sample_any w)
  have HF := Lib.hid (fun (wx : World) (v : Value) (hm : Mg wx wx.heap.size v samM) => fit_any hm (Nat.le_refl _) samFine (by decide) size)
  rw [h] at HF
  go_enter Tryz.func27, Tryz.ntmps27
  go_wp2_with fail
  refine HS.out.mono ?_; rintro e w1 ⟨v, rfl, hm, hb⟩
  have HFF := Lib.hid (HF.out w1 v hm)
  have HB := Lib.hid hb
  clear hm hb HF
  go_wp2_with fail
  refine HFF.out.mono ?_; rintro e w2 ⟨v2, rfl, ho, hb2⟩
  obtain ⟨a, c, rfl⟩ := OwnB.shape ho
  have HB2 := Lib.hid (HB.out.trans (hb2.mono HB.out.size))
  simp only [Option.getD_some]
  obtain ⟨L, hL⟩ : ∃ L, z.length = L := ⟨_, rfl⟩
  rw [hL]
  clear ho hb2 h HS HFF hL
  go_wp2_with fail
  go_ret
  exact ⟨rfl, HB2.out⟩
theorem fA46 : fitA samM 46 = (some samB, 0, 0) := by kernel_rfl
def samB1 : List UInt8 := [0, 7, 130, 0, 0, 1, 0, 0, 0, 0, 0, 1, 1, 97, 0, 0, 1, 0, 1, 0, 0, 41, 4, 208, 0, 0, 0, 0, 0, 0]
theorem fA45 : fitA samM 45 = (some samB1, 1, 0) := by kernel_rfl

set_option maxHeartbeats 1000000 in
theorem awake10_any (w : World) : Calls Tryz.prog 17 #[] w (Tells w (.bool true)) := by
  have H1 := Lib.hid (fun wx => fits_any wx 46 fA46)
  have H2 := Lib.hid (fun wx => fits_any wx 45 fA45)
  go_enter Tryz.func17, Tryz.ntmps17
  go_wp2_with fail
  refine (H1.out w).mono ?_; rintro e w1 ⟨rfl, hb⟩
  have HB := Lib.hid hb
  clear hb
  go_wp2_with fail
  refine (H2.out w1).mono ?_; rintro e w2 ⟨rfl, hb⟩
  have HB2 := Lib.hid (bel_call HB.out hb)
  clear hb
  go_wp2_with fail
  go_ret
  exact ⟨rfl, HB2.out⟩
end Go.Proofs.YteegekpanadmkaaGreat

/-
  The records that are not of the type; whether records are the first ones of others.
-/
namespace Go.Proofs.YteegekpanadmkaaGreat
open Go.RowKit Go.Shelf
set_option linter.unusedVariables false
set_option linter.unusedSimpArgs false
set_option maxRecDepth 100000

set_option maxHeartbeats 2000000 in
theorem others10_any {w : World} {hi : Nat} {u : Value} {l : List Rc} (h : SR w hi u l) (h1 : hi ≤ w.heap.size) (hl : l.length ≤ 100000) :
    Calls Tryz.prog 21 #[u] w (fun e w' => ∃ v, e = .returned v ∧ OwnRc w' w.heap.size v (l.filter nO) ∧ Below w.heap.size w w') := by
  have HX := Lib.hid h
  have HN := Lib.hid (Lst.len h)
  have HL := Lib.hid hl
  obtain ⟨a, c, rfl⟩ := Lst.shape h
  obtain ⟨N, hN⟩ : ∃ N, w.heap.size = N := ⟨_, rfl⟩
  have HB0 := Lib.hid (show Below N w w from Below.refl _ _)
  have HHI := Lib.hid (show hi ≤ N by omega)
  have HK0 := Lib.hid (show OwnRc w N (.slice none 0 0) [] from World.ownsRow_nil _ _ _ _)
  clear h h1 hl
  go_enter Tryz.func21, Tryz.ntmps21
  go_wp2_with fail
  go_loopg [3, 4] l.length (fun g v5 v12 wr => ∃ k : Nat, k + g = l.length ∧ v12 = .int .i64 k ∧ Hid (OwnRc wr N v5 ((l.take k).filter nO)) ∧ Hid (Below N w wr) ∧ N ≤ wr.heap.size)
  case atStart => exact ⟨0, by omega, rfl, by simpa using HK0, HB0, by omega⟩
  case round =>
    clear HK0 HB0
    obtain ⟨k, hk, rfl, HK, HB, hsz⟩ := hrel
    have hlen := HN.out
    have hlen2 := HL.out
    by_cases hlt : k < l.length
    · obtain ⟨b, off, c2, he, hb, hc⟩ := HX.out.at_ k hlt
      injection he with he hn3 hc3
      clear hn3 hc3
      subst he
      obtain ⟨c0, c1, c2, c3, c4⟩ := hc.keep fun o => HB.out.cell (p := ⟨b, o, none⟩) (Nat.lt_of_lt_of_le hb HHI.out)
      have HTK := Lib.hid (show l.take (k + 1) = l.take k ++ [l[k]] by rw [List.take_add_one, List.getElem?_eq_getElem hlt]; rfl)
      obtain ⟨x, hx⟩ : ∃ x, l[k] = x := ⟨_, rfl⟩
      rw [hx] at c0 c1 c2 c3 c4 HTK
      obtain ⟨L, hL⟩ : ∃ L, (l.take k).filter nO = L := ⟨_, rfl⟩
      rw [hL] at HK
      have HLL := Lib.hid (show L.length ≤ 100000 by rw [← hL]; exact Nat.le_trans (List.length_filter_le _ _) (Nat.le_trans (by rw [List.length_take]; omega) HL.out))
      have HTF := Lib.hid (show (l.take (k + 1)).filter nO = L ++ [x].filter nO by rw [HTK.out, List.filter_append, hL])
      clear hc hx hb hL
      by_cases hp : x.t = 41
      · have hno : nO x = false := by unfold nO isO; simp [hp]
        have hfe : (l.take (k + 1)).filter nO = L := by rw [HTF.out, List.filter_cons_of_neg (by simp [hno]), List.filter_nil, List.append_nil]
        rw [← hfe] at HK
        rw [hp] at c1
        clear hfe hno
        have HSZ := Lib.hid hsz
        go_wp2_with fail
        go_roundg (l.length - (k + 1))
        case measure => omega
        case rel => exact ⟨k + 1, by omega, by go_num, HK, HB, HSZ.out⟩
      · have hno : nO x = true := by unfold nO isO; simp [hp]
        have t1 : (x.t != 41) = true := by simpa using hp
        have hone := sr_one wr x
        have hb4 : Below wr.heap.size wr (wr.alloc (.cells #[.string (bs x.n), .int .i64 x.t, .int .i64 x.c, .int .i64 x.l, .string (bs x.d)] 52)) := (Below.refl _ _).alloc (Nat.le_refl _) _
        have hsz4 : N ≤ (wr.alloc (.cells #[.string (bs x.n), .int .i64 x.t, .int .i64 x.c, .int .i64 x.l, .string (bs x.d)] 52)).heap.size := by simp; omega
        obtain ⟨a6, c6, w6, hr, hk6, ha6, _⟩ := run_appRc (row_below HK.out hb4) hone (by have := HLL.out; rw [List.length_singleton]; omega) hsz4
        have hf : (l.take (k + 1)).filter nO = L ++ [x] := by rw [HTF.out, List.filter_cons_of_pos (by simp [hno]), List.filter_nil]
        have HK6 := Lib.hid (show OwnRc w6 N (.slice a6 (L.length + 1) c6) ((l.take (k + 1)).filter nO) by rw [hf]; exact hk6)
        have hlr := World.ownsRow.lt (row_below HK.out hb4)
        have HB6 := Lib.hid (below_aside (HB.out.alloc (by omega) _) ha6 (fun k hk => ⟨by simp; omega, fun he => by have := (hlr k he).1; omega⟩))
        have HSZ := Lib.hid (Nat.le_trans hsz4 ha6.size)
        obtain ⟨av, cv, rfl⟩ := row_shape HK.out
        have HR := Lib.hid hr
        clear hone hb4 hsz4 hr hk6 ha6 hf HK HB hlr hno
        go_wp2_with (at_builtin; refine wpList_append_run (.tmp 17) (.tmp 22) 23 23 rfl rfl rfl rfl HR.out ?_)
        go_roundg (l.length - (k + 1))
        case measure => omega
        case rel => exact ⟨k + 1, by omega, by go_num, HK6, HB6, HSZ.out⟩
    · have t1 : ¬ ((k : Int) < l.length) := by omega
      have hkl : l.take k = l := List.take_of_length_le (by omega)
      rw [hkl] at HK
      clear hkl
      go_wp2_with fail
      go_ret
      exact ⟨_, rfl, by first | exact HK.out | (rw [hN]; exact HK.out), by first | exact HB.out | (rw [hN]; exact HB.out)⟩

/-- The first ones of a list that is read. -/
theorem sr_take {w : World} {hi : Nat} {a : Option Addr} {c : Nat} {l : List Rc} (h : SR w hi (.slice a l.length c) l) (k : Nat) (hk : k ≤ l.length) : SR w hi (.slice a k c) (l.take k) := by
  have e : acr l = acr (l.take k) ++ acr (l.drop k) := by rw [← acr_app, List.take_append_drop]
  unfold SR at h ⊢
  rw [e] at h
  rw [show (l.take k).length = k by rw [List.length_take]; omega]
  exact Lst.part h hk
theorem sq_take {w : World} {hi : Nat} {a : Option Addr} {c : Nat} {l : List Qn} (h : SQ w hi (.slice a l.length c) l) (k : Nat) (hk : k ≤ l.length) : SQ w hi (.slice a k c) (l.take k) := by
  have e : acq l = acq (l.take k) ++ acq (l.drop k) := by rw [← acq_app, List.take_append_drop]
  unfold SQ at h ⊢
  rw [e] at h
  rw [show (l.take k).length = k by rw [List.length_take]; omega]
  exact Lst.part h hk
end Go.Proofs.YteegekpanadmkaaGreat

/-
  Messages that came in.
-/
namespace Go.Proofs.YteegekpanadmkaaGreat
open Go.RowKit Go.Shelf
set_option linter.unusedVariables false
set_option linter.unusedSimpArgs false
set_option maxRecDepth 100000

theorem flat_of {α : Type} {f : α → List Value} {k : Nat} (hf : ∀ x, (f x).length = k) : ∀ (l : List α) (i : Nat) (u : Value), (l.flatMap f)[i]? = some u → ∃ j r, ∃ h : j < l.length, i = j * k + r ∧ (f l[j])[r]? = some u
  | [], i, u, h => by simp at h
  | x :: l, i, u, h => by
    rw [List.flatMap_cons] at h
    by_cases hi : i < k
    · rw [List.getElem?_append_left (by rw [hf]; exact hi)] at h
      exact ⟨0, i, by simp, by omega, h⟩
    · rw [List.getElem?_append_right (by rw [hf]; omega), hf] at h
      obtain ⟨j, r, h1, h2, h3⟩ := flat_of hf l _ u h
      exact ⟨j + 1, r, by simpa using h1, by rw [Nat.add_mul]; omega, h3⟩

/-- What is known of a slice of questions, of records that came in. -/
def IsQs (w : World) (a : Option Addr) (len cap : Nat) : Prop :=
  (a = none ∧ len = 0 ∧ cap = 0) ∨ ∃ x, a = some x ∧ ∀ i, i < len → ∃ (s : ByteArray) (t c : Int), w.cell? (x.add (i * 3)) = some (.string s) ∧ w.cell? (x.add (i * 3 + 1)) = some (.int .i64 t) ∧ w.cell? (x.add (i * 3 + 2)) = some (.int .i64 c)
def IsRs (w : World) (a : Option Addr) (len cap : Nat) : Prop :=
  (a = none ∧ len = 0 ∧ cap = 0) ∨ ∃ x, a = some x ∧ ∀ i, i < len → ∃ (s : ByteArray) (t c l : Int) (d : ByteArray), w.cell? (x.add (i * 5)) = some (.string s) ∧ w.cell? (x.add (i * 5 + 1)) = some (.int .i64 t) ∧ w.cell? (x.add (i * 5 + 2)) = some (.int .i64 c) ∧ w.cell? (x.add (i * 5 + 3)) = some (.int .i64 l) ∧ w.cell? (x.add (i * 5 + 4)) = some (.string d)

theorem cells_qn : Tryz.prog.cellsOf 56 = 3 := by kernel_rfl
theorem cells_msg : Tryz.prog.cellsOf 25 = 6 := by kernel_rfl
theorem cells_sqn : Tryz.prog.cellsOf 22 = 1 := by kernel_rfl
theorem cells_src : Tryz.prog.cellsOf 23 = 1 := by kernel_rfl
theorem bytes_qn : Tryz.prog.bytesOf 56 = 32 := by kernel_rfl
theorem bytes_rc : Tryz.prog.bytesOf 52 = 56 := by kernel_rfl

theorem open_qn {H : Type} {enc : TypeId × Value → H} {w : World} {base fuel : Nat} {spare : Nat → Bool} {held : Bool} {cs : List Value} {x : DataW H × List MemPlace}
    (h : DataW.trod enc Tryz.prog w base spare held fuel 56 cs = some x) (hl : cs.length = 3) : ∃ (s : ByteArray) (t c : Int), cs = [.string s, .int .i64 t, .int .i64 c] := by
  cases fuel with
  | zero => simp [DataW.trod] at h
  | succ fuel =>
    obtain ⟨xs, k, _, _, _, h9, h10⟩ := DataW.trod_struct Tryz.underlying56 h
    match cs, hl with
    | [v0, v1, v2], _ =>
      have g0 := h10 0 _ rfl
      have g1 := h10 1 _ rfl
      have g2 := h10 2 _ rfl
      match xs, h9 with
      | [y0, y1, y2], _ =>
        simp [cellsC_str, cellsC_int] at g0 g1 g2
        obtain ⟨s, k0, _, _⟩ := DataW.trod_string Tryz.underlying9 g0
        obtain ⟨t, k1, _, _⟩ := DataW.trod_int Tryz.underlying3 g1
        obtain ⟨c, k2, _, _⟩ := DataW.trod_int Tryz.underlying3 g2
        injection k0 with k0 _
        injection k1 with k1 _
        injection k2 with k2 _
        subst k0; subst k1; subst k2
        exact ⟨s, t, c, rfl⟩

theorem open_qs {H : Type} {enc : TypeId × Value → H} {w : World} {base fuel : Nat} {spare : Nat → Bool} {held : Bool} {cs : List Value} {x : DataW H × List MemPlace}
    (h : DataW.trod enc Tryz.prog w base spare held fuel 22 cs = some x) (hw : ∀ n ∈ x.1.weights Tryz.prog 22, n ≤ reachBytes) :
    ∃ a len cap, cs = [.slice a len cap] ∧ IsQs w a len cap ∧ len ≤ 140737488351232 := by
  rcases Deep.open_slice Tryz.underlying22 h with ⟨h1, _⟩ | ⟨b, l, c, m, n, D, Pl, h1, _, h2, _, h3, h5, h4⟩
  · exact ⟨none, 0, 0, h1, .inl ⟨rfl, rfl, rfl⟩, by omega⟩
  · have hm : l ≤ m := by rw [h3]; split <;> omega
    refine ⟨some b, l, c, h1, .inr ⟨b, rfl, fun i hi => ?_⟩, ?_⟩
    · obtain ⟨cs', h6, h7⟩ := h4 i (by omega)
      rw [cells_qn] at h6
      obtain ⟨_, h8, h9⟩ := World.cells?_some h6
      obtain ⟨s, t, c, rfl⟩ := open_qn h7 h8
      have c0 := h9 0 (by omega)
      have c1 := h9 1 (by omega)
      have c2 := h9 2 (by omega)
      rw [Deep.add_add] at c0 c1 c2
      exact ⟨s, t, c, by simpa using c0, by simpa using c1, by simpa using c2⟩
    · have := hw ((l + (m - l)) * 32) (by rw [h5]; simp [DataW.weights, Tryz.underlying22, bytes_qn])
      unfold reachBytes at this
      omega
theorem open_rs {H : Type} {enc : TypeId × Value → H} {w : World} {base fuel : Nat} {spare : Nat → Bool} {held : Bool} {cs : List Value} {x : DataW H × List MemPlace}
    (h : DataW.trod enc Tryz.prog w base spare held fuel 23 cs = some x) (hw : ∀ n ∈ x.1.weights Tryz.prog 23, n ≤ reachBytes) :
    ∃ a len cap, cs = [.slice a len cap] ∧ IsRs w a len cap ∧ len ≤ 140737488351232 := by
  rcases Deep.open_slice Tryz.underlying23 h with ⟨h1, _⟩ | ⟨b, l, c, m, n, D, Pl, h1, _, h2, _, h3, h5, h4⟩
  · exact ⟨none, 0, 0, h1, .inl ⟨rfl, rfl, rfl⟩, by omega⟩
  · have hm : l ≤ m := by rw [h3]; split <;> omega
    refine ⟨some b, l, c, h1, .inr ⟨b, rfl, fun i hi => ?_⟩, ?_⟩
    · obtain ⟨cs', h6, h7⟩ := h4 i (by omega)
      rw [cells_rec] at h6
      obtain ⟨_, h8, h9⟩ := World.cells?_some h6
      obtain ⟨s, t, c, tl, d, rfl⟩ := open_rec h7 h8
      have c0 := h9 0 (by omega)
      have c1 := h9 1 (by omega)
      have c2 := h9 2 (by omega)
      have c3 := h9 3 (by omega)
      have c4 := h9 4 (by omega)
      rw [Deep.add_add] at c0 c1 c2 c3 c4
      exact ⟨s, t, c, tl, d, by simpa using c0, by simpa using c1, by simpa using c2, by simpa using c3, by simpa using c4⟩
    · have := hw ((l + (m - l)) * 56) (by rw [h5]; simp [DataW.weights, Tryz.underlying23, bytes_rc])
      unfold reachBytes at this
      omega

/-- Such slices as questions, as records. -/
theorem qs_of {w : World} {a : Option Addr} {len cap : Nat} (h : IsQs w a len cap) (hl : len ≤ 140737488351232) : ∃ l : List Qn, SQ w w.heap.size (.slice a len cap) l := by
  rcases h with ⟨rfl, rfl, rfl⟩ | ⟨x, rfl, hx⟩
  · exact ⟨[], Lst.nil _ _⟩
  · have hch : ∀ n, n ≤ len → ∃ l : List Qn, l.length = n ∧ ∀ i (h : i < l.length), w.cell? (x.add (i * 3)) = some (.string (bs l[i].n)) ∧ w.cell? (x.add (i * 3 + 1)) = some (.int .i64 l[i].t) ∧ w.cell? (x.add (i * 3 + 2)) = some (.int .i64 l[i].c) := by
      intro n
      induction n with
      | zero => intro _; exact ⟨[], rfl, fun i h => by simp at h⟩
      | succ n ih =>
        intro hn
        obtain ⟨l, h1, h2⟩ := ih (by omega)
        obtain ⟨s, t, c, c0, c1, c2⟩ := hx n (by omega)
        refine ⟨l ++ [⟨s.data.toList, t, c⟩], by simp [h1], fun i hi => ?_⟩
        rw [List.length_append, List.length_singleton] at hi
        by_cases e : i < l.length
        · rw [List.getElem_append_left e]; exact h2 i e
        · have : i = l.length := by omega
          subst this
          rw [List.getElem_append_right (Nat.le_refl _)]
          simp only [Nat.sub_self, List.getElem_cons_zero]
          rw [h1, ← bs_eta]
          exact ⟨c0, c1, c2⟩
    obtain ⟨l, h1, h2⟩ := hch len (Nat.le_refl _)
    refine ⟨l, some x, cap, by rw [h1], by omega, fun h => by simp at h, fun h0 => ?_⟩
    obtain ⟨b, off, spot⟩ := x
    have c0 := (h2 0 h0).1
    have hspot : spot = none := by simpa [Addr.add] using World.cell?_spot c0
    subst hspot
    have hlt : b < w.heap.size := by
      rw [WideShapes.add_plain] at c0
      exact World.block_lt_of_cell? w _ c0
    refine ⟨b, off, rfl, hlt, fun i u hu => ?_⟩
    obtain ⟨j, r, hj, rfl, hr⟩ := flat_of (f := cq) (k := 3) (fun _ => rfl) l i u hu
    obtain ⟨c0, c1, c2⟩ := h2 j hj
    rw [WideShapes.add_plain] at c0 c1 c2
    match r, hr with
    | 0, hr => simp [cq] at hr; subst hr; exact c0
    | 1, hr => simp [cq] at hr; subst hr; exact c1
    | 2, hr => simp [cq] at hr; subst hr; exact c2
    | r + 3, hr => simp [cq] at hr
theorem rs_of {w : World} {a : Option Addr} {len cap : Nat} (h : IsRs w a len cap) (hl : len ≤ 140737488351232) : ∃ l : List Rc, SR w w.heap.size (.slice a len cap) l := by
  rcases h with ⟨rfl, rfl, rfl⟩ | ⟨x, rfl, hx⟩
  · exact ⟨[], Lst.nil _ _⟩
  · have hch : ∀ n, n ≤ len → ∃ l : List Rc, l.length = n ∧ ∀ i (h : i < l.length), w.cell? (x.add (i * 5)) = some (.string (bs l[i].n)) ∧ w.cell? (x.add (i * 5 + 1)) = some (.int .i64 l[i].t) ∧ w.cell? (x.add (i * 5 + 2)) = some (.int .i64 l[i].c) ∧ w.cell? (x.add (i * 5 + 3)) = some (.int .i64 l[i].l) ∧ w.cell? (x.add (i * 5 + 4)) = some (.string (bs l[i].d)) := by
      intro n
      induction n with
      | zero => intro _; exact ⟨[], rfl, fun i h => by simp at h⟩
      | succ n ih =>
        intro hn
        obtain ⟨l, h1, h2⟩ := ih (by omega)
        obtain ⟨s, t, c, tl, d, c0, c1, c2, c3, c4⟩ := hx n (by omega)
        refine ⟨l ++ [⟨s.data.toList, t, c, tl, d.data.toList⟩], by simp [h1], fun i hi => ?_⟩
        rw [List.length_append, List.length_singleton] at hi
        by_cases e : i < l.length
        · rw [List.getElem_append_left e]; exact h2 i e
        · have : i = l.length := by omega
          subst this
          rw [List.getElem_append_right (Nat.le_refl _)]
          simp only [Nat.sub_self, List.getElem_cons_zero]
          rw [h1, ← bs_eta, ← bs_eta]
          exact ⟨c0, c1, c2, c3, c4⟩
    obtain ⟨l, h1, h2⟩ := hch len (Nat.le_refl _)
    refine ⟨l, some x, cap, by rw [h1], by omega, fun h => by simp at h, fun h0 => ?_⟩
    obtain ⟨b, off, spot⟩ := x
    have c0 := (h2 0 h0).1
    have hspot : spot = none := by simpa [Addr.add] using World.cell?_spot c0
    subst hspot
    have hlt : b < w.heap.size := by
      rw [WideShapes.add_plain] at c0
      exact World.block_lt_of_cell? w _ c0
    refine ⟨b, off, rfl, hlt, fun i u hu => ?_⟩
    obtain ⟨j, r, hj, rfl, hr⟩ := flat_of (f := cr) (k := 5) (fun _ => rfl) l i u hu
    obtain ⟨c0, c1, c2, c3, c4⟩ := h2 j hj
    rw [WideShapes.add_plain] at c0 c1 c2 c3 c4
    match r, hr with
    | 0, hr => simp [cr] at hr; subst hr; exact c0
    | 1, hr => simp [cr] at hr; subst hr; exact c1
    | 2, hr => simp [cr] at hr; subst hr; exact c2
    | 3, hr => simp [cr] at hr; subst hr; exact c3
    | 4, hr => simp [cr] at hr; subst hr; exact c4
    | r + 5, hr => simp [cr] at hr

/-- A message that came in reads as one. -/
theorem open_msg {H : Type} {enc : TypeId × Value → H} {w : World} {base fuel : Nat} {spare : Nat → Bool} {held : Bool} {cs : Array Value} {x : DataW H × List MemPlace}
    (h : DataW.trod enc Tryz.prog w base spare held fuel 25 cs.toList = some x) (hl : cs.size = 6) (hw : ∀ n ∈ x.1.weights Tryz.prog 25, n ≤ reachBytes) : ∃ m : Ms, Mg w w.heap.size (.agg cs) m := by
  obtain ⟨cs⟩ := cs
  simp only [List.size_toArray] at hl
  cases fuel with
  | zero => simp [DataW.trod] at h
  | succ fuel =>
    obtain ⟨xs, k, _, h8, _, h9, h10⟩ := DataW.trod_struct Tryz.underlying25 h
    match cs, hl with
    | [v0, v1, v2, v3, v4, v5], _ =>
      have g0 := h10 0 _ rfl
      have g1 := h10 1 _ rfl
      have g2 := h10 2 _ rfl
      have g3 := h10 3 _ rfl
      have g4 := h10 4 _ rfl
      have g5 := h10 5 _ rfl
      match xs, h9 with
      | [y0, y1, y2, y3, y4, y5], _ =>
        simp [cellsC_int, cells_sqn, cells_src] at g0 g1 g2 g3 g4 g5
        have hw2 : ∀ n, (n ∈ y2.1.weights Tryz.prog 22 ∨ n ∈ y3.1.weights Tryz.prog 23 ∨ n ∈ y4.1.weights Tryz.prog 23 ∨ n ∈ y5.1.weights Tryz.prog 23) → n ≤ reachBytes := fun n hn => hw n (by
          rw [h8]
          simp only [List.map_cons, List.map_nil, DataW.weights, Tryz.underlying25, List.toList_toArray, DataW.weightsEach, List.mem_append, List.not_mem_nil, or_false]
          rcases hn with h | h | h | h <;> simp [h])
        obtain ⟨i, k0, _, _⟩ := DataW.trod_int Tryz.underlying3 g0
        obtain ⟨f, k1, _, _⟩ := DataW.trod_int Tryz.underlying3 g1
        obtain ⟨qa, ql, qc, k2, q1, q2⟩ := open_qs g2 (fun n hn => hw2 n (.inl hn))
        obtain ⟨aa, al, ac, k3, a1, a2⟩ := open_rs g3 (fun n hn => hw2 n (.inr (.inl hn)))
        obtain ⟨na, nl, nc, k4, n1, n2⟩ := open_rs g4 (fun n hn => hw2 n (.inr (.inr (.inl hn))))
        obtain ⟨ra, rl, rc, k5, r1, r2⟩ := open_rs g5 (fun n hn => hw2 n (.inr (.inr (.inr hn))))
        injection k0 with k0 _
        injection k1 with k1 _
        injection k2 with k2 _
        injection k3 with k3 _
        injection k4 with k4 _
        injection k5 with k5 _
        subst k0; subst k1; subst k2; subst k3; subst k4; subst k5
        obtain ⟨lq, h1⟩ := qs_of q1 q2
        obtain ⟨la, h2⟩ := rs_of a1 a2
        obtain ⟨ln, h3⟩ := rs_of n1 n2
        obtain ⟨lr, h4⟩ := rs_of r1 r2
        exact ⟨⟨i, f, lq, la, ln, lr⟩, _, _, _, _, rfl, h1, h2, h3, h4⟩
end Go.Proofs.YteegekpanadmkaaGreat

/-
  Whether records are the first ones of others; a message that came in, and the room of its lists.
-/
namespace Go.Proofs.YteegekpanadmkaaGreat
open Go.RowKit Go.Shelf
set_option linter.unusedVariables false
set_option linter.unusedSimpArgs false
set_option maxRecDepth 100000

set_option maxHeartbeats 1000000 in
theorem begins_any {w : World} {hi hi' : Nat} {u : Value} {a : Option Addr} {n k c : Nat} {l : List Rc} (h : SR w hi u (l.take k)) (hk : k ≤ l.length) (hn : l.length = n) (h' : SR w hi' (.slice a n c) l) (hc : n ≤ c) (h1 : hi ≤ w.heap.size) (h2 : hi' ≤ w.heap.size) :
    Calls Tryz.prog 22 #[u, .slice a n c] w (Tells w (.bool true)) := by
  obtain ⟨au, cu, rfl⟩ := Lst.shape h
  have hkl : (l.take k).length = k := by rw [List.length_take]; omega
  rw [hkl] at h ⊢
  have hcut := cut_rc a n k c (by omega)
  subst hn
  have HS := Lib.hid (sameR_yes h (sr_take h' k hk) h1 h2)
  have hnl := Lst.len h'
  clear h h' hkl
  obtain ⟨n, hn⟩ : ∃ n, l.length = n := ⟨_, rfl⟩
  rw [hn] at hcut hk hc hnl ⊢
  clear hn
  go_enter Tryz.func22, Tryz.ntmps22
  go_wp2_with fail
  refine HS.out.mono ?_; rintro e w1 ⟨rfl, hb⟩
  have HB := Lib.hid hb
  clear hb
  go_wp2_with fail
  go_ret
  exact ⟨by simp [go_sem], HB.out⟩

/-- The lists have no less room than entries. -/
def CapM (v : Value) : Prop := ∃ i f qa qn qc aa an ac na nn nc ra rn rc, v = .agg #[i, f, .slice qa qn qc, .slice aa an ac, .slice na nn nc, .slice ra rn rc] ∧ qn ≤ qc ∧ an ≤ ac ∧ nn ≤ nc ∧ rn ≤ rc
theorem open_msgk {H : Type} {enc : TypeId × Value → H} {w : World} {base fuel : Nat} {spare : Nat → Bool} {held : Bool} {cs : Array Value} {x : DataW H × List MemPlace}
    (h : DataW.trod enc Tryz.prog w base spare held fuel 25 cs.toList = some x) (hl : cs.size = 6) (hw : ∀ n ∈ x.1.weights Tryz.prog 25, n ≤ reachBytes) : ∃ m : Ms, Mg w w.heap.size (.agg cs) m ∧ CapM (.agg cs) := by
  obtain ⟨m, hm⟩ := open_msg h hl hw
  refine ⟨m, hm, ?_⟩
  obtain ⟨cs⟩ := cs
  simp only [List.size_toArray] at hl
  cases fuel with
  | zero => simp [DataW.trod] at h
  | succ fuel =>
    obtain ⟨xs, k, _, h8, _, h9, h10⟩ := DataW.trod_struct Tryz.underlying25 h
    match cs, hl with
    | [v0, v1, v2, v3, v4, v5], _ =>
      have g2 := h10 2 _ rfl
      have g3 := h10 3 _ rfl
      have g4 := h10 4 _ rfl
      have g5 := h10 5 _ rfl
      match xs, h9 with
      | [y0, y1, y2, y3, y4, y5], _ =>
        simp [cells_src] at g2 g3 g4 g5
        have room : ∀ {u : Value} {e : Nat} {sp : Nat → Bool} {hd : Bool} {fl : Nat} {y : DataW H × List MemPlace}, (DataW.trod enc Tryz.prog w base sp hd fl 23 [u] = some y) → ∃ a n c, u = .slice a n c ∧ n ≤ c := fun g => by
          rcases Deep.open_slice Tryz.underlying23 g with ⟨h1, _⟩ | ⟨b, l, c, m, n, D, Pl, h1, _, h2, _⟩
          · injection h1 with h1 _
            exact ⟨none, 0, 0, h1, Nat.le_refl _⟩
          · injection h1 with h1 _
            exact ⟨some b, l, c, h1, h2⟩
        have roomq : ∀ {u : Value} {e : Nat} {sp : Nat → Bool} {hd : Bool} {fl : Nat} {y : DataW H × List MemPlace}, (DataW.trod enc Tryz.prog w base sp hd fl 22 [u] = some y) → ∃ a n c, u = .slice a n c ∧ n ≤ c := fun g => by
          rcases Deep.open_slice Tryz.underlying22 g with ⟨h1, _⟩ | ⟨b, l, c, m, n, D, Pl, h1, _, h2, _⟩
          · injection h1 with h1 _
            exact ⟨none, 0, 0, h1, Nat.le_refl _⟩
          · injection h1 with h1 _
            exact ⟨some b, l, c, h1, h2⟩
        obtain ⟨qa, qn, qc, rfl, hq⟩ := roomq (e := 0) g2
        obtain ⟨aa, an, ac, rfl, ha⟩ := room (e := 0) g3
        obtain ⟨na, nn, nc, rfl, hn⟩ := room (e := 0) g4
        obtain ⟨ra, rn, rc, rfl, hr⟩ := room (e := 0) g5
        exact ⟨_, _, _, _, _, _, _, _, _, _, _, _, _, _, rfl, hq, ha, hn, hr⟩
end Go.Proofs.YteegekpanadmkaaGreat

/-
  What is left of a message's lists; a message that is too much for the statements.
-/
namespace Go.Proofs.YteegekpanadmkaaGreat
open Go.RowKit Go.Shelf
set_option linter.unusedVariables false
set_option linter.unusedSimpArgs false
set_option maxRecDepth 100000

theorem big_fine {most : Nat} {m : Ms} {M : Nat} (hM : M ≤ 1000000) (h : bigMs most M m = false) : m.Fine := by
  obtain ⟨_, h1, h2, h3, h4⟩ := bigMs_no h
  exact ⟨fun x hx => Nat.le_trans (h1 x hx) hM, fun x hx => ⟨Nat.le_trans (h2 x hx).1 hM, Nat.le_trans (h2 x hx).2 hM⟩, fun x hx => ⟨Nat.le_trans (h3 x hx).1 hM, Nat.le_trans (h3 x hx).2 hM⟩, fun x hx => ⟨Nat.le_trans (h4 x hx).1 hM, Nat.le_trans (h4 x hx).2 hM⟩⟩
theorem fitW_len {m : Ms} {size : Int} (h : fitW m size = true) : ∃ z, wrM m = (some z, 0) ∧ (z.length : Int) ≤ size := by
  unfold fitW at h
  rcases wrM_how m with ⟨z, hz⟩ | ⟨e, hz, he⟩
  · rw [hz] at h
    exact ⟨z, hz, by simpa using h⟩
  · rw [hz] at h; cases h

theorem cut_kept (m : Ms) (n : Nat) : (mcut m n).ar.filter nO = (m.ar.filter nO).take (nA m - n) ∧ (mcut m n).ar.length = (nA m - n) + (nD m - (n - (nA m + m.ns.length + m.an.length))) ∧ (m.ar.filter nO).length = nA m := by
  have hAD := nA_nD m
  have hc := lop_count nO n m.ar
  have hf := lop_filter nO n m.ar
  have ho := lop_other nO n m.ar
  have hA : m.ar.countP nO = nA m := rfl
  have hAl : (m.ar.filter nO).length = nA m := by rw [← List.countP_eq_length_filter]; rfl
  have hln : (lop nO n m.ar).length = (nA m - n) + nD m := by
    have h1 := List.length_eq_countP_add_countP (p := nO) (l := lop nO n m.ar)
    have h2 : (lop nO n m.ar).countP (fun x => !nO x) = nD m := by
      rw [List.countP_eq_length_filter, ho]
      have h3 := List.length_eq_countP_add_countP (p := nO) (l := m.ar)
      rw [← List.countP_eq_length_filter]
      have e : (fun a => decide ¬ nO a = true) = (fun x => !nO x) := by funext a; cases nO a <;> rfl
      rw [e] at h3
      omega
    have e : (fun a => decide ¬ nO a = true) = (fun x => !nO x) := by funext a; cases nO a <;> rfl
    rw [e] at h1
    omega
  show ((lop nO n m.ar).take _).filter nO = _ ∧ ((lop nO n m.ar).take _).length = _ ∧ _
  rw [hln, List.length_take, hln]
  refine ⟨?_, by omega, hAl⟩
  by_cases hn : n ≤ nA m + m.ns.length + m.an.length
  · rw [List.take_of_length_le (by rw [hln]; omega), hf, hA]
  · have h0 : nA m - n = 0 := by omega
    rw [h0, List.take_zero, List.filter_eq_nil_iff]
    intro x hx
    have hx2 := List.mem_of_mem_take hx
    have : (lop nO n m.ar).countP nO = 0 := by rw [hc, hA, h0]
    exact List.countP_eq_zero.mp this x hx2

set_option maxHeartbeats 1000000 in
theorem big10_any {w : World} {u : Value} {m : Ms} (h : Mg w w.heap.size u m) : Calls Tryz.prog 8 #[u] w (Tells w (.bool (bigMs 60 3000 m))) := by
  obtain ⟨q, a, n, r, rfl, hq, ha, hn, hr⟩ := h
  obtain ⟨qa, qc, rfl⟩ := Lst.shape hq
  obtain ⟨aa, ac, rfl⟩ := Lst.shape ha
  obtain ⟨na, nc, rfl⟩ := Lst.shape hn
  obtain ⟨ra, rc, rfl⟩ := Lst.shape hr
  have hm : Mg w w.heap.size (.agg #[.int .i64 m.id, .int .i64 m.fl, .slice qa m.q.length qc, .slice aa m.an.length ac, .slice na m.ns.length nc, .slice ra m.ar.length rc]) m := ⟨_, _, _, _, rfl, hq, ha, hn, hr⟩
  obtain ⟨i0, hi0⟩ : ∃ i, m.id = i := ⟨_, rfl⟩
  obtain ⟨f0, hf0⟩ : ∃ i, m.fl = i := ⟨_, rfl⟩
  obtain ⟨lq, hlq⟩ : ∃ i, m.q.length = i := ⟨_, rfl⟩
  obtain ⟨la, hla⟩ : ∃ i, m.an.length = i := ⟨_, rfl⟩
  obtain ⟨ln, hln⟩ : ∃ i, m.ns.length = i := ⟨_, rfl⟩
  obtain ⟨lr, hlr⟩ : ∃ i, m.ar.length = i := ⟨_, rfl⟩
  obtain ⟨R, hR⟩ : ∃ r, bigMs 60 3000 m = r := ⟨_, rfl⟩
  rw [hi0, hf0, hlq, hla, hln, hlr] at hm ⊢
  have hb : Below w.heap.size w (w.alloc (.cells #[.int .i64 i0, .int .i64 f0, .slice qa lq qc, .slice aa la ac, .slice na ln nc, .slice ra lr rc] 25)) := (Below.refl _ _).alloc (Nat.le_refl _) _
  have HC := Lib.hid (bigM_any 60 3000 (by decide) (by decide) (hm.later hb) (Nat.le_refl _))
  have HB := Lib.hid hb
  rw [hR] at HC ⊢
  clear hm hq ha hn hr hi0 hf0 hlq hla hln hlr hb hR
  go_enter Tryz.func8, Tryz.ntmps8
  go_wp2_with fail
  refine HC.out.mono ?_; rintro e w1 ⟨rfl, hb⟩
  have HB2 := Lib.hid (bel_call HB.out hb)
  clear hb
  go_wp2_with fail
  go_ret
  exact ⟨rfl, HB2.out⟩
end Go.Proofs.YteegekpanadmkaaGreat
