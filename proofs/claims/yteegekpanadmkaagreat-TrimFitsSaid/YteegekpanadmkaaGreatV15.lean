/-
  A message in so many bytes.
-/
import Derived.Test.YteegekpanadmkaaGreatV14
import Derived.Test.YteegekpanadmkaaGreatV13
namespace Go.Proofs.YteegekpanadmkaaGreat
open Go.RowKit Go.Shelf
set_option linter.unusedVariables false
set_option linter.unusedSimpArgs false
set_option maxRecDepth 100000

def fitA (m : Ms) (size : Int) : Option (List UInt8) × Nat × Int := if chkM m ≠ 0 then (none, 0, chkM m) else if size < 12 ∨ 65535 < size then (none, 0, 5) else ((wrM (mcut m (fitN m size))).1, fitN m size, 0)
def FitPost (w : World) (R : Option (List UInt8) × Nat × Int) (e : Ending) (w' : World) : Prop := ∃ v, e = .returned (.tuple #[v, .int .i64 (R.2.1 : Nat), .int .i64 R.2.2]) ∧ OwnB w' w.heap.size v (R.1.getD []) ∧ Below w.heap.size w w'

theorem OwnX.mg {w : World} {B : Nat} {v : Value} {m : Ms} (h : OwnX w B v m) (hn : m.q.length + m.an.length + m.ns.length + m.ar.length ≤ 100000) : Mg w w.heap.size v m := by
  obtain ⟨q, a, n, r, rfl, hq, ha, hns, hr, hd1, hd2⟩ := h
  exact OwnM.mg ⟨q, a, n, r, rfl, hq, ha, hns, hr⟩ (by omega)

theorem StI.later {w0 W W' : World} {B p b : Nat} {m : Ms} {ord : List Nat} (h : StI w0 B p b m ord W) (hpb : p ≠ b) (hb : b < w0.heap.size) (hbl : Below W.heap.size W W') : StI w0 B p b m ord W' :=
  ⟨h.1.keep hpb (by have := h.2.size; omega) h.1 (Aside.refl _ _) hbl, h.2.trans (Aside.of_all hbl)⟩
theorem StI.wo {w0 W : World} {B p b : Nat} {m : Ms} {ord : List Nat} (hI : StI w0 B p b m ord W) (hm : Mrg (kOf (ents m)) ord (List.range (ents m).length).reverse) (hc : chkM m = 0) (ht : totM m ≤ 1100)
    (hB : B ≤ w0.heap.size) (hb : b < w0.heap.size) (n : Nat) (hn : n ≤ 1100) :
    Calls Tryz.prog 34 #[.pointer (some ⟨p, 0, none⟩), .int .i64 n] W (fun e w' => ∃ v, e = .returned v ∧ StI w0 B p b m ord w' ∧ OwnX w' W.heap.size v (mcut m n)) := by
  obtain ⟨_, _, f0, f1, _⟩ := chkM_ok hc
  have hel := ents_len m
  have hW := hI.2.size
  unfold totM at ht
  refine (without_any hI.1 hm (by omega) (by omega) (by omega) f0 f1 n (by omega)).mono ?_
  rintro e w' ⟨v, rfl, h1, h2, h3⟩
  rw [gath_mcut m hm n] at h2
  exact ⟨v, rfl, ⟨h1, hI.2.trans h3⟩, h2⟩

set_option maxHeartbeats 8000000 in
theorem fit_any {w : World} {hi : Nat} {u : Value} {m : Ms} (h : Mg w hi u m) (h1 : hi ≤ w.heap.size) (hf : m.Fine) (hn : totM m ≤ 1100) (size : Int) :
    Calls Tryz.prog 10 #[u, .int .i64 size] w (FitPost w (fitA m size)) := by
  have hmg := h
  obtain ⟨q, a, n, r, rfl, hq, ha, hn2, hr⟩ := h
  obtain ⟨qa, qc, rfl⟩ := Lst.shape hq
  obtain ⟨aa, ac, rfl⟩ := Lst.shape ha
  obtain ⟨na, nc, rfl⟩ := Lst.shape hn2
  obtain ⟨ra, rc, rfl⟩ := Lst.shape hr
  have hmf : ∀ (fn : Fn) (first cap : Array Value) (w : World), (Instr.makeFunc fn first cap).run Tryz.prog w = .ok (.func fn first cap) w := fun _ _ _ _ => rfl
  obtain ⟨i0, hi0⟩ : ∃ i, m.id = i := ⟨_, rfl⟩
  obtain ⟨f0, hf0⟩ : ∃ i, m.fl = i := ⟨_, rfl⟩
  obtain ⟨lq, hlq⟩ : ∃ i, m.q.length = i := ⟨_, rfl⟩
  obtain ⟨la, hla⟩ : ∃ i, m.an.length = i := ⟨_, rfl⟩
  obtain ⟨ln, hln⟩ : ∃ i, m.ns.length = i := ⟨_, rfl⟩
  obtain ⟨lr, hlr⟩ : ∃ i, m.ar.length = i := ⟨_, rfl⟩
  obtain ⟨E, hEE⟩ : ∃ E, chkM m = E := ⟨_, rfl⟩
  rw [hi0, hf0, hlq, hla, hln, hlr] at hmg ⊢
  obtain ⟨N, hN⟩ : ∃ N, w.heap.size = N := ⟨_, rfl⟩
  obtain ⟨W1, hW1⟩ : ∃ X, (w.alloc (.cells #[.int .i64 i0, .int .i64 f0, .slice qa lq qc, .slice aa la ac, .slice na ln nc, .slice ra lr rc] 25)).alloc (.cells #[.int .i64 size] 3) = X := ⟨_, rfl⟩
  have hb1 : Below w.heap.size w W1 := by rw [← hW1]; exact ((Below.refl _ _).alloc (Nat.le_refl _) _).alloc (by simp) _
  have hx1 : Cel W1 N [.int .i64 i0, .int .i64 f0, .slice qa lq qc, .slice aa la ac, .slice na ln nc, .slice ra lr rc] := by
    rw [← hW1, ← hN]
    exact (cel_new6 w _ _ _ _ _ _ 25).below (by simp) ((Below.refl _ _).alloc (Nat.le_refl _) _)
  have hz1 : W1.cell? ⟨N + 1, 0, none⟩ = some (.int .i64 size) := by
    rw [← hW1, ← hN]
    have := (cel_new1 (w.alloc (.cells #[.int .i64 i0, .int .i64 f0, .slice qa lq qc, .slice aa la ac, .slice na ln nc, .slice ra lr rc] 25)) (.int .i64 size) 3).c 0 (by simp)
    rwa [World.size_alloc] at this
  have hmg1 := (hmg.wide h1).later hb1
  have HCK := Lib.hid (checkM_any hmg1 (Nat.le_refl _) hf)
  have HMG := Lib.hid (And.intro hmg1 (And.intro hb1 (And.intro hf hn)))
  have HX := Lib.hid (And.intro hx1 hz1)
  obtain ⟨x0, x1, x2, x3, x4, x5⟩ := hx1.six
  rw [hEE] at HCK
  have HW1 := Lib.hid hW1
  have HE := Lib.hid hEE
  have HN := Lib.hid hN
  clear hmg hmg1 hq ha hn2 hr hi0 hf0 hlq hla hln hlr hb1 hx1 hW1 hEE hN hn hf
  by_cases hE : E = 0
  · have tE : (E != 0) = false := by rw [hE]; rfl
    go_enter Tryz.func10, Tryz.ntmps10
    go_wp2_with fail
    rw [HW1.out, HN.out]
    clear HW1
    refine HCK.out.mono ?_; rintro e w2 ⟨rfl, hb2⟩
    have hz2 : w2.cell? ⟨N + 1, 0, none⟩ = some (.int .i64 size) := (World.cell?_of_block (w := W1) (a := ⟨N + 1, 0, none⟩) (hb2.block (N + 1) (World.block_lt_of_cell? W1 _ hz1))).trans hz1
    have hx2 := HX.out.1.below (by simp) hb2
    have hm2 := HMG.out.1.later hb2
    have HLY := Lib.hid (lay_any hm2 (Nat.le_refl _) (by have := ents_len m; have := HMG.out.2.2.2; unfold totM at this; omega))
    have HB2 := Lib.hid hb2
    clear x0 x1 x2 x3 x4 x5
    obtain ⟨x0, x1, x2, x3, x4, x5⟩ := hx2.six
    clear hx2 hm2 hb2 hz1
    have hbw : Below w.heap.size w w2 := HMG.out.2.1.trans (HB2.out.mono HMG.out.2.1.size)
    have HBW := Lib.hid hbw
    clear hbw
    by_cases h12 : size < 12
    · have hR : fitA m size = (none, 0, 5) := by unfold fitA; rw [HE.out, hE, if_neg (by simp), if_pos (.inl h12)]
      go_wp2_with fail
      go_ret3
      rw [hR]
      exact ⟨_, rfl, OwnB.nil _ _, HBW.out⟩
    · by_cases h65 : 65535 < size
      · have hR : fitA m size = (none, 0, 5) := by unfold fitA; rw [HE.out, hE, if_neg (by simp), if_pos (.inr h65)]
        go_wp2_with fail
        go_ret3
        rw [hR]
        exact ⟨_, rfl, OwnB.nil _ _, HBW.out⟩
      · have hR : fitA m size = ((wrM (mcut m (fitN m size))).1, fitN m size, 0) := by unfold fitA; rw [HE.out, hE, if_neg (by simp), if_neg (by omega)]
        have HR := Lib.hid hR
        clear hR
        go_wp2_with fail
        clear x0 x1 x2 x3 x4 x5
        refine HLY.out.mono ?_; rintro e w3 ⟨p, b, ord, rfl, hp, hb, hb3, hpb, hsh, hmr, hbl⟩
        obtain ⟨SB, hSB⟩ : ∃ k, w3.heap.size = k := ⟨_, rfl⟩
        obtain ⟨W, hW⟩ : ∃ X, w3.alloc (.cells #[.pointer (some ⟨p, 0, none⟩)] 57) = X := ⟨_, rfl⟩
        have hbW : Below w3.heap.size w3 W := by rw [← hW]; exact (Below.refl _ _).alloc (Nat.le_refl _) _
        have hWs : W.heap.size = SB + 1 := by rw [← hW, World.size_alloc, hSB]
        have z3 : w3.cell? ⟨N + 1, 0, none⟩ = some (.int .i64 size) := (World.cell?_of_block (w := w2) (a := ⟨N + 1, 0, none⟩) (hbl.block (N + 1) (World.block_lt_of_cell? w2 _ hz2))).trans hz2
        have z4 : W.cell? ⟨N + 1, 0, none⟩ = some (.int .i64 size) := (World.cell?_of_block (w := w3) (a := ⟨N + 1, 0, none⟩) (hbW.block (N + 1) (World.block_lt_of_cell? w3 _ z3))).trans z3
        have s4 : W.cell? ⟨SB, 0, none⟩ = some (.pointer (some ⟨p, 0, none⟩)) := by rw [← hW, ← hSB]; exact (cel_new1 w3 _ 57).c 0 (by simp)
        have hsW : Sht W (p + 1) p b m.id m.fl (ents m) ord := by obtain ⟨va, vo, O, hs⟩ := hsh; exact ⟨va, vo, O, hs.below hbW⟩
        have hzN : N + 1 < w2.heap.size := World.block_lt_of_cell? w2 _ hz2
        have hpW : p < SB := by obtain ⟨va, vo, O, hs⟩ := hsh; rw [← hSB]; exact hs.lts
        have c3 : ∃ a c, W.cell? ⟨p, 3, none⟩ = some (.slice a (ents m).length c) := by
          obtain ⟨va, vo, O, hs⟩ := hsW
          have := hs.1.c 3 (by simp)
          rcases hs.2.2.2.2 with ⟨h5, h6⟩ | ⟨c, g, d, e1, e2, e3⟩
          · rw [h6] at this; exact ⟨none, 0, by rw [this, h5]; rfl⟩
          · rw [e2] at this; exact ⟨_, _, this⟩
        obtain ⟨oa, oc, c3⟩ := c3
        have hC0 : chkM m = 0 := by rw [HE.out, hE]
        have hlen : (ents m).length = totM m := by rw [ents_len]; rfl
        have HASK := Lib.hid (fun (w' : World) (n : Nat) (hn : n < totM m) (hI : StI W (p + 1) p b m ord w') => ask_fit (SB := SB) (ZB := N + 1) (size := size) hI hmr hC0 HMG.out.2.2.1 HMG.out.2.2.2 (by omega) (by omega) s4 z4 hpb (by omega) (by omega) (by omega) (by omega) n (by have := HMG.out.2.2.2; omega))
        have HI0 : StI W (p + 1) p b m ord W := ⟨hsW, Aside.refl _ _⟩
        have HSE := Lib.hid (search_any (N := totM m) HI0 (by have := HMG.out.2.2.2; omega) HASK.out (fun i j hij hj hp => by
          obtain ⟨d, rfl⟩ : ∃ d, j = i + d := ⟨j - i, by omega⟩
          exact br_mono hC0 size (by omega) hp d (by omega)))
        obtain ⟨hF1, hF2, hF3⟩ := fitN_facts hC0 (size := size) (by omega)
        have hFb : srP m size (fitN m size) = true := fit_br (cut_chk hC0 _) size (by omega) hF1
        have HFF := Lib.hid (show (wrM (mcut m (fitN m size))).1 = (wrM (mcut m (fitN m size))).1 from rfl)
        rw [hlen] at c3
        have HWO := Lib.hid (fun (w' : World) (n : Nat) (hn : n ≤ totM m) (hI : StI W (p + 1) p b m ord w') => hI.wo hmr hC0 HMG.out.2.2.2 (by omega) (by omega) n (by have := HMG.out.2.2.2; omega))
        have HLT := Lib.hid (fun (w' w'' : World) (hI : StI W (p + 1) p b m ord w') (hb : Below w'.heap.size w' w'') => hI.later hpb (by omega) hb)
        have HWT := Lib.hid (fun (w' : World) (B : Nat) (v : Value) (n : Nat) (hx : OwnX w' B v (mcut m n)) => written_any (hx.mg (by have := cut_tot m n; have := HMG.out.2.2.2; unfold totM at *; omega)) (Nat.le_refl _) (cut_fine HMG.out.2.2.1 n) (by have := cut_tot m n; have := HMG.out.2.2.2; unfold totM at *; omega) size)
        have HCE := Lib.hid (fun (w' : World) (hI : StI W (p + 1) p b m ord w') => (show w'.cell? ⟨SB, 0, none⟩ = some (.pointer (some ⟨p, 0, none⟩)) ∧ w'.cell? ⟨N + 1, 0, none⟩ = some (.int .i64 size) from ⟨hI.2.cell_lt s4 (show ¬ SB = b by omega), hI.2.cell_lt z4 (show ¬ N + 1 = b by omega)⟩))
        have HEND := Lib.hid (fun (w' : World) (hI : StI W (p + 1) p b m ord w') => below_aside (HBW.out.trans ((hbl.mono HBW.out.size).trans (hbW.mono (by have := hbl.size; have := HBW.out.size; omega)))) hI.2 (fun k hk => ⟨by have := hbl.size; have := HBW.out.size; omega, by have := HBW.out.size; omega⟩))
        obtain ⟨F, hF⟩ : ∃ F, fitN m size = F := ⟨_, rfl⟩
        rw [hF] at hF1 hF2 hF3 hFb HR
        obtain ⟨T, hT⟩ : ∃ T, totM m = T := ⟨_, rfl⟩
        rw [hT] at c3 HSE HWO hF2
        have hT1 : T ≤ 1100 := by have := HMG.out.2.2.2; omega
        have HF := Lib.hid (And.intro hF1 (And.intro hF3 hFb))
        clear HASK HI0 hsW hsh hmr hbl hbW hF1 hF3 hFb hF hT hlen hC0 z3 hz2 HFF h12 h65
        go_wp2_with fail
        refine HSE.out.mono ?_; rintro e w5 ⟨r, rfl, hr, hrl, hru, hI5⟩
        have hrF : r ≤ F := by
          rcases Nat.lt_or_ge F r with h | h
          · have := (hrl F h).symm.trans HF.out.2.2; cases this
          · exact h
        have HI5 := Lib.hid hI5
        clear hrl hru hI5 c3 s4 z4 hW
        go_wp2_with fail
        go_loopg [9] F (fun kx s wr => ∃ i : Nat, i ≤ F ∧ F ≤ i + kx ∧ s = .int .i64 i ∧ Hid (StI W (p + 1) p b m ord wr))
        case atStart => exact ⟨r, hrF, by omega, rfl, HI5.out⟩
        case round =>
          obtain ⟨i, hi, hik, rfl, HI⟩ := hrel
          have HID := Lib.hid (HLT.out wr wr.drew HI.out (Below.refl _ _).drew)
          have HCD := Lib.hid (HCE.out _ HID.out)
          have HWOD := Lib.hid (HWO.out wr.drew i (by omega) HID.out)
          obtain ⟨fb, hfb⟩ : ∃ x, fitW (mcut m i) size = x := ⟨_, rfl⟩
          have HFB := Lib.hid hfb
          clear hfb
          go_wp2_with fail
          go_region_held3 (fun wx => wx.cell? ⟨SB, 0, none⟩ = some (.pointer (some ⟨p, 0, none⟩)) ∧ wx.cell? ⟨N + 1, 0, none⟩ = some (.int .i64 size)) (first | exact HCD.out | exact HC6.out | exact HC7.out) (first | (go_at_call 34; refine HWOD.out.mono ?_; rintro e0 w6 ⟨v6, rfl, hi6, hx6⟩; have HI6 := Lib.hid hi6; have HC6 := Lib.hid (HCE.out _ hi6); have HWT6 := Lib.hid (HWT.out _ _ _ _ hx6); clear hi6 hx6) | (go_at_call 35; refine HWT6.out.mono ?_; rintro e0 w7 ⟨v7, rfl, hb7, hz7⟩; have HI7 := Lib.hid (HLT.out _ _ HI6.out hb7); have HC7 := Lib.hid (HCE.out _ HI7.out); have HZ7 := Lib.hid hz7; have HS7 := Lib.hid HI6.out.2.size; clear hb7 hz7))
          rcases fb with _ | _
          · have hlt : i < F := by
              rcases Nat.lt_or_ge i F with h | h
              · exact h
              · have h3 := HF.out.1
                rw [show F = i by omega, HFB.out] at h3
                cases h3
            have hi9 : i < 2000 := by omega
            rw [HFB.out]
            go_wp2_with fail
            go_roundg (F - (i + 1))
            case rel => exact ⟨i + 1, by omega, by omega, by go_num, HI7⟩
            case measure => omega
          · obtain rfl : i = F := by
              rcases Nat.lt_or_ge i F with h | h
              · have h3 := HF.out.2.1 i h
                rw [HFB.out] at h3
                cases h3
              · omega
            rw [HFB.out]
            go_wp2_with fail
            go_ret3
            rw [HR.out]
            obtain ⟨z, hz1, hz2⟩ := HZ7.out HFB.out
            refine ⟨_, rfl, ?_, HEND.out _ HI7.out⟩
            rw [hz1]
            exact hz2.mono (by have := HS7.out; have := HN.out; omega)
  · have tE : (E != 0) = true := by simpa using hE
    go_enter Tryz.func10, Tryz.ntmps10
    go_wp2_with fail
    rw [HW1.out, HN.out]
    clear HW1
    refine HCK.out.mono ?_; rintro e w2 ⟨rfl, hb2⟩
    have HB2 := Lib.hid hb2
    clear hb2 x0 x1 x2 x3 x4 x5 hz1
    go_wp2_with fail
    go_ret3
    rw [show fitA m size = (none, 0, E) by unfold fitA; rw [HE.out, if_pos hE]]
    exact ⟨_, rfl, OwnB.nil _ _, HMG.out.2.1.trans (HB2.out.mono HMG.out.2.1.size)⟩
end Go.Proofs.YteegekpanadmkaaGreat

/-
  The chapter's message, in so many bytes: values.
-/
namespace Go.Proofs.YteegekpanadmkaaGreat
open Go.RowKit Go.Shelf
set_option linter.unusedVariables false
set_option linter.unusedSimpArgs false
set_option maxRecDepth 100000

def samQ : Qn := ⟨[1, 97, 0], 1, 1⟩
def samR : Rc := ⟨[1, 97, 0], 1, 1, 5, [49, 50, 51, 52]⟩
def samO : Rc := ⟨[0], 41, 1232, 0, []⟩
def samM : Ms := ⟨7, 32768, [samQ], [samR], [], [samO]⟩
def samB : List UInt8 := [0, 7, 128, 0, 0, 1, 0, 1, 0, 0, 0, 1, 1, 97, 0, 0, 1, 0, 1, 192, 12, 0, 1, 0, 1, 0, 0, 0, 5, 0, 4, 49, 50, 51, 52, 0, 0, 41, 4, 208, 0, 0, 0, 0, 0, 0]
theorem t1 : wrM samM = (some samB, 0) := by kernel_rfl
end Go.Proofs.YteegekpanadmkaaGreat

/-
  The chapter's message made; what is asked of it.
-/
namespace Go.Proofs.YteegekpanadmkaaGreat
open Go.RowKit Go.Shelf
set_option linter.unusedVariables false
set_option linter.unusedSimpArgs false
set_option maxRecDepth 100000

set_option maxHeartbeats 4000000 in
theorem sample_any (w : World) : Calls Tryz.prog 26 #[] w fun e w' => ∃ v, e = .returned v ∧ Mg w' w'.heap.size v samM ∧ Below w.heap.size w w' := by
  obtain ⟨N, hN⟩ : ∃ N, w.heap.size = N := ⟨_, rfl⟩
  have HN := Lib.hid hN
  go_enter Tryz.func26, Tryz.ntmps26
  go_wp2
  obtain ⟨W1, hW1⟩ : ∃ X, w.alloc (.cells #[.int .i64 7, .int .i64 32768, .slice (some ⟨N + 1 + 1, 0, none⟩) 1 1, .slice (some ⟨N + 1 + 1 + 1 + 1, 0, none⟩) 1 1, .slice none 0 0, .slice (some ⟨N + 1 + 1 + 1 + 1 + 1, 0, none⟩) 1 1] 25) = X := ⟨_, rfl⟩
  obtain ⟨W2, hW2⟩ : ∃ X, W1.alloc (.cells #[.string ⟨#[1, 97, 0]⟩, .int .i64 1, .int .i64 1] 56) = X := ⟨_, rfl⟩
  obtain ⟨W3, hW3⟩ : ∃ X, W2.alloc (.cells #[.string ⟨#[1, 97, 0]⟩, .int .i64 1, .int .i64 1] 56) = X := ⟨_, rfl⟩
  obtain ⟨W4, hW4⟩ : ∃ X, W3.alloc (.cells #[.int .i64 7, .int .i64 32768, .slice (some ⟨N + 1 + 1, 0, none⟩) 1 1, .slice (some ⟨N + 1 + 1 + 1 + 1, 0, none⟩) 1 1, .slice none 0 0, .slice (some ⟨N + 1 + 1 + 1 + 1 + 1, 0, none⟩) 1 1] 25) = X := ⟨_, rfl⟩
  obtain ⟨W5, hW5⟩ : ∃ X, W4.alloc (.cells #[.string ⟨#[1, 97, 0]⟩, .int .i64 1, .int .i64 1, .int .i64 5, .string ⟨#[49, 50, 51, 52]⟩] 52) = X := ⟨_, rfl⟩
  obtain ⟨W6, hW6⟩ : ∃ X, W5.alloc (.cells #[.string ⟨#[0]⟩, .int .i64 41, .int .i64 1232, .int .i64 0, .string ⟨#[]⟩] 52) = X := ⟨_, rfl⟩
  rw [hW1, hW2, hW3, hW4, hW5, hW6]
  have l1 : W1.heap.size = N + 1 := by rw [← hW1, World.size_alloc, hN]
  have l2 : W2.heap.size = N + 1 + 1 := by rw [← hW2, World.size_alloc, l1]
  have l3 : W3.heap.size = N + 1 + 1 + 1 := by rw [← hW3, World.size_alloc, l2]
  have l4 : W4.heap.size = N + 1 + 1 + 1 + 1 := by rw [← hW4, World.size_alloc, l3]
  have l5 : W5.heap.size = N + 1 + 1 + 1 + 1 + 1 := by rw [← hW5, World.size_alloc, l4]
  have b6 : Below W5.heap.size W5 W6 := by rw [← hW6]; exact (Below.refl _ _).alloc (Nat.le_refl _) _
  have b5 : Below W4.heap.size W4 W6 := by refine Below.trans ?_ (b6.mono (by omega)); rw [← hW5]; exact (Below.refl _ _).alloc (Nat.le_refl _) _
  have b4 : Below W3.heap.size W3 W6 := by refine Below.trans ?_ (b5.mono (by omega)); rw [← hW4]; exact (Below.refl _ _).alloc (Nat.le_refl _) _
  have b3 : Below W2.heap.size W2 W6 := by refine Below.trans ?_ (b4.mono (by omega)); rw [← hW3]; exact (Below.refl _ _).alloc (Nat.le_refl _) _
  have b2 : Below W1.heap.size W1 W6 := by refine Below.trans ?_ (b3.mono (by omega)); rw [← hW2]; exact (Below.refl _ _).alloc (Nat.le_refl _) _
  have b1 : Below w.heap.size w W6 := by refine Below.trans ?_ (b2.mono (by omega)); rw [← hW1]; exact (Below.refl _ _).alloc (Nat.le_refl _) _
  have hc : Cel W6 N [.int .i64 7, .int .i64 32768, .slice (some ⟨N + 1 + 1, 0, none⟩) 1 1, .slice (some ⟨N + 1 + 1 + 1 + 1, 0, none⟩) 1 1, .slice none 0 0, .slice (some ⟨N + 1 + 1 + 1 + 1 + 1, 0, none⟩) 1 1] := by
    have := cel_new6 w (.int .i64 7) (.int .i64 32768) (.slice (some ⟨N + 1 + 1, 0, none⟩) 1 1) (.slice (some ⟨N + 1 + 1 + 1 + 1, 0, none⟩) 1 1) (.slice none 0 0) (.slice (some ⟨N + 1 + 1 + 1 + 1 + 1, 0, none⟩) 1 1) 25
    rw [hW1, hN] at this
    exact this.below (by simp) b2
  have hq := sq_one W2 samQ
  have hr := sr_one W4 samR
  have ho := sr_one W5 samO
  unfold samQ at hq
  unfold samR at hr
  unfold samO at ho
  rw [show bs [1, 97, 0] = ⟨#[1, 97, 0]⟩ from rfl] at hq hr
  rw [show bs [49, 50, 51, 52] = ⟨#[49, 50, 51, 52]⟩ from rfl] at hr
  rw [show bs [0] = ⟨#[0]⟩ from rfl, show bs [] = ⟨#[]⟩ from rfl] at ho
  rw [l2] at hq
  rw [l4] at hr
  rw [l5] at ho
  rw [hW3] at hq
  rw [hW5] at hr
  rw [hW6] at ho
  have s6 : W6.heap.size = N + 1 + 1 + 1 + 1 + 1 + 1 := by rw [← hW6, World.size_alloc, l5]
  obtain ⟨m0, m1, m2, m3, m4, m5⟩ := hc.six
  refine bodyPost_ret (v := .agg #[.int .i64 7, .int .i64 32768, .slice (some ⟨N + 1 + 1, 0, none⟩) 1 1, .slice (some ⟨N + 1 + 1 + 1 + 1, 0, none⟩) 1 1, .slice none 0 0, .slice (some ⟨N + 1 + 1 + 1 + 1 + 1, 0, none⟩) 1 1]) (by simp [results, Tryz.results26, go_sem, m0, m1, m2, m3, m4, m5]) rfl ⟨_, rfl, ⟨_, _, _, _, rfl, ?_, ?_, Lst.nil _ _, ?_⟩, b1⟩
  · exact Lst.wide (Lst.below hq (b4.mono (Nat.le_of_eq l3.symm)) (Nat.le_refl _)) (by omega)
  · exact Lst.wide (Lst.below hr (b6.mono (Nat.le_of_eq l5.symm)) (Nat.le_refl _)) (by omega)
  · exact Lst.wide ho (by omega)
theorem samFine : samM.Fine := ⟨by decide, by decide, by decide, by decide⟩

set_option maxHeartbeats 4000000 in
theorem fits_any (w : World) (size : Int) {z : List UInt8} {n : Nat} (h : fitA samM size = (some z, n, 0)) : Calls Tryz.prog 27 #[.int .i64 size, .int .i64 z.length, .int .i64 n] w (Tells w (.bool true)) := by
  have HS := Lib.hid (sample_any w)
  have HF := Lib.hid (fun (wx : World) (v : Value) (hm : Mg wx wx.heap.size v samM) => fit_any hm (Nat.le_refl _) samFine (by decide) size)
  rw [h] at HF
  go_enter Tryz.func27, Tryz.ntmps27
  go_wp2_with fail
  refine HS.out.mono ?_; rintro e w1 ⟨v, rfl, hm, hb⟩
  have HFF := Lib.hid (HF.out w1 v hm)
  have HB := Lib.hid hb
  clear hm hb HF
  go_wp2_with fail
  refine HFF.out.mono ?_; rintro e w2 ⟨v2, rfl, ho, hb2⟩
  obtain ⟨a, c, rfl⟩ := OwnB.shape ho
  have HB2 := Lib.hid (HB.out.trans (hb2.mono HB.out.size))
  simp only [Option.getD_some]
  obtain ⟨L, hL⟩ : ∃ L, z.length = L := ⟨_, rfl⟩
  rw [hL]
  clear ho hb2 h HS HFF hL
  go_wp2_with fail
  go_ret
  exact ⟨rfl, HB2.out⟩
theorem fA46 : fitA samM 46 = (some samB, 0, 0) := by kernel_rfl
def samB1 : List UInt8 := [0, 7, 130, 0, 0, 1, 0, 0, 0, 0, 0, 1, 1, 97, 0, 0, 1, 0, 1, 0, 0, 41, 4, 208, 0, 0, 0, 0, 0, 0]
theorem fA45 : fitA samM 45 = (some samB1, 1, 0) := by kernel_rfl

set_option maxHeartbeats 1000000 in
theorem awake10_any (w : World) : Calls Tryz.prog 17 #[] w (Tells w (.bool true)) := by
  have H1 := Lib.hid (fun wx => fits_any wx 46 fA46)
  have H2 := Lib.hid (fun wx => fits_any wx 45 fA45)
  go_enter Tryz.func17, Tryz.ntmps17
  go_wp2_with fail
  refine (H1.out w).mono ?_; rintro e w1 ⟨rfl, hb⟩
  have HB := Lib.hid hb
  clear hb
  go_wp2_with fail
  refine (H2.out w1).mono ?_; rintro e w2 ⟨rfl, hb⟩
  have HB2 := Lib.hid (bel_call HB.out hb)
  clear hb
  go_wp2_with fail
  go_ret
  exact ⟨rfl, HB2.out⟩
end Go.Proofs.YteegekpanadmkaaGreat

/-
  What is left of a message's lists; a message that is too much for the statements.
-/
namespace Go.Proofs.YteegekpanadmkaaGreat
open Go.RowKit Go.Shelf
set_option linter.unusedVariables false
set_option linter.unusedSimpArgs false
set_option maxRecDepth 100000

theorem big_fine {most : Nat} {m : Ms} {M : Nat} (hM : M ≤ 1000000) (h : bigMs most M m = false) : m.Fine := by
  obtain ⟨_, h1, h2, h3, h4⟩ := bigMs_no h
  exact ⟨fun x hx => Nat.le_trans (h1 x hx) hM, fun x hx => ⟨Nat.le_trans (h2 x hx).1 hM, Nat.le_trans (h2 x hx).2 hM⟩, fun x hx => ⟨Nat.le_trans (h3 x hx).1 hM, Nat.le_trans (h3 x hx).2 hM⟩, fun x hx => ⟨Nat.le_trans (h4 x hx).1 hM, Nat.le_trans (h4 x hx).2 hM⟩⟩
theorem fitW_len {m : Ms} {size : Int} (h : fitW m size = true) : ∃ z, wrM m = (some z, 0) ∧ (z.length : Int) ≤ size := by
  unfold fitW at h
  rcases wrM_how m with ⟨z, hz⟩ | ⟨e, hz, he⟩
  · rw [hz] at h
    exact ⟨z, hz, by simpa using h⟩
  · rw [hz] at h; cases h

theorem cut_kept (m : Ms) (n : Nat) : (mcut m n).ar.filter nO = (m.ar.filter nO).take (nA m - n) ∧ (mcut m n).ar.length = (nA m - n) + (nD m - (n - (nA m + m.ns.length + m.an.length))) ∧ (m.ar.filter nO).length = nA m := by
  have hAD := nA_nD m
  have hc := lop_count nO n m.ar
  have hf := lop_filter nO n m.ar
  have ho := lop_other nO n m.ar
  have hA : m.ar.countP nO = nA m := rfl
  have hAl : (m.ar.filter nO).length = nA m := by rw [← List.countP_eq_length_filter]; rfl
  have hln : (lop nO n m.ar).length = (nA m - n) + nD m := by
    have h1 := List.length_eq_countP_add_countP (p := nO) (l := lop nO n m.ar)
    have h2 : (lop nO n m.ar).countP (fun x => !nO x) = nD m := by
      rw [List.countP_eq_length_filter, ho]
      have h3 := List.length_eq_countP_add_countP (p := nO) (l := m.ar)
      rw [← List.countP_eq_length_filter]
      have e : (fun a => decide ¬ nO a = true) = (fun x => !nO x) := by funext a; cases nO a <;> rfl
      rw [e] at h3
      omega
    have e : (fun a => decide ¬ nO a = true) = (fun x => !nO x) := by funext a; cases nO a <;> rfl
    rw [e] at h1
    omega
  show ((lop nO n m.ar).take _).filter nO = _ ∧ ((lop nO n m.ar).take _).length = _ ∧ _
  rw [hln, List.length_take, hln]
  refine ⟨?_, by omega, hAl⟩
  by_cases hn : n ≤ nA m + m.ns.length + m.an.length
  · rw [List.take_of_length_le (by rw [hln]; omega), hf, hA]
  · have h0 : nA m - n = 0 := by omega
    rw [h0, List.take_zero, List.filter_eq_nil_iff]
    intro x hx
    have hx2 := List.mem_of_mem_take hx
    have : (lop nO n m.ar).countP nO = 0 := by rw [hc, hA, h0]
    exact List.countP_eq_zero.mp this x hx2

set_option maxHeartbeats 1000000 in
theorem big10_any {w : World} {u : Value} {m : Ms} (h : Mg w w.heap.size u m) : Calls Tryz.prog 8 #[u] w (Tells w (.bool (bigMs 60 3000 m))) := by
  obtain ⟨q, a, n, r, rfl, hq, ha, hn, hr⟩ := h
  obtain ⟨qa, qc, rfl⟩ := Lst.shape hq
  obtain ⟨aa, ac, rfl⟩ := Lst.shape ha
  obtain ⟨na, nc, rfl⟩ := Lst.shape hn
  obtain ⟨ra, rc, rfl⟩ := Lst.shape hr
  have hm : Mg w w.heap.size (.agg #[.int .i64 m.id, .int .i64 m.fl, .slice qa m.q.length qc, .slice aa m.an.length ac, .slice na m.ns.length nc, .slice ra m.ar.length rc]) m := ⟨_, _, _, _, rfl, hq, ha, hn, hr⟩
  obtain ⟨i0, hi0⟩ : ∃ i, m.id = i := ⟨_, rfl⟩
  obtain ⟨f0, hf0⟩ : ∃ i, m.fl = i := ⟨_, rfl⟩
  obtain ⟨lq, hlq⟩ : ∃ i, m.q.length = i := ⟨_, rfl⟩
  obtain ⟨la, hla⟩ : ∃ i, m.an.length = i := ⟨_, rfl⟩
  obtain ⟨ln, hln⟩ : ∃ i, m.ns.length = i := ⟨_, rfl⟩
  obtain ⟨lr, hlr⟩ : ∃ i, m.ar.length = i := ⟨_, rfl⟩
  obtain ⟨R, hR⟩ : ∃ r, bigMs 60 3000 m = r := ⟨_, rfl⟩
  rw [hi0, hf0, hlq, hla, hln, hlr] at hm ⊢
  have hb : Below w.heap.size w (w.alloc (.cells #[.int .i64 i0, .int .i64 f0, .slice qa lq qc, .slice aa la ac, .slice na ln nc, .slice ra lr rc] 25)) := (Below.refl _ _).alloc (Nat.le_refl _) _
  have HC := Lib.hid (bigM_any 60 3000 (by decide) (by decide) (hm.later hb) (Nat.le_refl _))
  have HB := Lib.hid hb
  rw [hR] at HC ⊢
  clear hm hq ha hn hr hi0 hf0 hlq hla hln hlr hb hR
  go_enter Tryz.func8, Tryz.ntmps8
  go_wp2_with fail
  refine HC.out.mono ?_; rintro e w1 ⟨rfl, hb⟩
  have HB2 := Lib.hid (bel_call HB.out hb)
  clear hb
  go_wp2_with fail
  go_ret
  exact ⟨rfl, HB2.out⟩
end Go.Proofs.YteegekpanadmkaaGreat
