/-
  The document's labels; its Check.
-/
import Derived.Test.YtaikpgcmcmkdcaaTg
namespace Go.Proofs.Ytaikpgcmcmkdcaa
open Go.RowKit
set_option linter.unusedVariables false
set_option maxRecDepth 100000

theorem rlabels_post {w wr : World} {n : List UInt8} {c : Int} (hc : chk n = c) (h0 : c ≠ 0) (hb : Below w.heap.size w wr) : LabsPost w n (.returned (.tuple #[.slice none 0 0, .int .i64 c])) wr := by
  subst hc
  exact ⟨_, rfl, by unfold lbs; rw [if_neg h0]; exact OwnT.nil _ _, hb⟩

set_option maxHeartbeats 2000000 in
theorem rlabels_any (n : List UInt8) (hn : n.length ≤ 1000000) (w : World) : Calls Try.prog 54 #[.string (bs n)] w (LabsPost w n) := by
  go_enter Try.func54, Try.ntmps54
  go_wp2
  go_loopw [4, 5] (fun v i wr => ∃ (p : Nat) (pre : List (List UInt8)), p ≤ n.length ∧ i = .int .i64 p ∧ Hid (OwnT wr w.heap.size v pre) ∧ Hid (labs n = pre ++ labs (n.drop p) ∧ left n = left (n.drop p) ∧ pre.length ≤ p) ∧ Hid (Below w.heap.size w wr)) (fun _ i _ => n.length - (intOf i).toNat)
  case atStart => exact ⟨0, [], Nat.zero_le _, rfl, OwnT.nil _ _, ⟨rfl, rfl, by simp⟩, Below.refl _ _⟩
  case round =>
    obtain ⟨p, pre, hp, rfl, HO, HL, HB⟩ := hrel
    by_cases hlt : p < n.length
    · have hix := ix_run n p hlt
      have hc8 : n[p].toNat < 256 := n[p].toNat_lt
      have hstep := labs_yes n p hlt
      have hno := labs_no n p hlt
      have hcut := cut_run n (p + 1) (p + 1 + n[p].toNat) (by omega)
      have hdrop : n.drop p = n[p] :: n.drop (p + 1) := List.drop_eq_getElem_cons hlt
      by_cases hz : n[p].toNat = 0
      · have hl : left n = n[p] :: n.drop (p + 1) := by rw [HL.out.2.1, (hno (.inl hz)).2, hdrop]
        have hz0 : n[p] = 0 := by
          apply UInt8.toNat_inj.mp
          rw [hz]; rfl
        rw [hz0] at hl
        have hla : labs n = pre := by rw [HL.out.1, (hno (.inl hz)).1, List.append_nil]
        rw [hz] at hix
        clear hstep hno hcut hdrop hz hz0 hc8
        by_cases he : p + 1 = n.length
        · have hl0 : left n = [0] := by rw [hl, List.drop_eq_nil_of_le (by omega)]
          have tz : ((p : Int) != n.length - 1) = false := by simp; omega
          by_cases hbig : 255 < n.length
          · have h3 : chk n = 3 := by unfold chk; rw [if_pos hl0, if_pos hbig]
            have HP := Lib.hid (rlabels_post h3 (by decide) HB.out)
            have t3 : decide ((255 : Int) < n.length) = true := by simp; omega
            clear hl hl0 h3 hla
            go_wp2
            go_ret2
            exact HP.out
          · have h0 : chk n = 0 := by unfold chk; rw [if_pos hl0, if_neg hbig]
            have HP := Lib.hid (show ∀ v, OwnT wr w.heap.size v pre → LabsPost w n (.returned (.tuple #[v, .int .i64 0])) wr from fun v hv => ⟨v, by rw [h0], by unfold lbs; rw [if_pos h0, hla]; exact hv, HB.out⟩)
            have t3 : decide ((255 : Int) < n.length) = false := by simp; omega
            clear hl hl0 h0 hla
            go_wp2
            go_ret2
            exact HP.out _ HO.out
        · have h4 : chk n = 4 := by
            unfold chk
            rw [if_neg]
            rw [hl]
            intro e
            injection e with e1 e2
            have := congrArg List.length e2
            simp at this
            omega
          have HP := Lib.hid (rlabels_post h4 (by decide) HB.out)
          have tz : ((p : Int) != n.length - 1) = true := by simp; omega
          clear hl h4 hla
          go_wp2
          go_ret2
          exact HP.out
      · by_cases hbad : 63 < n[p].toNat ∨ n.length < p + 1 + n[p].toNat
        · have hl : left n = n[p] :: n.drop (p + 1) := by rw [HL.out.2.1, (hno (.inr hbad)).2, hdrop]
          have h4 : chk n = 4 := by
            unfold chk
            rw [if_neg]
            rw [hl]
            intro e
            injection e with e1 e2
            rw [e1] at hz
            exact hz rfl
          have HP := Lib.hid (rlabels_post h4 (by decide) HB.out)
          obtain ⟨c, hcn⟩ : ∃ c, n[p].toNat = c := ⟨_, rfl⟩
          rw [hcn] at hix hc8 hz hbad
          clear hstep hno hcut hdrop hl h4 hcn
          have t1 : ((c : Int) == 0) = false := by simp; omega
          have hor : decide ((63 : Int) < c) = true ∨ (decide ((63 : Int) < c) = false ∧ decide ((n.length : Int) < p + 1 + c) = true) := by
            by_cases h : 63 < c
            · exact .inl (by simp; omega)
            · exact .inr ⟨by simp; omega, by simp; omega⟩
          clear hbad
          rcases hor with t2 | ⟨t2, t3⟩
          all_goals
            go_wp2
            go_ret2
            exact HP.out
        · have hcut := hcut (by omega)
          obtain ⟨h1, h2⟩ := hstep (by omega)
          obtain ⟨c, hcn⟩ : ∃ c, n[p].toNat = c := ⟨_, rfl⟩
          rw [hcn] at hix hc8 hz hbad hcut h1 h2
          rw [show p + 1 + c - (p + 1) = c by omega] at hcut
          push_cast at hcut
          obtain ⟨x, hx⟩ : ∃ x, (n.drop (p + 1)).take c = x := ⟨_, rfl⟩
          rw [hx] at hcut h1
          have t1 : ((c : Int) == 0) = false := by simp; omega
          have t2 : decide ((63 : Int) < c) = false := by simp; omega
          have t3 : decide ((n.length : Int) < p + 1 + c) = false := by simp; omega
          have HL2 := Lib.hid (show labs n = (pre ++ [x]) ++ labs (n.drop (p + 1 + c)) ∧ left n = left (n.drop (p + 1 + c)) ∧ (pre ++ [x]).length ≤ p + 1 + c from
            ⟨by rw [HL.out.1, h1]; simp, HL.out.2.1.trans h2, by have := HL.out.2.2; simp; omega⟩)
          have hpre := HL.out.2.2
          clear hx h1 h2 hdrop hstep hno hcn
          go_wp2_with (at_builtin; refine wpList_appT rfl (.tmp 28) (.tmp 37) rfl rfl w.heap.size ?l1 ?h1 _ _ pre [x] rfl rfl ?a1 ?b1 ?c1 ?d1 ?_)
          case l1 => exact wr.heap.size
          case h1 => exact wr.heap.size + 1
          case a1 => exact HO.out.below ((Below.refl _ _).alloc (Nat.le_refl _) _)
          case b1 => exact st_one wr x
          case c1 => simp; omega
          case d1 => have := HB.out.size; simp; omega
          intro a' c' w' HO2 hb2
          have HB2 := Lib.hid ((HB.out.alloc HB.out.size _).trans hb2)
          clear hb2
          go_wp2
          refine ⟨⟨p + 1 + c, pre ++ [x], by omega, by go_num, HO2, HL2, HB2⟩, ?_⟩
          simp [intOf]; omega
    · have h4 : chk n = 4 := by
        unfold chk
        rw [if_neg]
        rw [HL.out.2.1, (labs_end n p (by omega)).2]
        simp
      have HP := Lib.hid (rlabels_post h4 (by decide) HB.out)
      clear h4
      go_wp2
      go_ret2
      exact HP.out

set_option maxHeartbeats 400000 in
theorem rcheck_any (n : List UInt8) (hn : n.length ≤ 1000000) (w : World) : Calls Try.prog 29 #[.string (bs n)] w (Tells w (.int .i64 (chk n))) := by
  have HC := Lib.hid (rlabels_any n hn)
  go_enter Try.func29, Try.ntmps29
  go_wp2_with (go_at_call 54; refine (HC.out _).mono ?_; rintro e w1 ⟨v, rfl, ho, hb⟩; have HB := Lib.hid hb; clear hb ho)
  go_ret
  exact ⟨rfl, HB.out⟩
end Go.Proofs.Ytaikpgcmcmkdcaa
