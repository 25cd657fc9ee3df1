/-
  The document's Parent; slices.Equal, cmp.Compare, slices.Compare at texts; Within, Compare of the program.
-/
import Derived.Test.YtibaeklpgfadpaaTp
import Derived.WalkLawsBesides
namespace Go.Proofs.Ytibaeklpgfadpaa
open Go.RowKit Go.Shelf
set_option linter.unusedVariables false

def LP (w : World) (c : Int) (L : List (List UInt8)) (e : Ending) (w' : World) : Prop := ∃ v, e = .returned (.tuple #[v, .int .i64 c]) ∧ OwnT w' w.heap.size v L ∧ Below w.heap.size w w'
theorem rlabels_c {n : List UInt8} {c : Int} {L : List (List UInt8)} (hn : n.length ≤ 900000) (hc : chk n = c) (hL : lbs n = L) (w : World) : Calls Try.prog 12 #[.string (bs n)] w (LP w c L) := by
  subst hc; subst hL
  exact rlabels_any n (by omega) w

set_option maxHeartbeats 1000000 in
theorem rparent_any (n : List UInt8) (hn : n.length ≤ 900000) (w : World) : Calls Try.prog 23 #[.string (bs n)] w (Tells w (.tuple #[.string (bs (par n)), .bool (hasP n)])) := by
  by_cases h1 : chk n = 0
  · have HLB := Lib.hid (show lbs n = labs n by unfold lbs; rw [if_pos h1])
    by_cases h2 : n = [0]
    · have e1 : par n = [] := by unfold par; rw [if_neg (fun h => h.2 h2)]
      have e2 : hasP n = false := by unfold hasP; simp [h2]
      have e3 := Lib.hid (show lbs n = [] by rw [HLB.out]; exact (labs_root n h1).2 h2)
      rw [e1, e2]
      have HL := Lib.hid (rlabels_c hn h1 e3.out)
      clear h1 h2 e1 e2
      go_enter Try.func23, Try.ntmps23
      go_wp2_with fail
      refine (HL.out _).mono ?_; rintro e w1 ⟨v, rfl, ho, hb1⟩; have HBw1 := Lib.hid hb1; clear hb1
      obtain ⟨a, c, rfl⟩ := ho.shape
      clear ho
      go_wp2_with fail
      go_ret2
      exact ⟨rfl, HBw1.out⟩
    · obtain ⟨x, r, hl, hp, hj, hg, hlen⟩ := par_eq n h1 h2
      have e2 : hasP n = true := by unfold hasP; simp [h1, h2]
      have e3 := Lib.hid (show lbs n = x :: r by rw [HLB.out]; exact hl)
      have hrl : (wire r).length ≤ 900000 := by
        have := congrArg List.length hp
        unfold par at this
        rw [if_pos ⟨h1, h2⟩, List.length_drop] at this
        simp at this
        omega
      have e4 : jcode r = 0 := (jname_short r (fun y hy => labs_short n y (by rw [hl]; exact List.mem_cons_of_mem _ hy)) (by
        have := congrArg List.length hp
        unfold par at this
        rw [if_pos ⟨h1, h2⟩, List.length_drop] at this
        have h255 := (chk_ok h1).2
        simp at this
        omega)).2
      have HJ := Lib.hid (fun (v : Value) (w : World) (lo hi : Nat) (hst : St w lo hi v r) => rjoin_any r v w hst hrl)
      rw [hj, e4] at HJ
      rw [hp, e2]
      have HL := Lib.hid (rlabels_c hn h1 e3.out)
      obtain ⟨pn, hpn⟩ : ∃ pn, wire r ++ [0] = pn := ⟨_, rfl⟩
      rw [hpn] at HJ ⊢
      clear h1 h2 e2 hp hj hg hlen hrl e4 hpn hl
      go_enter Try.func23, Try.ntmps23
      go_wp2_with fail
      refine (HL.out _).mono ?_; rintro e w1 ⟨v, rfl, ho, hb1⟩; have HBw1 := Lib.hid hb1; clear hb1
      obtain ⟨a, c, rfl⟩ := ho.shape
      obtain ⟨sv, hsl, hst⟩ := st_from (p := 1) ho.st (by simp)
      have hst' : St w1 w.heap.size w1.heap.size sv r := hst
      have HST := Lib.hid hst'
      have t1 : ((((x :: r).length : Nat) : Int) == 0) = false := by simp; omega
      have hsl' : ∀ wx, (Instr.slice 22 (.slice a (x :: r).length c) (some (.int .i64 1)) none none).run Try.prog wx = .ok sv wx := hsl
      clear ho hst hst' hsl
      obtain ⟨m, hm⟩ : ∃ m, (x :: r).length = m := ⟨_, rfl⟩
      rw [hm] at hsl' t1 ⊢
      clear hm
      go_wp2_with fail
      refine (HJ.out _ _ _ _ HST.out).mono ?_; rintro e w2 ⟨rfl, hb1⟩; have HBw2 := Lib.hid hb1; clear hb1
      go_wp2_with fail
      go_ret2
      exact ⟨rfl, bel_call HBw1.out HBw2.out⟩
  · have e1 : par n = [] := by unfold par; rw [if_neg (fun h => h1 h.1)]
    have e2 : hasP n = false := by unfold hasP; simp [h1]
    rw [e1, e2]
    obtain ⟨c0, hc0⟩ : ∃ c, chk n = c := ⟨_, rfl⟩
    have HL := Lib.hid (rlabels_c hn hc0 rfl)
    rw [hc0] at h1
    have t1 : (c0 != 0) = true := by simpa using h1
    clear h1 e1 e2 hc0
    go_enter Try.func23, Try.ntmps23
    go_wp2_with fail
    refine (HL.out _).mono ?_; rintro e w1 ⟨v, rfl, ho, hb1⟩; have HBw1 := Lib.hid hb1; clear hb1 ho
    go_wp2_with fail
    go_ret2
    exact ⟨rfl, HBw1.out⟩
end Go.Proofs.Ytibaeklpgfadpaa
