/-
  The iterator that goes along the labels of bytes.
-/
import Derived.Test.YtaikpgcmcmkdcaaTa
import Derived.RangeFuncNested
import Derived.RangeFuncBound
import Derived.RangeFuncCalls
import Derived.Shelf.Abstract
import Derived.Shelf.RegionOpen
import Derived.OwnWalkIn
import Derived.TacticsInMore
import Derived.LoopNIn
import Derived.LoopIn
import Derived.Outline
namespace Go.Proofs.Ytaikpgcmcmkdcaa
open Go.RowKit Go.Shelf
set_option linter.unusedVariables false
set_option maxRecDepth 100000

set_option maxHeartbeats 1000000 in
theorem labels1_seq (n : List UInt8) (Bn : Nat) (hn : n.length ≤ 4000000000000000000) : SeqT Try.prog 93 #[.pointer (some ⟨Bn, 0, none⟩)] (fun b => b = Bn) (fun _ => False) ((labs n).map bs) none (fun w => w.cell? ⟨Bn, 0, none⟩ = some (.string (bs n))) := by
  intro l J Jx W hJ hY hSt h0
  rw [List.length_map]
  show CallsIn _ _ _ _ #[.func (.yield l) #[] #[], .pointer (some ⟨Bn, 0, none⟩)] _ _
  have hc := hSt
  have HY := Lib.hid hY
  clear hY hSt hJ
  refine callsIn_of_wp Try.func93 rfl trivial ?_
  simp only [Try.ntmps93, List.size_toArray, List.length_cons, List.length_nil, Nat.reduceAdd, Nat.reduceSub, Array.replicate_succ,
     Array.replicate_zero, List.push_toArray, List.append_toArray, List.nil_append, List.cons_append]
  gi_wp2
  gi_loopw [3] (fun i wr => ∃ p k : Nat, i = .int .i64 p ∧ p ≤ n.length ∧ Hid ((labs n).drop k = labs (n.drop p) ∧ k ≤ (labs n).length) ∧ Hid (wr.cell? ⟨Bn, 0, none⟩ = some (.string (bs n))) ∧ Hid (J k wr)) (fun i _ => n.length - (intOf i).toNat)
  case atStart => exact ⟨0, 0, rfl, by omega, ⟨by simp, by omega⟩, hc, h0⟩
  case round =>
    obtain ⟨p, k, rfl, hp, HL, HC, HJ⟩ := hrel
    have hdone : labs (n.drop p) = [] → J (labs n).length wr := fun h => by
      have := along_end (HL.out.1.trans h) HL.out.2
      rw [← this]; exact HJ.out
    by_cases hlt : p < n.length
    · have hc := HC.out
      have hix := ix_run n p hlt
      have hc8 : n[p].toNat < 256 := n[p].toNat_lt
      have hstep := labs_yes n p hlt
      have hno := labs_no n p hlt
      have hcut := cut_run n (p + 1) (p + 1 + n[p].toNat) (by omega)
      obtain ⟨c, hcn⟩ : ∃ c, n[p].toNat = c := ⟨_, rfl⟩
      rw [hcn] at hix hc8 hstep hno hcut
      clear hcn
      by_cases h : c = 0 ∨ 63 < c ∨ n.length < p + 1 + c
      · have HD := Lib.hid (hdone (hno h).1)
        clear hno hstep hcut hdone
        gi_wp2
        all_goals
          refine ⟨fun _ h => (by cases h), ?_⟩
          gi_wp2
          refine bodyPost_ret (results_none rfl _ _ _) rfl ?_
          exact .inl ⟨rfl, ⟨_, rfl⟩, HD.out⟩
      · have hcut := hcut (by omega)
        obtain ⟨h1, h2, h3⟩ := along_step (HL.out.1.trans (hstep h).1)
        clear hno hstep hdone
        rw [show p + 1 + c - (p + 1) = c by omega] at hcut
        push_cast at hcut
        obtain ⟨x, hx⟩ : ∃ x, (n.drop (p + 1)).take c = x := ⟨_, rfl⟩
        rw [hx] at hcut h1
        clear hx
        obtain ⟨fn, tmps, assign, body, hy, hR⟩ := HY.out k wr _ (by rw [List.getElem?_map, h1]; rfl) HJ.out
        have t1 : ((c : Int) == 0) = false := by simp; omega
        have t2 : decide ((63 : Int) < c) = false := by simp; omega
        have t3 : decide ((n.length : Int) < p + 1 + c) = false := by simp; omega
        have H2 := Lib.hid h2
        clear h1 h2
        gi_wp2
        refine ⟨rfl, hR.mono ?_⟩
        rintro e W' (⟨rfl, hJ', hs, hk⟩ | ⟨rfl, hJx⟩)
        · have HC' : Hid (W'.cell? ⟨Bn, 0, none⟩ = some (.string (bs n))) := (World.cell?_of_block (hk Bn rfl)).trans HC.out
          have HJ' := Lib.hid hJ'
          clear hk hJ'
          gi_wp2
          refine ⟨⟨p + 1 + c, k + 1, by go_num, by omega, ⟨H2.out, h3⟩, HC', HJ'⟩, ?_⟩
          simp [intOf]; omega
        · have HJx := Lib.hid hJx
          clear hJx
          gi_wp2
          refine bodyPost_ret (results_none rfl _ _ _) rfl ?_
          exact .inr (.inl ⟨⟨_, rfl⟩, k + 1, h3, HJx.out⟩)
    · have HD := Lib.hid (hdone (labs_end n p (by omega)).1)
      clear hdone
      have hc := HC.out
      gi_wp2
      go_end0
      exact .inl ⟨rfl, ⟨_, rfl⟩, HD.out⟩
end Go.Proofs.Ytaikpgcmcmkdcaa
