/-
  The statements about what is read of any bytes, and about lower form.
-/
import Derived.Test.YtaikpgcmcmkdcaaQR
import Derived.Test.YtaikpgcmcmkdcaaTp
import Derived.Test.YtaikpgcmcmkdcaaQW
import Derived.Maps.AppendAt
namespace Go.Proofs.Ytaikpgcmcmkdcaa
open Go.RowKit Go.Shelf
set_option linter.unusedVariables false
set_option linter.unusedSimpArgs false
set_option maxRecDepth 100000

theorem go_bad {F : Nat → Got} {b : List UInt8} {s e : Nat} (hs : s ≤ b.length) (hF : ∀ p, (F p).2.2.2 ≤ b.length) : ∀ (ks : List PK) (p : Nat) (acc : List Pc) (c : Int) (a : Nat), goP F b s e ks p acc = .bad c a → a ≤ b.length ∧ c ≠ 0
  | [], p, acc, c, a, h => by
    rw [goP] at h
    split at h
    · injection h with h1 h2; subst h1; subst h2; exact ⟨hs, by decide⟩
    · simp at h
  | k :: ks, p, acc, c, a, h => by
    rw [goP] at h
    split at h
    · exact go_bad hs hF ks _ _ c a h
    · rename_i c' a' hx
      injection h with h1 h2
      subst h1; subst h2
      have hcut : ∀ q', cutP b s e p q' = .bad c' a' → a' ≤ b.length ∧ c' ≠ 0 := by
        intro q' hq
        unfold cutP at hq
        split at hq
        · injection hq with h1 h2; subst h1; subst h2; exact ⟨hs, by decide⟩
        · simp at hq
      cases k with
      | fix n => exact hcut _ hx
      | nam =>
        simp only [stepP] at hx
        split at hx
        · injection hx with h1 h2; subst h1; subst h2; exact ⟨hs, by decide⟩
        · split at hx
          · rename_i h0
            injection hx with h1 h2; subst h1; subst h2; exact ⟨hF p, h0⟩
          · split at hx
            · injection hx with h1 h2; subst h1; subst h2; exact ⟨hs, by decide⟩
            · simp at hx
      | txt =>
        rw [txR_step] at hx
        cases hy : txE b e (e + 1) p with
        | none => rw [hy] at hx; injection hx with h1 h2; subst h1; subst h2; exact ⟨hs, by decide⟩
        | some y => rw [hy] at hx; exact hcut _ hx
      | rst => exact hcut _ hx

theorem rdR_bad {b : List UInt8} {a size t : Int} {c : Int} {p : Nat} (h : rdR b a size t = .bad c p) : p ≤ b.length ∧ c ≠ 0 := by
  unfold rdR at h
  split at h
  · injection h with h1 h2; subst h1; subst h2; exact ⟨Nat.zero_le _, by decide⟩
  · split at h
    · injection h with h1 h2; subst h1; subst h2; exact ⟨Nat.zero_le _, by decide⟩
    · split at h
      · injection h with h1 h2; subst h1; subst h2; exact ⟨Nat.le_refl _, by decide⟩
      · exact go_bad (by omega) (fun p => rda_place b p) _ _ _ _ _ h

theorem rdR_ok {b : List UInt8} {a size t : Int} {L : List Pc} (h : rdR b a size t = .ok L) : 0 ≤ t ∧ t ≤ 65535 ∧ Fits (kinds t) L ∧ (joined L).length ≤ 3 * (b.length + 255) ∧ 0 ≤ a ∧ 0 ≤ size ∧ a + size ≤ b.length ∧ goP (fun p => rda b p) b a.toNat (a.toNat + size.toNat) (kinds t) a.toNat [] = .ok L := by
  unfold rdR at h
  split at h
  · simp at h
  · split at h
    · simp at h
    · split at h
      · simp at h
      · obtain ⟨M, h1, h2⟩ := go_fits (F := fun p => rda b p) (e := a.toNat + size.toNat) (by omega) (fun p hp => (rda_fine b p hp).1) (kinds t) _ [] L (kinds_last t) (by omega) h
        rw [List.nil_append] at h1
        subst h1
        obtain ⟨h3, _⟩ := go_len (F := fun p => rda b p) (fun p hp => rda_len b p hp) (kinds t) _ [] L h
        have hk := (kinds_small t).1
        have h4 : (kinds t).length * (b.length + 255) ≤ 3 * (b.length + 255) := Nat.mul_le_mul_right _ hk
        rw [joined_nil, List.length_nil] at h3
        exact ⟨by omega, by omega, h2, by omega, by omega, by omega, by omega, h⟩

end Go.Proofs.Ytaikpgcmcmkdcaa

/-
  What is read, plainly.
-/
namespace Go.Proofs.Ytaikpgcmcmkdcaa
open Go.RowKit Go.Shelf
set_option linter.unusedVariables false
set_option linter.unusedSimpArgs false
set_option maxRecDepth 100000

theorem st2_ok {b : List UInt8} {i : Nat} (h : i + 2 ≤ b.length) (p old : Int) : st2 b ⟨i, 0, p⟩ = ⟨((i + 2 : Nat) : Int), 0, 0⟩ ∧ vl2 b ⟨i, 0, p⟩ old = nAt2 (iz b) i := by
  unfold st2 vl2 getF getE getA
  have c0 : ¬ ((0 : Int) ≠ 0) := by simp
  have c1 : (0 : Int) ≤ i ∧ (i : Int) + ((2 : Nat) : Int) ≤ (b.length : Int) := by omega
  have c2 : ¬ ((i : Int) < 0 ∨ (b.length : Int) < i) := by omega
  have c3 : ¬ ((b.length : Int) < (i : Int) + ((2 : Nat) : Int)) := by omega
  have c4 : ¬ ((0 : Int) ≤ i ∧ (i : Int) ≤ b.length ∧ (b.length : Int) < (i : Int) + ((2 : Nat) : Int)) := by omega
  simp only [if_neg c0, if_pos c1, if_neg c2, if_neg c3, if_neg c4, Int.toNat_natCast]
  exact ⟨by push_cast; rfl, trivial⟩
theorem st2_short {b : List UInt8} {i : Nat} (h : i ≤ b.length) (h2 : b.length < i + 2) (p : Int) : st2 b ⟨i, 0, p⟩ = ⟨0, 4, b.length⟩ := by
  unfold st2 getF getE getA
  have c0 : ¬ ((0 : Int) ≠ 0) := by simp
  have c1 : ¬ ((0 : Int) ≤ i ∧ (i : Int) + ((2 : Nat) : Int) ≤ (b.length : Int)) := by omega
  have c2 : ¬ ((i : Int) < 0 ∨ (b.length : Int) < i) := by omega
  have c3 : (b.length : Int) < (i : Int) + ((2 : Nat) : Int) := by omega
  have c4 : (0 : Int) ≤ i ∧ (i : Int) ≤ b.length ∧ (b.length : Int) < (i : Int) + ((2 : Nat) : Int) := by omega
  simp only [if_neg c0, if_neg c1, if_neg c2, if_pos c3, if_pos c4]
theorem st2_bad {b : List UInt8} {s : RS} (h : s.e ≠ 0) : st2 b s = s := by unfold st2; rw [if_pos h]
theorem st4_ok {b : List UInt8} {i : Nat} (h : i + 4 ≤ b.length) (p old : Int) : st4 b ⟨i, 0, p⟩ = ⟨((i + 4 : Nat) : Int), 0, 0⟩ ∧ vl4 b ⟨i, 0, p⟩ old = nAt4 (iz b) i := by
  unfold st4 vl4 getF getE getA
  have c0 : ¬ ((0 : Int) ≠ 0) := by simp
  have c1 : (0 : Int) ≤ i ∧ (i : Int) + ((4 : Nat) : Int) ≤ (b.length : Int) := by omega
  have c2 : ¬ ((i : Int) < 0 ∨ (b.length : Int) < i) := by omega
  have c3 : ¬ ((b.length : Int) < (i : Int) + ((4 : Nat) : Int)) := by omega
  have c4 : ¬ ((0 : Int) ≤ i ∧ (i : Int) ≤ b.length ∧ (b.length : Int) < (i : Int) + ((4 : Nat) : Int)) := by omega
  simp only [if_neg c0, if_pos c1, if_neg c2, if_neg c3, if_neg c4, Int.toNat_natCast]
  exact ⟨by push_cast; rfl, trivial⟩
theorem st4_short {b : List UInt8} {i : Nat} (h : i ≤ b.length) (h2 : b.length < i + 4) (p : Int) : st4 b ⟨i, 0, p⟩ = ⟨0, 4, b.length⟩ := by
  unfold st4 getF getE getA
  have c0 : ¬ ((0 : Int) ≠ 0) := by simp
  have c1 : ¬ ((0 : Int) ≤ i ∧ (i : Int) + ((4 : Nat) : Int) ≤ (b.length : Int)) := by omega
  have c2 : ¬ ((i : Int) < 0 ∨ (b.length : Int) < i) := by omega
  have c3 : (b.length : Int) < (i : Int) + ((4 : Nat) : Int) := by omega
  have c4 : (0 : Int) ≤ i ∧ (i : Int) ≤ b.length ∧ (b.length : Int) < (i : Int) + ((4 : Nat) : Int) := by omega
  simp only [if_neg c0, if_neg c1, if_neg c2, if_pos c3, if_pos c4]
theorem st4_bad {b : List UInt8} {s : RS} (h : s.e ≠ 0) : st4 b s = s := by unfold st4; rw [if_pos h]
theorem stD_bad {b : List UInt8} {s : RS} {m t : Int} (h : s.e ≠ 0) : stD b s m t = s := by unfold stD; rw [if_pos h]

theorem s1_ok {b : List UInt8} {p : Nat} {n : List UInt8} {i : Nat} (h : rda b p = (n, i, 0, 0)) : s1 b p = ⟨i, 0, 0⟩ ∧ rN b p = n := by
  unfold s1 rN stN vlN
  simp only
  rw [if_neg (by simp), if_neg (by simp), h]
  exact ⟨rfl, rfl⟩

/-- A question is read. -/
theorem ques_ok {b : List UInt8} {p : Nat} {n : List UInt8} {i : Nat} (h : rda b p = (n, i, 0, 0)) (hi : i + 4 ≤ b.length) :
    s3 b p = ⟨((i + 4 : Nat) : Int), 0, 0⟩ ∧ rN b p = n ∧ rT b p = nAt2 (iz b) i ∧ rC b p = nAt2 (iz b) (i + 2) := by
  obtain ⟨h1, h2⟩ := s1_ok h
  have g1 := st2_ok (b := b) (i := i) (by omega) 0 0
  have g2 := st2_ok (b := b) (i := i + 2) (by omega) 0 0
  have e2 : s2 b p = ⟨((i + 2 : Nat) : Int), 0, 0⟩ := by unfold s2; rw [h1]; exact g1.1
  refine ⟨?_, h2, ?_, ?_⟩
  · unfold s3; rw [e2]; exact g2.1
  · unfold rT; rw [h1]; exact g1.2
  · unfold rC; rw [e2]; exact g2.2

/-- A record's head is read. -/
theorem head_ok {b : List UInt8} {p : Nat} {n : List UInt8} {i : Nat} (h : rda b p = (n, i, 0, 0)) (hi : i + 10 ≤ b.length) :
    s5 b p = ⟨((i + 10 : Nat) : Int), 0, 0⟩ ∧ rL b p = nAt4 (iz b) (i + 4) ∧ rZ b p = nAt2 (iz b) (i + 8) := by
  obtain ⟨h1, _, _, _⟩ := ques_ok h (by omega)
  have g1 := st4_ok (b := b) (i := i + 4) (by omega) 0 0
  have g2 := st2_ok (b := b) (i := i + 8) (by omega) 0 0
  have e4 : s4 b p = ⟨((i + 8 : Nat) : Int), 0, 0⟩ := by unfold s4; rw [h1]; exact g1.1
  refine ⟨?_, ?_, ?_⟩
  · unfold s5; rw [e4]; exact g2.1
  · unfold rL; rw [h1]; exact g1.2
  · unfold rZ; rw [e4]; exact g2.2

/-- Data are read, or not. -/
theorem data_ok {b : List UInt8} {p : Nat} {n : List UInt8} {i : Nat} {L : List Pc} (h : rda b p = (n, i, 0, 0)) (hi : i + 10 ≤ b.length) (hr : rdR b ((i + 10 : Nat) : Int) (rZ b p) (rT b p) = .ok L) :
    s6 b p = ⟨wrap64 (((i + 10 : Nat) : Int) + rZ b p), 0, 0⟩ ∧ rD b p = joined L := by
  obtain ⟨h1, _, _⟩ := head_ok h hi
  unfold s6 rD stD vlD
  rw [h1]
  simp only
  rw [if_neg (by simp), if_neg (by simp), hr]
  exact ⟨rfl, rfl⟩
theorem data_no {b : List UInt8} {p : Nat} {n : List UInt8} {i : Nat} {c : Int} {a : Nat} (h : rda b p = (n, i, 0, 0)) (hi : i + 10 ≤ b.length) (hr : rdR b ((i + 10 : Nat) : Int) (rZ b p) (rT b p) = .bad c a) :
    (s6 b p).e = c ∧ (s6 b p).p = a := by
  obtain ⟨h1, _, _⟩ := head_ok h hi
  unfold s6 stD
  rw [h1]
  simp only
  rw [if_neg (by simp), hr]
  exact ⟨rfl, rfl⟩

theorem rda_zero {b : List UInt8} {p : Nat} (h : (rda b p).2.2.1 = 0) : (rda b p).2.2.2 = 0 := by
  unfold rda at h ⊢
  split at h
  · exact absurd h (by decide)
  · rename_i hr
    rw [if_neg hr]
    rw [Int.toNat_natCast] at h ⊢
    rcases rd_fine b p (by omega) p p 0 [] [] rfl ⟨by simp, by simp [wire]⟩ with ⟨_, f, _⟩ | ⟨f, _⟩
    · exact f
    · exact absurd h f

/-- Whatever bytes: a fault within them, or a record that may be. -/
theorem read_any_cases (b : List UInt8) (p : Nat) (hp : p ≤ b.length) (hb : b.length ≤ 3000) :
    ((s6 b p).e ≠ 0 ∧ 0 ≤ (s6 b p).p ∧ (s6 b p).p ≤ b.length) ∨
    ((s6 b p).e = 0 ∧ (s3 b p).e = 0 ∧ chkC ⟨rN b p, rT b p, rC b p, ttlR (rL b p), rD b p⟩ = 0 ∧ (p : Int) < (s6 b p).a ∧ (s6 b p).a ≤ b.length ∧ (s3 b p).a < (s6 b p).a ∧ (rN b p).length ≤ 255 ∧ (rD b p).length ≤ 65535) := by
  have hrp := rda_place b p
  have b0 : (⟨0, 4, (b.length : Int)⟩ : RS).e ≠ 0 := by simp
  by_cases h0 : (rda b p).2.2.1 = 0
  · obtain ⟨hch, hlt, hle⟩ := rda_fine b p h0
    have hz := rda_zero h0
    obtain ⟨⟨n, i, f, g⟩, hR⟩ : ∃ R, rda b p = R := ⟨_, rfl⟩
    rw [hR] at h0 hch hlt hle hz
    simp only at h0 hch hlt hle hz
    subst h0; subst hz
    obtain ⟨h1, hN⟩ := s1_ok hR
    by_cases hi2 : b.length < i + 2
    · have e2 : s2 b p = ⟨0, 4, b.length⟩ := by unfold s2; rw [h1]; exact st2_short hle hi2 0
      have e : s6 b p = ⟨0, 4, b.length⟩ := by
        unfold s6 s5 s4 s3
        rw [e2, st2_bad b0, st4_bad b0, st2_bad b0, stD_bad b0]
      rw [e]
      exact .inl ⟨by simp, by simp, by simp⟩
    · have g1 := st2_ok (b := b) (i := i) (by omega) 0 0
      have e2 : s2 b p = ⟨((i + 2 : Nat) : Int), 0, 0⟩ := by unfold s2; rw [h1]; exact g1.1
      by_cases hi4 : b.length < i + 4
      · have e3 : s3 b p = ⟨0, 4, b.length⟩ := by unfold s3; rw [e2]; exact st2_short (by omega) (by omega) 0
        have e : s6 b p = ⟨0, 4, b.length⟩ := by
          unfold s6 s5 s4
          rw [e3, st4_bad b0, st2_bad b0, stD_bad b0]
        rw [e]
        exact .inl ⟨by simp, by simp, by simp⟩
      · obtain ⟨e3, _, hT, hC⟩ := ques_ok hR (by omega)
        by_cases hi8 : b.length < i + 8
        · have e4 : s4 b p = ⟨0, 4, b.length⟩ := by unfold s4; rw [e3]; exact st4_short (by omega) (by omega) 0
          have e : s6 b p = ⟨0, 4, b.length⟩ := by
            unfold s6 s5
            rw [e4, st2_bad b0, stD_bad b0]
          rw [e]
          exact .inl ⟨by simp, by simp, by simp⟩
        · have g4 := st4_ok (b := b) (i := i + 4) (by omega) 0 0
          have e4 : s4 b p = ⟨((i + 8 : Nat) : Int), 0, 0⟩ := by unfold s4; rw [e3]; exact g4.1
          by_cases hi10 : b.length < i + 10
          · have e5 : s5 b p = ⟨0, 4, b.length⟩ := by unfold s5; rw [e4]; exact st2_short (by omega) (by omega) 0
            have e : s6 b p = ⟨0, 4, b.length⟩ := by
              unfold s6
              rw [e5, stD_bad b0]
            rw [e]
            exact .inl ⟨by simp, by simp, by simp⟩
          · rcases hr : rdR b ((i + 10 : Nat) : Int) (rZ b p) (rT b p) with L | ⟨c, a⟩
            · obtain ⟨e6, eD⟩ := data_ok hR (by omega) hr
              obtain ⟨t0, t1, hf, hlen, _, hz0, hzl, _⟩ := rdR_ok hr
              have hT2 : 0 ≤ rT b p ∧ rT b p ≤ 65535 := vl2_lt b _
              have hC2 : 0 ≤ rC b p ∧ rC b p ≤ 65535 := vl2_lt b _
              have hL4 : 0 ≤ rL b p := by
                unfold rL vl4
                split
                · decide
                · unfold getF
                  split
                  · unfold nAt4 num4
                    have hg : ∀ k, 0 ≤ (iz b).getD k 0 := fun k => by
                      rcases Nat.lt_or_ge k b.length with hk | hk
                      · rw [iz_get b k hk]; omega
                      · rw [List.getD, List.getElem?_eq_none (by rw [iz_len]; exact hk)]; decide
                    have := hg; 
                    have a1 := hg (s3 b p).a.toNat
                    have a2 := hg ((s3 b p).a.toNat + 1)
                    have a3 := hg ((s3 b p).a.toNat + 2)
                    have a4 := hg ((s3 b p).a.toNat + 3)
                    omega
                  · decide
              have hsp : (spl (rT b p) (rD b p)).code = 0 := by
                rw [eD, spl_of t0 t1 (by omega) hf]; rfl
              have hak : askE (rN b p) (rT b p) (rC b p) = 0 := by unfold askE; rw [hN, if_neg (by simpa using hch), if_neg (by omega)]
              have hck : chkC ⟨rN b p, rT b p, rC b p, ttlR (rL b p), rD b p⟩ = 0 := by
                unfold chkC
                simp only
                rw [if_neg (by simpa using hak), if_neg (by unfold ttlR; split <;> omega)]
                exact hsp
              have hwr : wrap64 (((i + 10 : Nat) : Int) + rZ b p) = ((i + 10 : Nat) : Int) + rZ b p := IntWalk.wrap64_in _ ⟨by omega, by omega⟩
              rw [hwr] at e6
              refine .inr ⟨by rw [e6], by rw [e3], hck, ?_, ?_, ?_, ?_, ?_⟩
              · rw [e6]; show (p : Int) < ((i + 10 : Nat) : Int) + rZ b p; omega
              · rw [e6]; show ((i + 10 : Nat) : Int) + rZ b p ≤ (b.length : Int); omega
              · rw [e6, e3]; show ((i + 4 : Nat) : Int) < ((i + 10 : Nat) : Int) + rZ b p; omega
              · rw [hN]; exact (chk_pos hch).2
              · rw [eD]; omega
            · obtain ⟨e6, e7⟩ := data_no hR (by omega) hr
              obtain ⟨hp2, hc2⟩ := rdR_bad hr
              exact .inl ⟨by rw [e6]; exact hc2, by rw [e7]; omega, by rw [e7]; omega⟩
  · have e1 : s1 b p = ⟨(rda b p).2.1, (rda b p).2.2.1, (rda b p).2.2.2⟩ := by unfold s1 stN; rw [if_neg (by simp)]
    have hne : (s1 b p).e ≠ 0 := by rw [e1]; exact h0
    have e : s6 b p = s1 b p := by
      unfold s6 s5 s4 s3 s2
      rw [st2_bad hne, st2_bad hne, st4_bad hne, st2_bad hne, stD_bad hne]
    rw [e]
    refine .inl ⟨hne, ?_, ?_⟩
    · rw [e1]; show (0 : Int) ≤ ((rda b p).2.2.2 : Nat); omega
    · rw [e1]; show (((rda b p).2.2.2 : Nat) : Int) ≤ _; omega
end Go.Proofs.Ytaikpgcmcmkdcaa

/-
  What is written is read as it was; plainly.
-/
namespace Go.Proofs.Ytaikpgcmcmkdcaa
open Go.RowKit Go.Shelf
set_option linter.unusedVariables false
set_option linter.unusedSimpArgs false
set_option maxRecDepth 100000

theorem at2 (b r : List UInt8) (t : Int) (h0 : 0 ≤ t) (h1 : t ≤ 65535) : nAt2 (iz (b ++ (two t ++ r))) b.length = t := by
  have e : iz (b ++ (two t ++ r)) = iz b ++ (putL2 t ++ iz r) := by rw [iz_app, iz_app, iz_two t h0 h1]
  have hp : putL2 t = [t / 256, t % 256] := by unfold putL2; rw [if_pos ⟨h0, h1⟩]
  unfold nAt2 num2
  rw [e, hp]
  have g0 := getD_behind (iz b) ([t / 256, t % 256] ++ iz r) 0
  have g1 := getD_behind (iz b) ([t / 256, t % 256] ++ iz r) 1
  rw [iz_len] at g0 g1
  rw [Nat.add_zero] at g0
  rw [g0, g1]
  show t / 256 * 256 + t % 256 = t
  omega

theorem at4 (b r : List UInt8) (t : Int) (h0 : 0 ≤ t) (h1 : t ≤ 4294967295) : nAt4 (iz (b ++ (four t ++ r))) b.length = t := by
  have e : iz (b ++ (four t ++ r)) = iz b ++ (putL4 t ++ iz r) := by rw [iz_app, iz_app, iz_four t h0 h1]
  have hp : putL4 t = [t / 256 / 256 / 256, t / 256 / 256 % 256, t / 256 % 256, t % 256] := by unfold putL4; rw [if_pos ⟨h0, h1⟩]
  unfold nAt4 num4
  rw [e, hp]
  have g0 := getD_behind (iz b) ([t / 256 / 256 / 256, t / 256 / 256 % 256, t / 256 % 256, t % 256] ++ iz r) 0
  have g1 := getD_behind (iz b) ([t / 256 / 256 / 256, t / 256 / 256 % 256, t / 256 % 256, t % 256] ++ iz r) 1
  have g2 := getD_behind (iz b) ([t / 256 / 256 / 256, t / 256 / 256 % 256, t / 256 % 256, t % 256] ++ iz r) 2
  have g3 := getD_behind (iz b) ([t / 256 / 256 / 256, t / 256 / 256 % 256, t / 256 % 256, t % 256] ++ iz r) 3
  rw [iz_len] at g0 g1 g2 g3
  rw [Nat.add_zero] at g0
  rw [g0, g1, g2, g3]
  show ((t / 256 / 256 / 256 * 256 + t / 256 / 256 % 256) * 256 + t / 256 % 256) * 256 + t % 256 = t
  omega

theorem getD_ahead (b c : List UInt8) (k : Nat) (h : k < b.length) : (iz (b ++ c)).getD k 0 = (iz b).getD k 0 := by
  rw [iz_app, List.getD, List.getD, List.getElem?_append_left (by rw [iz_len]; exact h)]
theorem at2_more {b : List UInt8} {i : Nat} (c : List UInt8) (h : i + 2 ≤ b.length) : nAt2 (iz (b ++ c)) i = nAt2 (iz b) i := by
  unfold nAt2
  rw [getD_ahead b c i (by omega), getD_ahead b c (i + 1) (by omega)]
theorem at4_more {b : List UInt8} {i : Nat} (c : List UInt8) (h : i + 4 ≤ b.length) : nAt4 (iz (b ++ c)) i = nAt4 (iz b) i := by
  unfold nAt4
  rw [getD_ahead b c i (by omega), getD_ahead b c (i + 1) (by omega), getD_ahead b c (i + 2) (by omega), getD_ahead b c (i + 3) (by omega)]

/-- A question stands at p; its name ends at i. -/
def LiesQ (b : List UInt8) (p : Nat) (x : Rc) (i : Nat) : Prop :=
  ∃ ls, Shorts ls ∧ x.n = nm ls ∧ StandE b p p ls i ∧ i + 4 ≤ b.length ∧ nAt2 (iz b) i = x.t ∧ nAt2 (iz b) (i + 2) = x.c

/-- A record stands from p up to en. -/
def LiesR (b : List UInt8) (p : Nat) (x : Rc) (i en : Nat) : Prop :=
  i + 10 ≤ b.length ∧ nAt4 (iz b) (i + 4) = x.l ∧ ∃ (m : Nat) (L : List Pc), nAt2 (iz b) (i + 8) = m ∧ m ≤ 65535 ∧ spl x.t x.d = .ok L ∧ Lies b (i + 10) L (i + 10 + m) ∧ en = i + 10 + m

theorem LiesQ.more {b : List UInt8} {p : Nat} {x : Rc} {i : Nat} (h : LiesQ b p x i) (c : List UInt8) : LiesQ (b ++ c) p x i := by
  obtain ⟨ls, h1, h2, h3, h4, h5, h6⟩ := h
  exact ⟨ls, h1, h2, h3.more c, by rw [List.length_append]; omega, by rw [at2_more c (by omega)]; exact h5, by rw [at2_more c (by omega)]; exact h6⟩
theorem LiesR.more {b : List UInt8} {p : Nat} {x : Rc} {i en : Nat} (h : LiesR b p x i en) (c : List UInt8) : LiesR (b ++ c) p x i en := by
  obtain ⟨h1, h2, m, L, h3, h4, h5, h6, h7⟩ := h
  exact ⟨by rw [List.length_append]; omega, by rw [at4_more c (by omega)]; exact h2, m, L, by rw [at2_more c (by omega)]; exact h3, h4, h5, h6.more c, h7⟩

/-- A question that stands is read. -/
theorem quesV_lies {b : List UInt8} {p : Nat} {x : Rc} {i : Nat} (h : LiesQ b p x i) : quesV b p = .tuple #[.agg #[.string (bs x.n), .int .i64 x.t, .int .i64 x.c], .int .i64 ((i + 4 : Nat) : Int), .agg #[.int .i64 0, .int .i64 0]] := by
  obtain ⟨ls, h1, h2, h3, h4, h5, h6⟩ := h
  obtain ⟨e1, e2, e3, e4⟩ := ques_ok (rdaE h3 h1) h4
  unfold quesV
  rw [e1, if_pos rfl, e2, e3, e4, h5, h6, h2]

/-- A record that stands is read. -/
theorem recV_lies {b : List UInt8} {p : Nat} {x : Rc} {i en : Nat} (hq : LiesQ b p x i) (h : LiesR b p x i en) (hb : b.length ≤ 1000000) (hl : x.l ≤ 2147483647) : recV b p = .tuple #[.agg #[.string (bs x.n), .int .i64 x.t, .int .i64 x.c, .int .i64 x.l, .string (bs x.d)], .int .i64 (en : Int), .agg #[.int .i64 0, .int .i64 0]] := by
  obtain ⟨ls, h1, h2, h3, h4, h5, h6⟩ := hq
  obtain ⟨g1, g2, m, L, g3, g4, g5, g6, g7⟩ := h
  have hr := rdaE h3 h1
  obtain ⟨_, e2, e3, e4⟩ := ques_ok hr h4
  obtain ⟨_, e5, e6⟩ := head_ok hr g1
  obtain ⟨k1, k2⟩ := lies_rdR g5 g6 g4
  have hT : rT b p = x.t := e3.trans h5
  have hZ : rZ b p = m := e6.trans g3
  obtain ⟨f1, f2⟩ := data_ok (L := L) hr g1 (by rw [hZ, hT]; exact k1)
  have hle := g6.le
  have hw : wrap64 (((i + 10 : Nat) : Int) + rZ b p) = (en : Int) := by rw [hZ, IntWalk.wrap64_in _ ⟨by omega, by omega⟩, g7]; push_cast; rfl
  rw [hw] at f1
  have ht : ttlR (rL b p) = x.l := by rw [e5, g2]; unfold ttlR; rw [if_neg (by omega)]
  unfold recV
  rw [f1, if_pos rfl, e2, hT, e4, h6, ht, f2, k2, h2]

theorem two_len (t : Int) : (two t).length = 2 := rfl
theorem four_len (t : Int) : (four t).length = 4 := rfl

/-- A name that is told stands. -/
theorem name_lies {b : List UInt8} {K : KK} {e : Nat} {P : KK} (hI : Inv b K e P) {n : List UInt8} (hc : chk n = 0) (hb : b.length ≤ 65535) :
    ∃ ls, Shorts ls ∧ n = nm ls ∧ pkE e b.length n = 0 ∧ nameB K e b.length n = told K ls ∧ Inv (b ++ told K ls) (nameK K e b.length n) (nameE K e b.length n) (P ++ [(nm ls, b.length)]) ∧ StandE (b ++ told K ls) b.length b.length ls (b.length + (told K ls).length) ∧ (told K ls).length ≤ n.length := by
  obtain ⟨hs, hx⟩ := shorts_of hc
  have hx : n = nm (labs n) := hx
  obtain ⟨ls, hls⟩ : ∃ ls, labs n = ls := ⟨_, rfl⟩
  rw [hls] at hs hx
  subst hx
  have hla := hI.last
  have hE : pkE e b.length (nm ls) = 0 := by unfold pkE; rw [if_neg (fun h => h (shorts_chk hs)), if_neg (by omega), if_neg (by omega)]
  have e1 : nameB K e b.length (nm ls) = told K ls := by unfold nameB; rw [if_pos hE, show labs (nm ls) = ls from shorts_labs hs]
  have e2 : nameK K e b.length (nm ls) = K ++ fr b.length ls (hdn K ls) := by unfold nameK; rw [if_pos hE, show labs (nm ls) = ls from shorts_labs hs, Int.toNat_natCast]
  have e3 : nameE K e b.length (nm ls) = b.length + (told K ls).length := by unfold nameE; rw [if_pos hE, show labs (nm ls) = ls from shorts_labs hs, Int.toNat_natCast]
  have htl := told_le hI.good hs
  have hst := toldE_rd hI hs (hdn K ls) 0 (by omega) b.length (Nat.le_refl _)
  rw [pos_zero, Nat.add_zero, List.drop_zero] at hst
  refine ⟨ls, hs, rfl, hE, e1, ?_, hst, htl⟩
  rw [e2, e3]
  exact hI.tell hs

/-- A question that is written stands. -/
theorem ask_lies {b : List UInt8} {K : KK} {e : Nat} {P : KK} (hI : Inv b K e P) {x : Rc} (hx : askE x.n x.t x.c = 0) (hb : b.length ≤ 65535) :
    ∃ out K' e' P' i, askW b.length x.n x.t x.c K e = ⟨out, 0, K', e'⟩ ∧ out.length ≤ 259 ∧ Inv (b ++ out) K' e' P' ∧ LiesQ (b ++ out) b.length x i ∧ b.length + out.length = i + 4 ∧ K'.length ≤ K.length + 127 := by
  obtain ⟨hc, t0, t1, c0, c1⟩ := askE_ok hx
  obtain ⟨ls, hs, hn, hE, hB, hI1, hst, hle⟩ := name_lies hI hc hb
  have hn255 := (chk_pos hc).2
  have hkk := (nameK_good (e := e) (a := b.length) (n := x.n) hI.good).2.1
  obtain ⟨T, hT⟩ : ∃ T, told K ls = T := ⟨_, rfl⟩
  rw [hT] at hB hI1 hst hle
  have hl : (b ++ T).length = b.length + T.length := List.length_append
  refine ⟨T ++ (two x.t ++ two x.c), nameK K e b.length x.n, nameE K e b.length x.n, P ++ [(nm ls, b.length)], b.length + T.length, ?_, ?_, ?_, ?_, ?_, hkk⟩
  · unfold askW
    rw [if_neg (by simpa using hx), if_neg (by simpa using hE), hB]
  · rw [List.length_append, List.length_append, two_len, two_len]; omega
  · rw [← List.append_assoc]; exact hI1.more _
  · refine ⟨ls, hs, hn, ?_, ?_, ?_, ?_⟩
    · rw [← List.append_assoc]; exact hst.more _
    · rw [List.length_append, List.length_append, List.length_append, two_len, two_len]; omega
    · have h := at2 (b ++ T) (two x.c) x.t t0 t1
      rw [hl, List.append_assoc] at h
      exact h
    · have h := at2 (b ++ T ++ two x.t) [] x.c c0 c1
      rw [List.length_append, hl, two_len, List.append_nil, List.append_assoc, List.append_assoc] at h
      exact h
  · rw [List.length_append, List.length_append, two_len, two_len]; omega

theorem headB_len (t c l : Int) (k : Nat) : (headB t c l k).length = 10 := by unfold headB; rw [List.length_append, List.length_append, List.length_append, two_len, two_len, two_len, four_len]

/-- A record that is written stands. -/
theorem write_lies {b : List UInt8} {K : KK} {e : Nat} {P : KK} (hI : Inv b K e P) {x : Rc} (hx : chkC x = 0) (hb : b.length ≤ 62000) (hd : x.d.length ≤ 3000) :
    ∃ out K' e' P' i, wrC b.length x K e = ⟨out, 0, K', e'⟩ ∧ out.length ≤ 3265 ∧ Inv (b ++ out) K' e' P' ∧ LiesQ (b ++ out) b.length x i ∧ LiesR (b ++ out) b.length x i (b.length + out.length) ∧ K'.length ≤ K.length + 600 := by
  obtain ⟨hak, l0, l1, hsp⟩ := chkC_ok hx
  obtain ⟨hc, t0, t1, c0, c1⟩ := askE_ok hak
  obtain ⟨ls, hs, hn, hE, hB, hI1, hst, hle⟩ := name_lies hI hc (by omega)
  have hn255 := (chk_pos hc).2
  have hng := nameK_good (e := e) (a := b.length) (n := x.n) hI.good
  obtain ⟨L, hL⟩ := code_ok hsp
  obtain ⟨_, _, _, hf, hj⟩ := spl_ok hL
  have hL3 : L.length ≤ 3 := by rw [fits_len hf]; exact (kinds_small x.t).1
  obtain ⟨T, hT⟩ : ∃ T, told K ls = T := ⟨_, rfl⟩
  rw [hT] at hB hI1 hst hle
  have hl : (b ++ T).length = b.length + T.length := List.length_append
  obtain ⟨K1, hK1⟩ : ∃ K1, nameK K e b.length x.n = K1 := ⟨_, rfl⟩
  obtain ⟨e1, he1⟩ : ∃ e1, nameE K e b.length x.n = e1 := ⟨_, rfl⟩
  rw [hK1, he1] at hI1 hng
  obtain ⟨R, hR⟩ : ∃ R, wrR ((b.length : Int) + T.length + 10) x.t x.d K1 e1 = R := ⟨_, rfl⟩
  have hw : wrC b.length x K e = wrT T x.t x.c x.l R := by
    unfold wrC
    rw [if_neg (by simpa using hx), if_neg (by simpa using hE), hB, hK1, he1, hR]
  obtain ⟨H, hH⟩ : ∃ H, headB x.t x.c x.l R.out.length = H := ⟨_, rfl⟩
  have hHl : H.length = 10 := by rw [← hH]; exact headB_len _ _ _ _
  have h2l : (b ++ T ++ H).length = b.length + T.length + 10 := by rw [List.length_append, hl, hHl]
  obtain ⟨out, K', e', P', w1, w2, w3, w4⟩ := wr_back (b.length + T.length + 10) L (b ++ T ++ H) K1 e1 _ [] (hI1.more H) (fits_nam hf) (by rw [h2l]; simp) (by rw [h2l, hj]; omega)
  have hkeys := wrL_keys ((b.length + T.length + 10 : Nat) : Int) L K1 e1 [] hng.1
  rw [w1] at hkeys
  simp only at hkeys
  have hRe : R = ⟨out, 0, K', e'⟩ := by
    rw [← hR]
    unfold wrR
    rw [hL]
    show wrL _ L K1 e1 [] = _
    rw [show ((b.length : Int) + T.length + 10) = ((b.length + T.length + 10 : Nat) : Int) by push_cast; rfl, w1]
    rfl
  have hRo : R.out = out := by rw [hRe]
  have hRc : R.code = 0 := by rw [hRe]
  rw [hj] at w2
  rw [hRo] at hH
  have hq : out.length ≤ 65535 := by omega
  have eo : b ++ (T ++ (H ++ out)) = b ++ T ++ H ++ out := by simp
  refine ⟨T ++ (H ++ out), K', e', P', b.length + T.length, ?_, ?_, ?_, ?_, ?_, by omega⟩
  · rw [hw]; unfold wrT; rw [hRe, if_neg (by simp)]
    simp only [hH]
  · rw [List.length_append, List.length_append, hHl]; omega
  · rw [eo]; exact w3
  · refine ⟨ls, hs, hn, ?_, ?_, ?_, ?_⟩
    · rw [eo]; exact (hst.more H).more out
    · rw [eo, List.length_append, h2l]; omega
    · have h := at2 (b ++ T) (two x.c ++ (four x.l ++ (two (out.length : Int) ++ out))) x.t t0 t1
      rw [hl] at h
      rw [← h, eo, ← hH]
      congr 2
      unfold headB
      simp
    · have h := at2 (b ++ T ++ two x.t) (four x.l ++ (two (out.length : Int) ++ out)) x.c c0 c1
      rw [List.length_append, hl, two_len] at h
      rw [← h, eo, ← hH]
      congr 2
      unfold headB
      simp
  · refine ⟨?_, ?_, out.length, L, ?_, hq, hL, ?_, ?_⟩
    · rw [eo, List.length_append, h2l]; omega
    · have h := at4 (b ++ T ++ two x.t ++ two x.c) (two (out.length : Int) ++ out) x.l l0 (by omega)
      rw [List.length_append, List.length_append, hl, two_len, two_len] at h
      rw [← h, eo, ← hH]
      congr 2
      unfold headB
      simp
    · have h := at2 (b ++ T ++ two x.t ++ two x.c ++ four x.l) out (out.length : Int) (by omega) (by omega)
      rw [List.length_append, List.length_append, List.length_append, hl, two_len, two_len, four_len] at h
      rw [← h, eo, ← hH]
      congr 2
      unfold headB
      simp
    · rw [eo]
      rw [h2l] at w4
      exact w4
    · rw [List.length_append, List.length_append, hHl]; omega
end Go.Proofs.Ytaikpgcmcmkdcaa

/-
  What was written and its reading: rows, round for round.
-/
namespace Go.Proofs.Ytaikpgcmcmkdcaa
open Go.RowKit Go.Shelf
set_option linter.unusedVariables false
set_option linter.unusedSimpArgs false
set_option maxRecDepth 100000

/-- An act's cells. -/
def act8 (y : AR) : List Value := [.string (bs y.x.n), .int .i64 y.x.t, .int .i64 y.x.c, .int .i64 y.x.l, .string (bs y.x.d), .bool y.k, .bool y.r, .int .i64 y.a]
/-- Acts as cells. -/
def acc8 : List AR → List Value
  | [] => []
  | y :: r => act8 y ++ acc8 r
theorem acc8_len (K : List AR) : (acc8 K).length = K.length * 8 := by
  induction K with
  | nil => rfl
  | cons p r ih => simp [acc8, act8, ih]; omega
theorem acc8_app (K K' : List AR) : acc8 (K ++ K') = acc8 K ++ acc8 K' := by
  induction K with
  | nil => rfl
  | cons p r ih => simp [acc8, ih]
theorem acc8_at : ∀ (K : List AR) (j : Nat) (h : j < K.length) (i : Nat) (v : Value), (act8 K[j])[i]? = some v → (acc8 K)[j * 8 + i]? = some v
  | [], j, h, _, _, _ => by simp at h
  | p :: r, 0, h, i, v, hv => by
    have hi : i < 8 := by have := (List.getElem?_eq_some_iff.mp hv).1; simpa [act8] using this
    rw [acc8, Nat.zero_mul, Nat.zero_add, List.getElem?_append_left (by simpa [act8] using hi)]
    exact hv
  | p :: r, j + 1, h, i, v, hv => by
    have ih := acc8_at r j (by simpa using h) i v hv
    rw [acc8, List.getElem?_append_right (by simp [act8]; omega)]
    have : (j + 1) * 8 + i - (act8 p).length = j * 8 + i := by simp [act8]; omega
    rw [this]
    exact ih
theorem acc8_one (K : List AR) : ∀ u ∈ acc8 K, u.oneCell' = true := by
  induction K with
  | nil => intro u hu; simp [acc8] at hu
  | cons p r ih =>
    intro u hu
    rw [acc8, List.mem_append] at hu
    rcases hu with hu | hu
    · simp only [act8, List.mem_cons, List.mem_nil_iff, or_false] at hu
      rcases hu with rfl | rfl | rfl | rfl | rfl | rfl | rfl | rfl <;> rfl
    · exact ih u hu

/-- v is a row of acts of the call's own. -/
def OwnA (w : World) (B : Nat) (v : Value) (l : List AR) : Prop := w.ownsRow B 39 8 v l.length (acc8 l)

theorem info_act : (Try.prog.info? 39).map (fun i => (i.zero, i.size, i.bytes)) = some (some (.agg #[.string ⟨#[]⟩, .int .i64 0, .int .i64 0, .int .i64 0, .string ⟨#[]⟩, .bool false, .bool false, .int .i64 0]), 8, 72) := by kernel_rfl

theorem OwnA.at_ {w : World} {B : Nat} {v : Value} {l : List AR} (h : OwnA w B v l) (j : Nat) (hj : j < l.length) : ∃ g c, v = .slice (some ⟨g, 0, none⟩) l.length c ∧ AtA w g (j * 8) l[j] := by
  have hc := fun g hg => World.ownsRow.cells h (g := g) hg
  rcases h.2 with ⟨rfl, h0⟩ | ⟨g, cap, cur, rfl, _⟩
  · omega
  · have e := fun i v hv => hc g rfl _ _ (acc8_at l j hj i v hv)
    simp only [WideShapes.add_plain, Nat.zero_add] at e
    exact ⟨g, cap, rfl, ⟨e 0 _ rfl, e 1 _ rfl, e 2 _ rfl, e 3 _ rfl, e 4 _ rfl⟩, e 5 _ rfl, e 6 _ rfl, e 7 _ rfl⟩

/-- append of one act. -/
theorem run_appA {w : World} (B : Nat) (v : Value) (l : List AR) (x : AR) (g : Nat) (hown : OwnA w B v l) (hx : AtA w g 0 x) (hb : l.length + 1 ≤ 1000000) (hB : B ≤ w.heap.size) :
    ∃ a' c' w', (Builtin.append_ #[30, 30] 30 #[v, .slice (some ⟨g, 0, none⟩) 1 1]).run Try.prog w = .ok (.slice a' (l.length + 1) c') w' ∧ OwnA w' B (.slice a' (l.length + 1) c') (l ++ [x]) ∧ Aside (fun b => v.ownBlock = some b) w w' := by
  obtain ⟨i0, hi, hz0, hz1, hz2⟩ := info_parts info_act
  obtain ⟨⟨h0, h1, h2, h3, h4⟩, h5, h6, h7⟩ := hx
  obtain ⟨v', w', r1, r2, r3, _, r5⟩ := run_append_own_at (P := Try.prog) (w := w) B 30 30 39 i0 _ 8 72 Try.underlying30 hi hz0 hz1 hz2 rfl (by decide) v l.length (acc8 l) hown ⟨g, 0, none⟩ 1 1 (acc8 [x]) (acc8_len [x])
    (fun j u hu => by
      rw [WideShapes.add_plain, Nat.zero_add]
      match j, hu with
      | 0, hu => simp [acc8, act8] at hu; rw [h0, hu]
      | 1, hu => simp [acc8, act8] at hu; rw [h1, hu]
      | 2, hu => simp [acc8, act8] at hu; rw [h2, hu]
      | 3, hu => simp [acc8, act8] at hu; rw [h3, hu]
      | 4, hu => simp [acc8, act8] at hu; rw [h4, hu]
      | 5, hu => simp [acc8, act8] at hu; rw [h5, hu]
      | 6, hu => simp [acc8, act8] at hu; rw [h6, hu]
      | 7, hu => simp [acc8, act8] at hu; rw [h7, hu]
      | j + 8, hu => simp [acc8, act8] at hu) (acc8_one [x]) (by unfold maxLen; omega) (by omega) hB
  have h9 : OwnA w' B v' (l ++ [x]) := by
    unfold OwnA
    rw [List.length_append, acc8_app]
    exact r2
  obtain ⟨a', c', hv⟩ := row_shape h9
  rw [List.length_append] at hv
  subst hv
  exact ⟨a', c', w', r1, h9, Aside.grown r3 fun _ h => h⟩

/-- The bytes, the places, the sizes, the acts and the packer. -/
structure Bkd (w wr : World) (p bm B0 : Nat) (v7 v8 v9 v10 : Value) (b : List UInt8) (q s : List Nat) (n : List AR) (K : KK) (e : Nat) : Prop where
  rb : OwnB wr B0 v7 b
  rq : OwnJ wr B0 v8 q
  rs : OwnJ wr B0 v9 s
  ra : OwnA wr B0 v10 n
  ne : ∀ x, v8.ownBlock = some x → v9.ownBlock = some x → False
  pk : Pk wr p bm K e
  bel : Below w.heap.size w wr
  size : B0 ≤ wr.heap.size
  hp : p < B0
  hm : bm < B0
  h0 : w.heap.size ≤ p ∧ w.heap.size ≤ bm

section
variable {w wr w' : World} {p bm B0 e : Nat} {v7 v8 v9 v10 : Value} {b : List UInt8} {q s : List Nat} {n : List AR} {K : KK}

theorem Bkd.later (h : Bkd w wr p bm B0 v7 v8 v9 v10 b q s n K e) (hb : Below wr.heap.size wr w') : Bkd w w' p bm B0 v7 v8 v9 v10 b q s n K e :=
  ⟨h.rb.below hb, row_below h.rq hb, row_below h.rs hb, row_below h.ra hb, h.ne, h.pk.later hb, bel_call h.bel hb, Nat.le_trans h.size hb.size, h.hp, h.hm, h.h0⟩

theorem Bkd.name {K' : KK} {e' : Nat} (h : Bkd w wr p bm B0 v7 v8 v9 v10 b q s n K e) (ha : Aside (fun x => x = p ∨ x = bm) wr w') (hk : Pk w' p bm K' e') : Bkd w w' p bm B0 v7 v8 v9 v10 b q s n K' e' := by
  have h1 := h.hp
  have h2 := h.hm
  have h3 := h.h0
  refine ⟨h.rb.aside ha fun x hx => ?_, row_aside h.rq ha fun x hx => ?_, row_aside h.rs ha fun x hx => ?_, row_aside h.ra ha fun x hx => ?_, h.ne, hk, below_aside h.bel ha fun x hx => ⟨Nat.lt_of_lt_of_le hx h.bel.size, by omega⟩, Nat.le_trans h.size ha.size, h1, h2, h3⟩
  · have := (h.rb.lt x hx).1; omega
  · have := (World.ownsRow.lt h.rq x hx).1; omega
  · have := (World.ownsRow.lt h.rs x hx).1; omega
  · have := (World.ownsRow.lt h.ra x hx).1; omega

/-- A row of the call's own is written over or moved: the rest. -/
theorem Bkd.rest {v : Value} (h : Bkd w wr p bm B0 v7 v8 v9 v10 b q s n K e) (ha : Aside (fun x => v.ownBlock = some x) wr w') (hv : ∀ x, v.ownBlock = some x → B0 ≤ x) :
    Pk w' p bm K e ∧ Below w.heap.size w w' ∧ B0 ≤ w'.heap.size := by
  have g1 := h.hp
  have g2 := h.hm
  have g3 := h.h0
  refine ⟨h.pk.aside ha (fun hg => by have := hv p hg; omega) (fun hg => by have := hv bm hg; omega), below_aside h.bel ha fun x hx => ⟨Nat.lt_of_lt_of_le hx h.bel.size, fun hg => by have := hv x hg; omega⟩, Nat.le_trans h.size ha.size⟩

theorem Bkd.appB (h : Bkd w wr p bm B0 v7 v8 v9 v10 b q s n K e) {xv : Value} {l' : List UInt8} {lo hi : Nat} (hx : Sl wr lo hi xv (iz l')) (hb : b.length + l'.length ≤ 1000000) :
    ∃ a' c' w', (Builtin.append_ #[43, 43] 43 #[v7, xv]).run Try.prog wr = .ok (.slice a' (b.length + l'.length) c') w' ∧ Bkd w w' p bm B0 (.slice a' (b.length + l'.length) c') v8 v9 v10 (b ++ l') q s n K e := by
  obtain ⟨a', c', w', h1, h2, ha⟩ := run_appBs B0 v7 xv b l' h.rb hx hb h.size
  obtain ⟨r1, r2, r3⟩ := h.rest ha fun x hx => (h.rb.lt x hx).1
  exact ⟨a', c', w', h1, h2, row_aside h.rq ha fun x hx hg => row_apartB h.rb h.rq (by decide) x hg hx, row_aside h.rs ha fun x hx hg => row_apartB h.rb h.rs (by decide) x hg hx, row_aside h.ra ha fun x hx hg => row_apartB h.rb h.ra (by decide) x hg hx, h.ne, r1, r2, r3, h.hp, h.hm, h.h0⟩

theorem Bkd.appQ (h : Bkd w wr p bm B0 v7 v8 v9 v10 b q s n K e) (x : Nat) (hb : q.length + 1 ≤ 1000000) :
    ∃ a' c' w', (Builtin.append_ #[52, 52] 52 #[v8, .slice (some ⟨wr.heap.size, 0, none⟩) 1 1]).run Try.prog (wr.alloc (.cells #[.int .i64 (x : Int)] 3)) = .ok (.slice a' (q.length + 1) c') w' ∧ Bkd w w' p bm B0 v7 (.slice a' (q.length + 1) c') v9 v10 b (q ++ [x]) s n K e ∧ ∀ B v (l : List UInt8), OwnB wr B v l → OwnB w' B v l := by
  have hal : Below wr.heap.size wr (wr.alloc (.cells #[.int .i64 (x : Int)] 3)) := (Below.refl _ _).alloc (Nat.le_refl _) _
  have h := h.later hal
  obtain ⟨a', c', w', h1, h2, ha, h5⟩ := run_appJ B0 v8 q x wr.heap.size h.rq (by simp [go_sem]) hb h.size
  obtain ⟨r1, r2, r3⟩ := h.rest ha fun x hx => (World.ownsRow.lt h.rq x hx).1
  have hsz := (World.size_alloc wr (.cells #[.int .i64 (x : Int)] 3))
  refine ⟨a', c', w', h1, ⟨h.rb.aside ha fun y hy hg => row_apartB h.rb h.rq (by decide) y hy hg, h2, row_aside h.rs ha fun y hy hg => h.ne y hg hy, row_aside h.ra ha fun y hy hg => row_apart h.rq h.ra (by decide) y hg hy, ?_, r1, r2, r3, h.hp, h.hm, h.h0⟩, fun B v l ho => (ho.below hal).aside ha fun y hy hg => row_apartB (ho.below hal) h.rq (by decide) y hy hg⟩
  intro y h6 h7
  rcases h5 with h5 | h5
  · exact h.ne y (h5 ▸ h6) h7
  · have := (World.ownsRow.lt h.rs y h7).2
    rw [h5] at h6
    injection h6 with h6
    omega

theorem Bkd.appS (h : Bkd w wr p bm B0 v7 v8 v9 v10 b q s n K e) (x : Nat) (hb : s.length + 1 ≤ 1000000) :
    ∃ a' c' w', (Builtin.append_ #[52, 52] 52 #[v9, .slice (some ⟨wr.heap.size, 0, none⟩) 1 1]).run Try.prog (wr.alloc (.cells #[.int .i64 (x : Int)] 3)) = .ok (.slice a' (s.length + 1) c') w' ∧ Bkd w w' p bm B0 v7 v8 (.slice a' (s.length + 1) c') v10 b q (s ++ [x]) n K e ∧ ∀ B v (l : List UInt8), OwnB wr B v l → OwnB w' B v l := by
  have hal : Below wr.heap.size wr (wr.alloc (.cells #[.int .i64 (x : Int)] 3)) := (Below.refl _ _).alloc (Nat.le_refl _) _
  have h := h.later hal
  obtain ⟨a', c', w', h1, h2, ha, h5⟩ := run_appJ B0 v9 s x wr.heap.size h.rs (by simp [go_sem]) hb h.size
  obtain ⟨r1, r2, r3⟩ := h.rest ha fun x hx => (World.ownsRow.lt h.rs x hx).1
  refine ⟨a', c', w', h1, ⟨h.rb.aside ha fun y hy hg => row_apartB h.rb h.rs (by decide) y hy hg, row_aside h.rq ha fun y hy hg => h.ne y hy hg, h2, row_aside h.ra ha fun y hy hg => row_apart h.rs h.ra (by decide) y hg hy, ?_, r1, r2, r3, h.hp, h.hm, h.h0⟩, fun B v l ho => (ho.below hal).aside ha fun y hy hg => row_apartB (ho.below hal) h.rs (by decide) y hy hg⟩
  intro y h6 h7
  rcases h5 with h5 | h5
  · exact h.ne y h6 (h5 ▸ h7)
  · have := (World.ownsRow.lt h.rq y h6).2
    rw [h5] at h7
    injection h7 with h7
    omega

theorem Bkd.appA (h : Bkd w wr p bm B0 v7 v8 v9 v10 b q s n K e) (x : AR) (hb : n.length + 1 ≤ 1000000) :
    ∃ a' c' w', (Builtin.append_ #[30, 30] 30 #[v10, .slice (some ⟨wr.heap.size, 0, none⟩) 1 1]).run Try.prog (wr.alloc (.cells #[.string (bs x.x.n), .int .i64 x.x.t, .int .i64 x.x.c, .int .i64 x.x.l, .string (bs x.x.d), .bool x.k, .bool x.r, .int .i64 x.a] 39)) = .ok (.slice a' (n.length + 1) c') w' ∧ Bkd w w' p bm B0 v7 v8 v9 (.slice a' (n.length + 1) c') b q s (n ++ [x]) K e ∧ ∀ B v (l : List UInt8), OwnB wr B v l → OwnB w' B v l := by
  have hal : Below wr.heap.size wr (wr.alloc (.cells #[.string (bs x.x.n), .int .i64 x.x.t, .int .i64 x.x.c, .int .i64 x.x.l, .string (bs x.x.d), .bool x.k, .bool x.r, .int .i64 x.a] 39)) := (Below.refl _ _).alloc (Nat.le_refl _) _
  have h := h.later hal
  obtain ⟨a', c', w', h1, h2, ha⟩ := run_appA B0 v10 n x wr.heap.size h.ra ⟨⟨by simp [go_sem], by simp [go_sem], by simp [go_sem], by simp [go_sem], by simp [go_sem]⟩, by simp [go_sem], by simp [go_sem], by simp [go_sem]⟩ hb h.size
  obtain ⟨r1, r2, r3⟩ := h.rest ha fun x hx => (World.ownsRow.lt h.ra x hx).1
  exact ⟨a', c', w', h1, ⟨h.rb.aside ha fun y hy hg => row_apartB h.rb h.ra (by decide) y hy hg, row_aside h.rq ha fun y hy hg => row_apart h.rq h.ra (by decide) y hy hg, row_aside h.rs ha fun y hy hg => row_apart h.rs h.ra (by decide) y hy hg, h2, h.ne, r1, r2, r3, h.hp, h.hm, h.h0⟩, fun B v l ho => (ho.below hal).aside ha fun y hy hg => row_apartB (ho.below hal) h.ra (by decide) y hy hg⟩
end

end Go.Proofs.Ytaikpgcmcmkdcaa
