/-
  The statements about what is read of any bytes, and about lower form.
-/
import Derived.Test.YtkiahaodajecfaaQC
import Derived.Test.YtkiahaodajecfaaTp
namespace Go.Proofs.Ytkiahaodajecfaa
open Go.RowKit Go.Shelf
set_option linter.unusedVariables false
set_option linter.unusedSimpArgs false
set_option maxRecDepth 100000

theorem go_bad {F : Nat → Got} {b : List UInt8} {s e : Nat} (hs : s ≤ b.length) (hF : ∀ p, (F p).2.2.2 ≤ b.length) : ∀ (ks : List PK) (p : Nat) (acc : List Pc) (c : Int) (a : Nat), goP F b s e ks p acc = .bad c a → a ≤ b.length ∧ c ≠ 0
  | [], p, acc, c, a, h => by
    rw [goP] at h
    split at h
    · injection h with h1 h2; subst h1; subst h2; exact ⟨hs, by decide⟩
    · simp at h
  | k :: ks, p, acc, c, a, h => by
    rw [goP] at h
    split at h
    · exact go_bad hs hF ks _ _ c a h
    · rename_i c' a' hx
      injection h with h1 h2
      subst h1; subst h2
      have hcut : ∀ q', cutP b s e p q' = .bad c' a' → a' ≤ b.length ∧ c' ≠ 0 := by
        intro q' hq
        unfold cutP at hq
        split at hq
        · injection hq with h1 h2; subst h1; subst h2; exact ⟨hs, by decide⟩
        · simp at hq
      cases k with
      | fix n => exact hcut _ hx
      | nam =>
        simp only [stepP] at hx
        split at hx
        · injection hx with h1 h2; subst h1; subst h2; exact ⟨hs, by decide⟩
        · split at hx
          · rename_i h0
            injection hx with h1 h2; subst h1; subst h2; exact ⟨hF p, h0⟩
          · split at hx
            · injection hx with h1 h2; subst h1; subst h2; exact ⟨hs, by decide⟩
            · simp at hx
      | txt =>
        rw [txR_step] at hx
        cases hy : txE b e (e + 1) p with
        | none => rw [hy] at hx; injection hx with h1 h2; subst h1; subst h2; exact ⟨hs, by decide⟩
        | some y => rw [hy] at hx; exact hcut _ hx
      | rst => exact hcut _ hx

theorem rdR_bad {b : List UInt8} {a size t : Int} {c : Int} {p : Nat} (h : rdR b a size t = .bad c p) : p ≤ b.length ∧ c ≠ 0 := by
  unfold rdR at h
  split at h
  · injection h with h1 h2; subst h1; subst h2; exact ⟨Nat.zero_le _, by decide⟩
  · split at h
    · injection h with h1 h2; subst h1; subst h2; exact ⟨Nat.zero_le _, by decide⟩
    · split at h
      · injection h with h1 h2; subst h1; subst h2; exact ⟨Nat.le_refl _, by decide⟩
      · exact go_bad (by omega) (fun p => rda_place b p) _ _ _ _ _ h

theorem rdR_ok {b : List UInt8} {a size t : Int} {L : List Pc} (h : rdR b a size t = .ok L) : 0 ≤ t ∧ t ≤ 65535 ∧ Fits (kinds t) L ∧ (joined L).length ≤ 3 * (b.length + 255) ∧ 0 ≤ a ∧ 0 ≤ size ∧ a + size ≤ b.length ∧ goP (fun p => rda b p) b a.toNat (a.toNat + size.toNat) (kinds t) a.toNat [] = .ok L := by
  unfold rdR at h
  split at h
  · simp at h
  · split at h
    · simp at h
    · split at h
      · simp at h
      · obtain ⟨M, h1, h2⟩ := go_fits (F := fun p => rda b p) (e := a.toNat + size.toNat) (by omega) (fun p hp => (rda_fine b p hp).1) (kinds t) _ [] L (kinds_last t) (by omega) h
        rw [List.nil_append] at h1
        subst h1
        obtain ⟨h3, _⟩ := go_len (F := fun p => rda b p) (fun p hp => rda_len b p hp) (kinds t) _ [] L h
        have hk := (kinds_small t).1
        have h4 : (kinds t).length * (b.length + 255) ≤ 3 * (b.length + 255) := Nat.mul_le_mul_right _ hk
        rw [joined_nil, List.length_nil] at h3
        exact ⟨by omega, by omega, h2, by omega, by omega, by omega, by omega, h⟩

theorem tgt_chk {t : Int} {d : List UInt8} (h : (tgt t d).2 = true) : chk (tgt t d).1 = 0 := by
  unfold tgt at h ⊢
  split at h
  · rename_i ht
    rw [if_pos ht]
    rcases hs : spl t d with L | ⟨c, a⟩
    · obtain ⟨_, _, _, hf, _⟩ := spl_ok hs
      rw [tgtR]
      rcases ht with rfl | rfl | rfl | rfl
      · have e : kinds 2 = [.nam] := rfl
        rw [e] at hf
        cases hf with | nam h1 h2 => cases h2; exact h1
      · have e : kinds 5 = [.nam] := rfl
        rw [e] at hf
        cases hf with | nam h1 h2 => cases h2; exact h1
      · have e : kinds 12 = [.nam] := rfl
        rw [e] at hf
        cases hf with | nam h1 h2 => cases h2; exact h1
      · have e : kinds 15 = [.fix 2, .nam] := rfl
        rw [e] at hf
        cases hf with | fix h1 h2 => cases h2 with | nam h3 h4 => cases h4; exact h3
    · rw [hs] at h
      cases h
  · cases h

theorem tgt_len {t : Int} {d : List UInt8} : (tgt t d).1.length ≤ 255 := by
  by_cases h : (tgt t d).2 = true
  · exact (chk_pos (tgt_chk h)).2
  · unfold tgt at h ⊢
    split at h
    · rename_i ht
      rw [if_pos ht]
      rcases hs : spl t d with L | ⟨c, a⟩
      · rw [hs] at h; exact absurd rfl h
      · exact Nat.zero_le _
    · rename_i ht
      rw [if_neg ht]
      exact Nat.zero_le _

set_option maxHeartbeats 4000000 in
theorem readsOnly_any {w : World} {lo hi : Nat} {v : Value} {b : List UInt8} (hS : Sl w lo hi v (iz b)) (hhi : hi ≤ w.heap.size) (a size t : Int) (ht : (Lit.int .i64 t).wf = true) :
    Calls Try.prog 6 #[v, .int .i64 a, .int .i64 size, .int .i64 t] w (Tells w (.bool true)) := by
  have HAW := Lib.hid awakeD_any
  have hS2 := hS
  obtain ⟨av, cv, rfl, _⟩ := hS
  replace hS2 : Sl w lo hi (.slice av b.length cv) (iz b) := by rw [iz_len] at hS2; exact hS2
  rw [iz_len]
  have HB := Lib.hid (Below.refl w.heap.size w)
  by_cases hlong : 2000 < b.length
  · clear hS2
    go_enter Try.func6, Try.ntmps6
    go_wp2_with fail
    refine (tell_on HB (HAW.out _)).mono ?_; rintro e w1 ⟨rfl, HB⟩
    go_wp2_with fail
    go_ret
    exact ⟨rfl, HB.out⟩
  · have hbl : b.length ≤ 1000000 := by omega
    have HR := Lib.hid (fun wx (hb : Below w.heap.size w wx) => readD_any (hS2.below hb hhi) (Nat.le_trans hhi hb.size) (by omega) a size t ht)
    rcases hR : rdR b a size t with L | ⟨c, p⟩
    · obtain ⟨h0, h1, hf, hlen, _⟩ := rdR_ok hR
      have hsp := spl_of h0 h1 (by omega) hf
      have HCk := Lib.hid (fun wx => rcheckD_any t (joined L) (by omega) wx)
      have HTg := Lib.hid (fun wx => target_any t (joined L) (by omega) wx)
      have htc := tgt_chk (t := t) (d := joined L)
      have HNc := Lib.hid (fun wx => check_any (tgt t (joined L)).1 (by have := tgt_len (t := t) (d := joined L); omega) wx)
      rw [hR] at HR
      rw [hsp] at HCk
      obtain ⟨N, hN⟩ : ∃ N, (tgt t (joined L)).1 = N := ⟨_, rfl⟩
      obtain ⟨f, hff⟩ : ∃ f, (tgt t (joined L)).2 = f := ⟨_, rfl⟩
      rw [hN, hff] at HTg htc
      rw [hN] at HNc
      obtain ⟨J, hJ⟩ : ∃ J, joined L = J := ⟨_, rfl⟩
      have HR' : Hid (∀ wx, Below w.heap.size w wx → Calls Try.prog 28 #[.slice av b.length cv, .int .i64 a, .int .i64 size, .int .i64 t] wx (Tells wx (.tuple #[.string (bs J), .agg #[.int .i64 0, .int .i64 0]]))) := fun wx hb => by have h := HR.out wx hb; rw [← hJ]; exact h
      have HCk' : Hid (∀ wx, Calls Try.prog 15 #[.int .i64 t, .string (bs J)] wx (Tells wx (.int .i64 0))) := fun wx => by have h := HCk.out wx; rw [← hJ]; exact h
      rw [hJ] at HTg
      clear hR h0 h1 hf hlen hsp HCk HR hN hff hS2 hJ
      cases f with
      | true =>
        rw [htc rfl] at HNc
        clear htc
        go_enter Try.func6, Try.ntmps6
        go_wp2_with fail
        refine (tell_on HB (HAW.out _)).mono ?_; rintro e w1 ⟨rfl, HB⟩
        go_wp2_with fail
        refine (tell_on HB (HR'.out _ HB.out)).mono ?_; rintro e w2 ⟨rfl, HB⟩
        replace HB := Lib.hid (bel_alloc HB.out (.cells #[.int .i64 0, .int .i64 0] 51))
        go_wp2_with fail
        refine (tell_on HB (HCk'.out _)).mono ?_; rintro e w3 ⟨rfl, HB⟩
        go_wp2_with fail
        refine (tell_on HB (HTg.out _)).mono ?_; rintro e w4 ⟨rfl, HB⟩
        go_wp2_with fail
        refine (tell_on HB (HNc.out _)).mono ?_; rintro e w5 ⟨rfl, HB⟩
        go_wp2_with fail
        go_ret
        exact ⟨rfl, HB.out⟩
      | false =>
        clear htc
        go_enter Try.func6, Try.ntmps6
        go_wp2_with fail
        refine (tell_on HB (HAW.out _)).mono ?_; rintro e w1 ⟨rfl, HB⟩
        go_wp2_with fail
        refine (tell_on HB (HR'.out _ HB.out)).mono ?_; rintro e w2 ⟨rfl, HB⟩
        replace HB := Lib.hid (bel_alloc HB.out (.cells #[.int .i64 0, .int .i64 0] 51))
        go_wp2_with fail
        refine (tell_on HB (HCk'.out _)).mono ?_; rintro e w3 ⟨rfl, HB⟩
        go_wp2_with fail
        refine (tell_on HB (HTg.out _)).mono ?_; rintro e w4 ⟨rfl, HB⟩
        go_wp2_with fail
        go_ret
        exact ⟨rfl, HB.out⟩
    · obtain ⟨hp, hc⟩ := rdR_bad hR
      rw [hR] at HR
      have HR' : Hid (∀ wx, Below w.heap.size w wx → Calls Try.prog 28 #[.slice av b.length cv, .int .i64 a, .int .i64 size, .int .i64 t] wx (Tells wx (.tuple #[.string ⟨#[]⟩, .agg #[.int .i64 c, .int .i64 p]]))) := fun wx hb => HR.out wx hb
      have tc : (c != 0) = true := by simpa using hc
      have tp : decide ((0 : Int) ≤ p) = true := by simp
      have tq : decide ((p : Int) ≤ b.length) = true := by simp; omega
      clear hR HR hc hS2
      go_enter Try.func6, Try.ntmps6
      go_wp2_with fail
      refine (tell_on HB (HAW.out _)).mono ?_; rintro e w1 ⟨rfl, HB⟩
      go_wp2_with fail
      refine (tell_on HB (HR'.out _ HB.out)).mono ?_; rintro e w2 ⟨rfl, HB⟩
      replace HB := Lib.hid (bel_alloc HB.out (.cells #[.int .i64 c, .int .i64 p] 51))
      go_wp2_with fail
      go_ret
      exact ⟨rfl, HB.out⟩
end Go.Proofs.Ytkiahaodajecfaa

/-
  The statement about lower form.
-/
namespace Go.Proofs.Ytkiahaodajecfaa
open Go.RowKit Go.Shelf
set_option linter.unusedVariables false
set_option linter.unusedSimpArgs false
set_option maxRecDepth 100000

theorem tgt_low (t : Int) (d : List UInt8) : tgt t (lowD t d) = (low (tgt t d).1, (tgt t d).2) := by
  unfold tgt
  by_cases ht : t = 2 ∨ t = 5 ∨ t = 12 ∨ t = 15
  · rw [if_pos ht, if_pos ht]
    rcases hs : spl t d with L | ⟨c, a⟩
    · obtain ⟨_, _, _, hf, _⟩ := spl_ok hs
      rw [(low_spl hs).1, tgtR, tgtR]
      rcases ht with rfl | rfl | rfl | rfl
      · have e : kinds 2 = [.nam] := rfl
        rw [e] at hf
        cases hf with | nam h1 h2 => cases h2; rfl
      · have e : kinds 5 = [.nam] := rfl
        rw [e] at hf
        cases hf with | nam h1 h2 => cases h2; rfl
      · have e : kinds 12 = [.nam] := rfl
        rw [e] at hf
        cases hf with | nam h1 h2 => cases h2; rfl
      · have e : kinds 15 = [.fix 2, .nam] := rfl
        rw [e] at hf
        cases hf with | fix h1 h2 => cases h2 with | nam h3 h4 => cases h4; rfl
    · rw [low_bad hs, hs]
      rfl
  · rw [if_neg ht, if_neg ht]
    rfl

theorem lowD_facts (t : Int) (d : List UInt8) : (lowD t d).length = d.length ∧ (spl t (lowD t d)).code = (spl t d).code ∧ lowD t (lowD t d) = lowD t d := by
  rcases hs : spl t d with L | ⟨c, a⟩
  · obtain ⟨h1, h2, h3⟩ := low_spl hs
    exact ⟨h2, by rw [h1]; rfl, h3⟩
  · have h := low_bad hs
    exact ⟨by rw [h], by rw [h, hs], by rw [h, h]⟩

set_option maxHeartbeats 4000000 in
theorem lowerL_any (t : Int) (d : List UInt8) (w : World) :
    Calls Try.prog 7 #[.int .i64 t, .string (bs d)] w (Tells w (.bool true)) := by
  have HAW := Lib.hid awakeD_any
  have hsz : (bs d).size = d.length := bs_size d
  have HB := Lib.hid (Below.refl w.heap.size w)
  by_cases hlong : 2000 < d.length
  · have tl : decide ((2000 : Int) < d.length) = true := by simp; omega
    go_enter Try.func7, Try.ntmps7
    go_wp2_with fail
    refine (tell_on HB (HAW.out _)).mono ?_; rintro e w1 ⟨rfl, HB⟩
    go_wp2_with fail
    go_ret
    exact ⟨rfl, HB.out⟩
  · have tl : decide ((2000 : Int) < d.length) = false := by simp; omega
    have hd : d.length ≤ 1000000 := by omega
    obtain ⟨f1, f2, f3⟩ := lowD_facts t d
    have HL := Lib.hid (fun wx => lowerD_any t d hd wx)
    have HL2 := Lib.hid (fun wx => lowerD_any t (lowD t d) (by omega) wx)
    have HC1 := Lib.hid (fun wx => rcheckD_any t (lowD t d) (by omega) wx)
    have HC2 := Lib.hid (fun wx => rcheckD_any t d hd wx)
    have HT1 := Lib.hid (fun wx => target_any t d hd wx)
    have HT2 := Lib.hid (fun wx => target_any t (lowD t d) (by omega) wx)
    have htc := tgt_chk (t := t) (d := d)
    have hN2 := tgt_len (t := t) (d := d)
    rw [f2] at HC1
    rw [f3] at HL2
    rw [tgt_low] at HT2
    obtain ⟨S, hS⟩ : ∃ S, lowD t d = S := ⟨_, rfl⟩
    rw [hS] at HL HL2 HC1 HT2 f1
    have hszS : (bs S).size = d.length := by rw [bs_size, f1]
    obtain ⟨c, hc⟩ : ∃ c, (spl t d).code = c := ⟨_, rfl⟩
    rw [hc] at HC1 HC2
    obtain ⟨N, hN⟩ : ∃ N, (tgt t d).1 = N := ⟨_, rfl⟩
    obtain ⟨f, hff⟩ : ∃ f, (tgt t d).2 = f := ⟨_, rfl⟩
    rw [hN, hff] at HT1 HT2 htc
    rw [hN] at hN2
    have HSm := Lib.hid (fun wx => same_name_any N (low N) (by omega) (by rw [low_len]; omega) wx)
    have HLn := Lib.hid (fun wx => lower_any N (by omega) wx)
    have hsame : f = true → same N (low N) = true := fun h => by unfold same; exact decide_eq_true ⟨htc h, by rw [chk_low]; exact htc h, (low_low N).symm⟩
    have tS : ((bs S).toList == (bs S).toList) = true := by simp
    have tN : ((bs (low N)).toList == (bs (low N)).toList) = true := by simp
    have tf : (d.length != d.length) = false := by simp
    have tcc : (c != c) = false := by simp
    clear f1 f2 f3 hS hc hN hff htc
    cases f with
    | true =>
      rw [hsame rfl] at HSm
      clear hsame
      go_enter Try.func7, Try.ntmps7
      go_wp2_with fail
      refine (tell_on HB (HAW.out _)).mono ?_; rintro e w1 ⟨rfl, HB⟩
      go_wp2_with fail
      refine (tell_on HB (HL.out _)).mono ?_; rintro e w2 ⟨rfl, HB⟩
      go_wp2_with fail
      refine (tell_on HB (HC1.out _)).mono ?_; rintro e w3 ⟨rfl, HB⟩
      go_wp2_with fail
      refine (tell_on HB (HC2.out _)).mono ?_; rintro e w4 ⟨rfl, HB⟩
      go_wp2_with fail
      refine (tell_on HB (HL2.out _)).mono ?_; rintro e w5 ⟨rfl, HB⟩
      go_wp2_with fail
      refine (tell_on HB (HT1.out _)).mono ?_; rintro e w6 ⟨rfl, HB⟩
      go_wp2_with fail
      refine (tell_on HB (HT2.out _)).mono ?_; rintro e w7 ⟨rfl, HB⟩
      go_wp2_with fail
      refine (tell_on HB (HSm.out _)).mono ?_; rintro e w8 ⟨rfl, HB⟩
      go_wp2_with fail
      refine (tell_on HB (HLn.out _)).mono ?_; rintro e w9 ⟨rfl, HB⟩
      go_wp2_with fail
      go_ret
      exact ⟨rfl, HB.out⟩
    | false =>
      clear hsame
      go_enter Try.func7, Try.ntmps7
      go_wp2_with fail
      refine (tell_on HB (HAW.out _)).mono ?_; rintro e w1 ⟨rfl, HB⟩
      go_wp2_with fail
      refine (tell_on HB (HL.out _)).mono ?_; rintro e w2 ⟨rfl, HB⟩
      go_wp2_with fail
      refine (tell_on HB (HC1.out _)).mono ?_; rintro e w3 ⟨rfl, HB⟩
      go_wp2_with fail
      refine (tell_on HB (HC2.out _)).mono ?_; rintro e w4 ⟨rfl, HB⟩
      go_wp2_with fail
      refine (tell_on HB (HL2.out _)).mono ?_; rintro e w5 ⟨rfl, HB⟩
      go_wp2_with fail
      refine (tell_on HB (HT1.out _)).mono ?_; rintro e w6 ⟨rfl, HB⟩
      go_wp2_with fail
      refine (tell_on HB (HT2.out _)).mono ?_; rintro e w7 ⟨rfl, HB⟩
      go_wp2_with fail
      go_ret
      exact ⟨rfl, HB.out⟩
end Go.Proofs.Ytkiahaodajecfaa

/-
  The chapter's examples.
-/
namespace Go.Proofs.Ytkiahaodajecfaa
open Go.RowKit Go.Shelf
set_option linter.unusedVariables false
set_option linter.unusedSimpArgs false
set_option maxRecDepth 100000

theorem kd_chk : chk [1, 97, 0] = 0 := shorts_chk (l := [[97]]) (by decide)
theorem kd_chk0 : chk [0] = 0 := shorts_chk (l := []) (by decide)
theorem kd_1 : (spl 2 [1, 97, 0]).code = 0 := by
  have := spl_of (t := 2) (L := [([1, 97, 0], true)]) (by decide) (by decide) (by decide) (.nam kd_chk .nil)
  have e : joined [(([1, 97, 0] : List UInt8), true)] = [1, 97, 0] := rfl
  rw [e] at this
  rw [this]; rfl
theorem kd_2 : (spl 16 []).code = 4 := by rw [spl_cuts]; rfl
theorem kd_3 : (spl 999 []).code = 0 := by rw [spl_cuts]; rfl
theorem kd_4 : (spl (-1) []).code = 5 := by rw [spl_cuts]; rfl
theorem kd_5 : rdR [1, 97, 0, 0, 5, 192, 0] 3 3 15 = .bad 4 3 := by
  have e1 : kinds 15 = [.fix 2, .nam] := rfl
  have e : rdR [1, 97, 0, 0, 5, 192, 0] 3 3 15 = goP (fun p => rda [1, 97, 0, 0, 5, 192, 0] p) [1, 97, 0, 0, 5, 192, 0] 3 6 (kinds 15) 3 [] := by
    unfold rdR
    rw [if_neg (by decide), if_neg (by decide), if_neg (by decide)]
    rfl
  rw [e, e1]
  have s1 : stepP (fun p => rda [1, 97, 0, 0, 5, 192, 0] p) [1, 97, 0, 0, 5, 192, 0] 3 6 3 (.fix 2) = .ok ([0, 5], false) 5 := rfl
  have s2 : stepP (fun p => rda [1, 97, 0, 0, 5, 192, 0] p) [1, 97, 0, 0, 5, 192, 0] 3 6 5 .nam = .bad 4 3 := by
    simp only [stepP]
    have h : rda [1, 97, 0, 0, 5, 192, 0] ((5 : Nat) : Int) = ([1, 97, 0], 7, 0, 0) := rda_ex
    rw [h]
    rfl
  rw [goP, s1]
  simp only
  rw [goP, s2]
theorem kd_6 : rdR [1, 97, 0, 9] 0 4 2 = .bad 4 0 := by
  have e1 : kinds 2 = [.nam] := rfl
  have e : rdR [1, 97, 0, 9] 0 4 2 = goP (fun p => rda [1, 97, 0, 9] p) [1, 97, 0, 9] 0 4 (kinds 2) 0 [] := by
    unfold rdR
    rw [if_neg (by decide), if_neg (by decide), if_neg (by decide)]
    rfl
  have h : rda [1, 97, 0, 9] ((0 : Nat) : Int) = ([1, 97, 0], 3, 0, 0) :=
    rdaE (b := [1, 97, 0, 9]) (p := 0) (ls := [[97]]) (en := 3) (.label (by decide) (by decide) (by decide) (by decide) (.zero (by decide) (by decide))) (by decide)
  rw [e, e1]
  have s1 : stepP (fun p => rda [1, 97, 0, 9] p) [1, 97, 0, 9] 0 4 0 .nam = .ok ([1, 97, 0], true) 3 := by
    simp only [stepP]
    rw [h]
    rfl
  rw [goP, s1]
  rfl
theorem kd_7 : rdR [1] 0 2 1 = .bad 4 1 := rfl
theorem kd_8 : tgt 15 [0, 5, 1, 97, 0] = ([1, 97, 0], true) := by
  have := spl_of (t := 15) (L := [([0, 5], false), ([1, 97, 0], true)]) (by decide) (by decide) (by decide) (.fix rfl (.nam kd_chk .nil))
  have e : joined [(([0, 5] : List UInt8), false), ([1, 97, 0], true)] = [0, 5, 1, 97, 0] := rfl
  rw [e] at this
  unfold tgt
  rw [if_pos (by decide), this]
  rfl
theorem kd_9 : adr 1 [0, 0, 1, 2] = (258, true) := by
  unfold adr
  rw [if_pos ⟨rfl, (adr_len _).mpr rfl⟩]
  rfl
theorem kd_10 : lst 6 [0, 0, 0, 0, 0, 0, 0, 0, 0, 0, 0, 0, 0, 0, 0, 0, 0, 0, 0, 0, 0, 9] = (9, true) := by
  have := spl_of (t := 6) (L := [([0], true), ([0], true), ([0, 0, 0, 0, 0, 0, 0, 0, 0, 0, 0, 0, 0, 0, 0, 0, 0, 0, 0, 9], false)]) (by decide) (by decide) (by decide) (.nam kd_chk0 (.nam kd_chk0 (.fix rfl .nil)))
  have e : joined [(([0] : List UInt8), true), ([0], true), ([0, 0, 0, 0, 0, 0, 0, 0, 0, 0, 0, 0, 0, 0, 0, 0, 0, 0, 0, 9], false)] = [0, 0, 0, 0, 0, 0, 0, 0, 0, 0, 0, 0, 0, 0, 0, 0, 0, 0, 0, 0, 0, 9] := rfl
  rw [e] at this
  unfold lst
  rw [if_pos ⟨rfl, by rw [this]; rfl⟩]
  rfl
theorem kd_11 : tgt 1 [49, 50, 51, 52] = ([], false) := by unfold tgt; rw [if_neg (by decide)]

set_option maxHeartbeats 8000000 in
theorem knownD_any (w : World) : Calls Try.prog 8 #[] w (Tells w (.bool true)) := by
  have HAW := Lib.hid awakeD_any
  have HB := Lib.hid (Below.refl w.heap.size w)
  have C1 := Lib.hid (fun wx => show Calls Try.prog 15 #[.int .i64 2, .string ⟨#[1, 97, 0]⟩] wx (Tells wx (.int .i64 0)) from by have h := rcheckD_any 2 [1, 97, 0] (by simp) wx; rw [kd_1] at h; exact h)
  have C2 := Lib.hid (fun wx => show Calls Try.prog 15 #[.int .i64 16, .string ⟨#[]⟩] wx (Tells wx (.int .i64 4)) from by have h := rcheckD_any 16 [] (by simp) wx; rw [kd_2] at h; exact h)
  have C3 := Lib.hid (fun wx => show Calls Try.prog 15 #[.int .i64 999, .string ⟨#[]⟩] wx (Tells wx (.int .i64 0)) from by have h := rcheckD_any 999 [] (by simp) wx; rw [kd_3] at h; exact h)
  have C4 := Lib.hid (fun wx => show Calls Try.prog 15 #[.int .i64 (-1), .string ⟨#[]⟩] wx (Tells wx (.int .i64 5)) from by have h := rcheckD_any (-1) [] (by simp) wx; rw [kd_4] at h; exact h)
  have R1 := Lib.hid (fun (wx : World) => show Calls Try.prog 28 #[.slice (some ⟨wx.heap.size, 0, none⟩) 7 7, .int .i64 3, .int .i64 3, .int .i64 15] (wx.alloc (.cells #[.int .u8 1, .int .u8 97, .int .u8 0, .int .u8 0, .int .u8 5, .int .u8 192, .int .u8 0] 5)) (Tells (wx.alloc (.cells #[.int .u8 1, .int .u8 97, .int .u8 0, .int .u8 0, .int .u8 5, .int .u8 192, .int .u8 0] 5)) (.tuple #[.string ⟨#[]⟩, .agg #[.int .i64 4, .int .i64 3]])) from by
    have h := readD_any (b := [1, 97, 0, 0, 5, 192, 0]) (sl_lit wx [1, 97, 0, 0, 5, 192, 0]) (by simp) (by simp) 3 3 15 (by decide)
    rw [kd_5] at h
    exact h)
  have R2 := Lib.hid (fun (wx : World) => show Calls Try.prog 28 #[.slice (some ⟨wx.heap.size, 0, none⟩) 4 4, .int .i64 0, .int .i64 4, .int .i64 2] (wx.alloc (.cells #[.int .u8 1, .int .u8 97, .int .u8 0, .int .u8 9] 5)) (Tells (wx.alloc (.cells #[.int .u8 1, .int .u8 97, .int .u8 0, .int .u8 9] 5)) (.tuple #[.string ⟨#[]⟩, .agg #[.int .i64 4, .int .i64 0]])) from by
    have h := readD_any (b := [1, 97, 0, 9]) (sl_lit wx [1, 97, 0, 9]) (by simp) (by simp) 0 4 2 (by decide)
    rw [kd_6] at h
    exact h)
  have R3 := Lib.hid (fun (wx : World) => show Calls Try.prog 28 #[.slice (some ⟨wx.heap.size, 0, none⟩) 1 1, .int .i64 0, .int .i64 2, .int .i64 1] (wx.alloc (.cells #[.int .u8 1] 5)) (Tells (wx.alloc (.cells #[.int .u8 1] 5)) (.tuple #[.string ⟨#[]⟩, .agg #[.int .i64 4, .int .i64 1]])) from by
    have h := readD_any (b := [1]) (sl_lit wx [1]) (by simp) (by simp) 0 2 1 (by decide)
    rw [kd_7] at h
    exact h)
  have T1 := Lib.hid (fun wx => show Calls Try.prog 9 #[.int .i64 15, .string ⟨#[0, 5, 1, 97, 0]⟩] wx (Tells wx (.tuple #[.string ⟨#[1, 97, 0]⟩, .bool true])) from by have h := target_any 15 [0, 5, 1, 97, 0] (by simp) wx; rw [kd_8] at h; exact h)
  have A1 := Lib.hid (fun wx => show Calls Try.prog 11 #[.int .i64 1, .string ⟨#[0, 0, 1, 2]⟩] wx (Tells wx (.tuple #[.int .i64 258, .bool true])) from by have h := address_any 1 [0, 0, 1, 2] (by simp) wx; rw [kd_9] at h; exact h)
  have L1 := Lib.hid (fun wx => show Calls Try.prog 13 #[.int .i64 6, .string (bs [0, 0, 0, 0, 0, 0, 0, 0, 0, 0, 0, 0, 0, 0, 0, 0, 0, 0, 0, 0, 0, 9])] wx (Tells wx (.tuple #[.int .i64 9, .bool true])) from by have h := least_any 6 [0, 0, 0, 0, 0, 0, 0, 0, 0, 0, 0, 0, 0, 0, 0, 0, 0, 0, 0, 0, 0, 9] (by simp) wx; rw [kd_10] at h; exact h)
  have T2 := Lib.hid (fun wx => show Calls Try.prog 9 #[.int .i64 1, .string ⟨#[49, 50, 51, 52]⟩] wx (Tells wx (.tuple #[.string ⟨#[]⟩, .bool false])) from by have h := target_any 1 [49, 50, 51, 52] (by simp) wx; rw [kd_11] at h; exact h)
  have hmk : ∀ wx : World, (Instr.makeSlice 42 (.int .i64 16) (.int .i64 16)).run Try.prog wx = .ok (.slice (some ⟨wx.heap.size, 0, none⟩) 16 16) (wx.alloc (.cells (List.replicate 16 (Value.int .u8 0)).toArray 5)) := fun wx => makeN 16 (by omega) wx
  have hcv : ∀ wx : World, (convert 42 9 (.slice (some ⟨wx.heap.size, 0, none⟩) 16 16)).run Try.prog (wx.alloc (.cells #[.int .u8 0, .int .u8 0, .int .u8 0, .int .u8 0, .int .u8 0, .int .u8 0, .int .u8 0, .int .u8 0, .int .u8 0, .int .u8 0, .int .u8 0, .int .u8 0, .int .u8 0, .int .u8 0, .int .u8 0, .int .u8 0] 5)) = .ok (.string (bs [0, 0, 0, 0, 0, 0, 0, 0, 0, 0, 0, 0, 0, 0, 0, 0])) (wx.alloc (.cells #[.int .u8 0, .int .u8 0, .int .u8 0, .int .u8 0, .int .u8 0, .int .u8 0, .int .u8 0, .int .u8 0, .int .u8 0, .int .u8 0, .int .u8 0, .int .u8 0, .int .u8 0, .int .u8 0, .int .u8 0, .int .u8 0] 5)) :=
    fun (wx : World) => conv_back (b := [0, 0, 0, 0, 0, 0, 0, 0, 0, 0, 0, 0, 0, 0, 0, 0]) (sl_lit wx [0, 0, 0, 0, 0, 0, 0, 0, 0, 0, 0, 0, 0, 0, 0, 0])
  go_enter Try.func8, Try.ntmps8
  go_wp2_with fail
  refine (tell_on HB (C1.out _)).mono ?_; rintro e w1 ⟨rfl, HB⟩
  go_wp2_with fail
  refine (tell_on HB (C2.out _)).mono ?_; rintro e w2 ⟨rfl, HB⟩
  go_wp2_with fail
  refine (tell_on HB (C3.out _)).mono ?_; rintro e w3 ⟨rfl, HB⟩
  go_wp2_with fail
  refine (tell_on HB (C4.out _)).mono ?_; rintro e w4 ⟨rfl, HB⟩
  go_wp2_with fail
  refine (R1.out _).mono ?_; rintro e w5 ⟨rfl, hb⟩
  replace HB := Lib.hid (bel_alloc (bel_call (bel_alloc HB.out _) hb) (.cells #[.int .i64 4, .int .i64 3] 51))
  have Q3 := Lib.hid (Cl.new w5 (.int .i64 4) (.int .i64 3) 51)
  have R2' := R2.out (w5.alloc (.cells #[.int .i64 4, .int .i64 3] 51))
  simp only [World.size_alloc] at R2'
  have HR2 := Lib.hid R2'
  clear hb R2'
  go_wp2_with fail
  refine HR2.out.mono ?_; rintro e w6 ⟨rfl, hb⟩
  replace HB := Lib.hid (bel_alloc (bel_call (bel_alloc HB.out _) hb) (.cells #[.int .i64 4, .int .i64 0] 51))
  replace Q3 := Lib.hid (((Q3.out.later ((Below.refl _ _).alloc (Nat.le_refl _) _)).later hb).later (w' := w6.alloc (.cells #[.int .i64 4, .int .i64 0] 51)) ((Below.refl _ _).alloc (Nat.le_refl _) _))
  have Q5 := Lib.hid (Cl.new w6 (.int .i64 4) (.int .i64 0) 51)
  have R3' := R3.out (w6.alloc (.cells #[.int .i64 4, .int .i64 0] 51))
  simp only [World.size_alloc] at R3'
  have HR3 := Lib.hid R3'
  obtain ⟨g3, hg3⟩ : ∃ g3, w5.heap.size = g3 := ⟨_, rfl⟩
  rw [hg3] at Q3 ⊢
  clear hb R3' hg3 HR2
  go_wp2_with fail
  refine HR3.out.mono ?_; rintro e w7 ⟨rfl, hb⟩
  replace HB := Lib.hid (bel_alloc (bel_call (bel_alloc HB.out _) hb) (.cells #[.int .i64 4, .int .i64 1] 51))
  replace Q3 := Lib.hid (((Q3.out.later ((Below.refl _ _).alloc (Nat.le_refl _) _)).later hb).later (w' := w7.alloc (.cells #[.int .i64 4, .int .i64 1] 51)) ((Below.refl _ _).alloc (Nat.le_refl _) _))
  replace Q5 := Lib.hid (((Q5.out.later ((Below.refl _ _).alloc (Nat.le_refl _) _)).later hb).later (w' := w7.alloc (.cells #[.int .i64 4, .int .i64 1] 51)) ((Below.refl _ _).alloc (Nat.le_refl _) _))
  have Q7 := Lib.hid (Cl.new w7 (.int .i64 4) (.int .i64 1) 51)
  obtain ⟨g5, hg5⟩ : ∃ g5, w6.heap.size = g5 := ⟨_, rfl⟩
  obtain ⟨g7, hg7⟩ : ∃ g7, w7.heap.size = g7 := ⟨_, rfl⟩
  obtain ⟨W, hW⟩ : ∃ W, w7.alloc (.cells #[.int .i64 4, .int .i64 1] 51) = W := ⟨_, rfl⟩
  have hW2 := Lib.hid hW
  rw [hg5] at Q5 ⊢
  rw [hW] at Q3 Q5 Q7 HB
  rw [hg7] at Q7
  obtain ⟨a0, a1⟩ := Q3.out
  obtain ⟨b0, b1⟩ := Q5.out
  obtain ⟨d0, d1⟩ := Q7.out
  clear hb hg5 HR3
  go_wp2_with fail
  refine (tell_on HB (T1.out _)).mono ?_; rintro e w8 ⟨rfl, HB⟩
  clear a0 a1 b0 b1 d0 d1 Q3 Q5 Q7
  go_wp2_with fail
  refine (tell_on HB (A1.out _)).mono ?_; rintro e w9 ⟨rfl, HB⟩
  replace hmk := hmk w9
  replace hcv := hcv w9
  go_wp2_with fail
  replace HB := Lib.hid (bel_alloc HB.out (.cells #[.int .u8 0, .int .u8 0, .int .u8 0, .int .u8 0, .int .u8 0, .int .u8 0, .int .u8 0, .int .u8 0, .int .u8 0, .int .u8 0, .int .u8 0, .int .u8 0, .int .u8 0, .int .u8 0, .int .u8 0, .int .u8 0] 5))
  refine (tell_on HB (show Calls _ _ _ _ (Tells _ (.tuple #[.int .i64 9, .bool true])) from L1.out _)).mono ?_; rintro e w10 ⟨rfl, HB⟩
  go_wp2_with fail
  refine (tell_on HB (T2.out _)).mono ?_; rintro e w11 ⟨rfl, HB⟩
  go_wp2_with fail
  refine (tell_on HB (HAW.out _)).mono ?_; rintro e w12 ⟨rfl, HB⟩
  go_wp2_with fail
  go_ret
  exact ⟨rfl, HB.out⟩
end Go.Proofs.Ytkiahaodajecfaa
