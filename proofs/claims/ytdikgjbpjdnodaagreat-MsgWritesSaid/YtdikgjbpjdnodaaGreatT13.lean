/-
  Read: what is read, the walk.
-/
import Derived.Test.YtdikgjbpjdnodaaGreatT12
import Derived.Test.YtdikgjbpjdnodaaGreatT11
import Derived.Lib.AppendZeros
namespace Go.Proofs.YtdikgjbpjdnodaaGreat
open Go.RowKit Go.Shelf
set_option linter.unusedVariables false
set_option linter.unusedSimpArgs false
set_option maxRecDepth 100000

/-- A TTL, as it is told. -/
def ttlR (l : Int) : Int := if 2147483647 < l then 0 else l

/-- What Read tells. -/
def recV (b : List UInt8) (a : Int) : Value :=
  if (s6 b a).e = 0 then .tuple #[.agg #[.string (bs (rN b a)), .int .i64 (rT b a), .int .i64 (rC b a), .int .i64 (ttlR (rL b a)), .string (bs (rD b a))], .int .i64 (s6 b a).a, .agg #[.int .i64 0, .int .i64 0]]
  else .tuple #[.agg #[.string ⟨#[]⟩, .int .i64 0, .int .i64 0, .int .i64 0, .string ⟨#[]⟩], .int .i64 0, .agg #[.int .i64 (s6 b a).e, .int .i64 (s6 b a).p]]

theorem num2_lt (x y : Int) (hx : 0 ≤ x ∧ x < 256) (hy : 0 ≤ y ∧ y < 256) : 0 ≤ num2 x y ∧ num2 x y ≤ 65535 := by unfold num2; omega

theorem vl2_lt (b : List UInt8) (s : RS) : 0 ≤ vl2 b s 0 ∧ vl2 b s 0 ≤ 65535 := by
  unfold vl2
  split
  · decide
  · unfold getF
    split
    · rename_i h
      unfold nAt2
      have hg : ∀ k, 0 ≤ (iz b).getD k 0 ∧ (iz b).getD k 0 < 256 := fun k => by
        rcases Nat.lt_or_ge k b.length with hk | hk
        · rw [iz_get b k hk]
          have : b[k].toNat < 256 := b[k].toNat_lt
          omega
        · rw [List.getD, List.getElem?_eq_none (by rw [iz_len]; exact hk)]; decide
      exact num2_lt _ _ (hg _) (hg _)
    · decide

set_option maxHeartbeats 16000000 in
theorem readC_any {w : World} {lo hi : Nat} {vb : Value} {b : List UInt8} (hS : Sl w lo hi vb (iz b)) (hhi : hi ≤ w.heap.size) (hbl : b.length ≤ 300000) (a : Int) :
    Calls Tryz.prog 129 #[vb, .int .i64 a] w (Tells w (recV b a)) := by
  have hS2 := hS
  obtain ⟨av, cv, rfl, _⟩ := hS
  have hS : Sl w lo hi (.slice av b.length cv) (iz b) := by rw [iz_len] at hS2; exact hS2
  clear hS2
  rw [iz_len]
  obtain ⟨m, hm⟩ : ∃ m, b.length = m := ⟨_, rfl⟩
  rw [hm] at hS hbl ⊢
  obtain ⟨vb, hvb⟩ : ∃ vb : Value, .slice av m cv = vb := ⟨_, rfl⟩
  have HVB := Lib.hid hvb
  rw [hvb] at hS ⊢
  clear hvb
  obtain ⟨S1, hS1⟩ : ∃ S, s1 b a = S := ⟨_, rfl⟩
  obtain ⟨S2, hS2⟩ : ∃ S, s2 b a = S := ⟨_, rfl⟩
  obtain ⟨S3, hS3⟩ : ∃ S, s3 b a = S := ⟨_, rfl⟩
  obtain ⟨S4, hS4⟩ : ∃ S, s4 b a = S := ⟨_, rfl⟩
  obtain ⟨S5, hS5⟩ : ∃ S, s5 b a = S := ⟨_, rfl⟩
  obtain ⟨S6, hS6⟩ : ∃ S, s6 b a = S := ⟨_, rfl⟩
  obtain ⟨n, hn⟩ : ∃ n, rN b a = n := ⟨_, rfl⟩
  obtain ⟨t, ht⟩ : ∃ t, rT b a = t := ⟨_, rfl⟩
  obtain ⟨c, hc⟩ : ∃ c, rC b a = c := ⟨_, rfl⟩
  obtain ⟨l, hl⟩ : ∃ l, rL b a = l := ⟨_, rfl⟩
  obtain ⟨y, hy⟩ : ∃ y, rZ b a = y := ⟨_, rfl⟩
  obtain ⟨d, hd⟩ : ∃ d, rD b a = d := ⟨_, rfl⟩
  have hwt : (Lit.int .i64 t).wf = true := by
    have h := vl2_lt b (s1 b a)
    have e : vl2 b (s1 b a) 0 = t := ht
    rw [e] at h
    exact WalkArith.wf_i64 (by omega)
  have hV : recV b a = if S6.e = 0 then .tuple #[.agg #[.string (bs n), .int .i64 t, .int .i64 c, .int .i64 (ttlR l), .string (bs d)], .int .i64 S6.a, .agg #[.int .i64 0, .int .i64 0]]
      else .tuple #[.agg #[.string ⟨#[]⟩, .int .i64 0, .int .i64 0, .int .i64 0, .string ⟨#[]⟩], .int .i64 0, .agg #[.int .i64 S6.e, .int .i64 S6.p]] := by unfold recV; rw [hS6, hn, ht, hc, hl, hd]
  rw [hV]
  obtain ⟨V, hVV⟩ : ∃ V, (if S6.e = 0 then Value.tuple #[.agg #[.string (bs n), .int .i64 t, .int .i64 c, .int .i64 (ttlR l), .string (bs d)], .int .i64 S6.a, .agg #[.int .i64 0, .int .i64 0]]
      else .tuple #[.agg #[.string ⟨#[]⟩, .int .i64 0, .int .i64 0, .int .i64 0, .string ⟨#[]⟩], .int .i64 0, .agg #[.int .i64 S6.e, .int .i64 S6.p]]) = V := ⟨_, rfl⟩
  rw [hVV]
  have HV := Lib.hid hVV
  clear hVV
  obtain ⟨wA, hA⟩ : ∃ wA, w.alloc (.cells #[.string ⟨#[]⟩, .int .i64 0, .int .i64 0, .int .i64 0, .string ⟨#[]⟩] 78) = wA := ⟨_, rfl⟩
  obtain ⟨wB, hB⟩ : ∃ wB, wA.alloc (.cells #[.int .i64 0, .int .i64 0] 43) = wB := ⟨_, rfl⟩
  obtain ⟨wC, hC⟩ : ∃ wC, wB.alloc (.cells #[.string ⟨#[]⟩, .int .i64 0, .int .i64 0, .int .i64 0, .string ⟨#[]⟩] 78) = wC := ⟨_, rfl⟩
  obtain ⟨wD, hD⟩ : ∃ wD, wC.alloc (.cells #[.int .i64 0] 3) = wD := ⟨_, rfl⟩
  obtain ⟨wE, hE⟩ : ∃ wE, wD.alloc (.cells #[vb, .int .i64 a, .int .i64 0, .int .i64 0] 148) = wE := ⟨_, rfl⟩
  have zA : wA.heap.size = w.heap.size + 1 := by rw [← hA]; simp
  have zB : wB.heap.size = w.heap.size + 2 := by rw [← hB, World.size_alloc, zA]
  have zC : wC.heap.size = w.heap.size + 3 := by rw [← hC, World.size_alloc, zB]
  have zD : wD.heap.size = w.heap.size + 4 := by rw [← hD, World.size_alloc, zC]
  have zE : wE.heap.size = w.heap.size + 5 := by rw [← hE, World.size_alloc, zD]
  have bA : Below w.heap.size w wA := by rw [← hA]; exact (Below.refl _ _).alloc (Nat.le_refl _) _
  have bB : Below wA.heap.size wA wB := by rw [← hB]; exact (Below.refl _ _).alloc (Nat.le_refl _) _
  have bC : Below wB.heap.size wB wC := by rw [← hC]; exact (Below.refl _ _).alloc (Nat.le_refl _) _
  have bD : Below wC.heap.size wC wD := by rw [← hD]; exact (Below.refl _ _).alloc (Nat.le_refl _) _
  have bE : Below wD.heap.size wD wE := by rw [← hE]; exact (Below.refl _ _).alloc (Nat.le_refl _) _
  have hb : Below w.heap.size w wE := bel_call (bel_call (bel_call (bel_call bA bB) bC) bD) bE
  have c0 : Cel wA (w.heap.size) [.string ⟨#[]⟩, .int .i64 0, .int .i64 0, .int .i64 0, .string ⟨#[]⟩] := ⟨fun j hj => by
    rw [← hA]
    match j, hj with
    | 0, _ => simp [go_sem]
    | 1, _ => simp [go_sem]
    | 2, _ => simp [go_sem]
    | 3, _ => simp [go_sem]
    | 4, _ => simp [go_sem], fun j => by rw [← hA]; simp [go_sem]⟩
  have c1 : Cel wB (w.heap.size + 1) [.int .i64 0, .int .i64 0] := ⟨fun j hj => by
    rw [← hB, ← zA]
    match j, hj with
    | 0, _ => simp [go_sem]
    | 1, _ => simp [go_sem], fun j => by rw [← hB, ← zA]; simp [go_sem]⟩
  have c2 : Cel wC (w.heap.size + 2) [.string ⟨#[]⟩, .int .i64 0, .int .i64 0, .int .i64 0, .string ⟨#[]⟩] := ⟨fun j hj => by
    rw [← hC, ← zB]
    match j, hj with
    | 0, _ => simp [go_sem]
    | 1, _ => simp [go_sem]
    | 2, _ => simp [go_sem]
    | 3, _ => simp [go_sem]
    | 4, _ => simp [go_sem], fun j => by rw [← hC, ← zB]; simp [go_sem]⟩
  have c3 : Cel wD (w.heap.size + 3) [.int .i64 0] := ⟨fun j hj => by
    rw [← hD, ← zC]
    match j, hj with
    | 0, _ => simp [go_sem], fun j => by rw [← hD, ← zC]; simp [go_sem]⟩
  have cr : Rdr wE (w.heap.size + 4) vb ⟨a, 0, 0⟩ := by
    rw [← hE, ← zD]
    exact ⟨by simp [go_sem], by simp [go_sem], by simp [go_sem], by simp [go_sem], fun j => by simp [go_sem]⟩
  have c0' := (((c0.below (by simp) bB).below (by simp) bC).below (by simp) bD).below (by simp) bE
  have c1' := ((c1.below (by simp) bC).below (by simp) bD).below (by simp) bE
  have c2' := (c2.below (by simp) bD).below (by simp) bE
  have c3' := c3.below (by simp) bE
  obtain ⟨z, hz⟩ : ∃ z, w.heap.size = z := ⟨_, rfl⟩
  have HN := Lib.hid (nameM_any (o := 0) cr c2' (by simp) (by omega) (old := []) rfl (hS.below hb hhi) (Nat.le_trans hhi hb.size) (by omega))
  have e1 : stN b ⟨a, 0, 0⟩ = S1 := hS1
  have e2 : vlN b ⟨a, 0, 0⟩ [] = n := hn
  rw [e1, e2] at HN
  have H2 := Lib.hid (fun wx (hb2 : Below w.heap.size w wx) (hr : Rdr wx (w.heap.size + 4) vb S1) (hc2 : Cel wx (w.heap.size + 2) [.string (bs n), .int .i64 0, .int .i64 0, .int .i64 0, .string ⟨#[]⟩]) => show Calls Tryz.prog 100 #[.pointer (some ⟨w.heap.size + 4, 0, none⟩), .pointer (some ⟨w.heap.size + 2, 1, none⟩)] wx (NextPost wx (w.heap.size + 4) (w.heap.size + 2) 1 vb S2 [.string (bs n), .int .i64 t, .int .i64 0, .int .i64 0, .string ⟨#[]⟩]) from by
    have h := twoM_any (o := 1) hr hc2 (by simp) (by omega) (old := 0) rfl (hS.below hb2 hhi) (Nat.le_trans hhi hb2.size) (by omega)
    have g1 : st2 b S1 = S2 := by rw [← hS2, s2, hS1]
    have g2 : vl2 b S1 0 = t := by rw [← ht, rT, hS1]
    rw [g1, g2] at h
    exact h)
  have H3 := Lib.hid (fun wx (hb2 : Below w.heap.size w wx) (hr : Rdr wx (w.heap.size + 4) vb S2) (hc2 : Cel wx (w.heap.size + 2) [.string (bs n), .int .i64 t, .int .i64 0, .int .i64 0, .string ⟨#[]⟩]) => show Calls Tryz.prog 100 #[.pointer (some ⟨w.heap.size + 4, 0, none⟩), .pointer (some ⟨w.heap.size + 2, 2, none⟩)] wx (NextPost wx (w.heap.size + 4) (w.heap.size + 2) 2 vb S3 [.string (bs n), .int .i64 t, .int .i64 c, .int .i64 0, .string ⟨#[]⟩]) from by
    have h := twoM_any (o := 2) hr hc2 (by simp) (by omega) (old := 0) rfl (hS.below hb2 hhi) (Nat.le_trans hhi hb2.size) (by omega)
    have g1 : st2 b S2 = S3 := by rw [← hS3, s3, hS2]
    have g2 : vl2 b S2 0 = c := by rw [← hc, rC, hS2]
    rw [g1, g2] at h
    exact h)
  have H4 := Lib.hid (fun wx (hb2 : Below w.heap.size w wx) (hr : Rdr wx (w.heap.size + 4) vb S3) (hc2 : Cel wx (w.heap.size + 2) [.string (bs n), .int .i64 t, .int .i64 c, .int .i64 0, .string ⟨#[]⟩]) => show Calls Tryz.prog 132 #[.pointer (some ⟨w.heap.size + 4, 0, none⟩), .pointer (some ⟨w.heap.size + 2, 3, none⟩)] wx (NextPost wx (w.heap.size + 4) (w.heap.size + 2) 3 vb S4 [.string (bs n), .int .i64 t, .int .i64 c, .int .i64 l, .string ⟨#[]⟩]) from by
    have h := fourM_any (o := 3) hr hc2 (by simp) (by omega) (old := 0) rfl (hS.below hb2 hhi) (Nat.le_trans hhi hb2.size) (by omega)
    have g1 : st4 b S3 = S4 := by rw [← hS4, s4, hS3]
    have g2 : vl4 b S3 0 = l := by rw [← hl, rL, hS3]
    rw [g1, g2] at h
    exact h)
  have H5 := Lib.hid (fun wx (hb2 : Below w.heap.size w wx) (hr : Rdr wx (w.heap.size + 4) vb S4) (hc2 : Cel wx (w.heap.size + 3) [.int .i64 0]) => show Calls Tryz.prog 100 #[.pointer (some ⟨w.heap.size + 4, 0, none⟩), .pointer (some ⟨w.heap.size + 3, 0, none⟩)] wx (NextPost wx (w.heap.size + 4) (w.heap.size + 3) 0 vb S5 [.int .i64 y]) from by
    have h := twoM_any (o := 0) hr hc2 (by simp) (by omega) (old := 0) rfl (hS.below hb2 hhi) (Nat.le_trans hhi hb2.size) (by omega)
    have g1 : st2 b S4 = S5 := by rw [← hS5, s5, hS4]
    have g2 : vl2 b S4 0 = y := by rw [← hy, rZ, hS4]
    rw [g1, g2] at h
    exact h)
  have H6 := Lib.hid (fun wx (hb2 : Below w.heap.size w wx) (hr : Rdr wx (w.heap.size + 4) vb S5) (hc2 : Cel wx (w.heap.size + 2) [.string (bs n), .int .i64 t, .int .i64 c, .int .i64 l, .string ⟨#[]⟩]) => show Calls Tryz.prog 133 #[.pointer (some ⟨w.heap.size + 4, 0, none⟩), .pointer (some ⟨w.heap.size + 2, 4, none⟩), .int .i64 y, .int .i64 t] wx (NextPost wx (w.heap.size + 4) (w.heap.size + 2) 4 vb S6 [.string (bs n), .int .i64 t, .int .i64 c, .int .i64 l, .string (bs d)]) from by
    have h := dataM_any (o := 4) hr hc2 (by simp) (by omega) (old := []) rfl (hS.below hb2 hhi) (Nat.le_trans hhi hb2.size) (by omega) y t hwt
    have g1 : stD b S5 y t = S6 := by rw [← hS6, s6, hS5, hy, ht]
    have g2 : vlD b S5 y t [] = d := by rw [← hd, rD, hS5, hy, ht]
    rw [g1, g2] at h
    exact h)
  have HK := Lib.hid (And.intro c0' c1')
  have HQ3 := Lib.hid c3'
  have HB := Lib.hid hb
  clear hS1 hS2 hS3 hS4 hS5 hS6 hn ht hc hl hy hd hV e1 e2 c0 c1 c2 c3 cr c0' c1' c2' c3' bA bB bC bD bE hb hS
  rw [hz] at HN H2 H3 H4 H5 H6 HK HQ3
  have hvb := HVB.out
  subst hvb
  go_enter Tryz.func129, Tryz.ntmps129
  go_wp2_with fail
  refine HN.out.mono ?_; rintro en w1 ⟨rfl, hr, hc, ha⟩
  have hb1 := nx_below (w0 := w) ha HB.out (by omega) (by omega)
  have HB1 := Lib.hid hb1
  have HK1 := Lib.hid (And.intro (HK.out.1.aside (by simp) ha (by omega)) (HK.out.2.aside (by simp) ha (by omega)))
  have HQ4 := Lib.hid (HQ3.out.aside (by simp) ha (by omega))
  have HX2 := Lib.hid (H2.out _ (by rw [← hz]; exact hb1) hr hc)
  clear hr hc ha hb1 HK HB HN H2 HQ3
  go_wp2_with fail
  refine HX2.out.mono ?_; rintro en w2 ⟨rfl, hr, hc, ha⟩
  have hb2 := nx_below (w0 := w) ha HB1.out (by omega) (by omega)
  have HB2 := Lib.hid hb2
  have HK2 := Lib.hid (And.intro (HK1.out.1.aside (by simp) ha (by omega)) (HK1.out.2.aside (by simp) ha (by omega)))
  have HQ5 := Lib.hid (HQ4.out.aside (by simp) ha (by omega))
  have HX3 := Lib.hid (H3.out _ (by rw [← hz]; exact hb2) hr hc)
  clear hr hc ha hb2 HK1 HB1 HX2 H3 HQ4
  go_wp2_with fail
  refine HX3.out.mono ?_; rintro en w3 ⟨rfl, hr, hc, ha⟩
  have hb3 := nx_below (w0 := w) ha HB2.out (by omega) (by omega)
  have HB3 := Lib.hid hb3
  have HK3 := Lib.hid (And.intro (HK2.out.1.aside (by simp) ha (by omega)) (HK2.out.2.aside (by simp) ha (by omega)))
  have HQ6 := Lib.hid (HQ5.out.aside (by simp) ha (by omega))
  have HX4 := Lib.hid (H4.out _ (by rw [← hz]; exact hb3) hr hc)
  clear hr hc ha hb3 HK2 HB2 HX3 H4 HQ5
  go_wp2_with fail
  refine HX4.out.mono ?_; rintro en w4 ⟨rfl, hr, hc, ha⟩
  have hb4 := nx_below (w0 := w) ha HB3.out (by omega) (by omega)
  have HB4 := Lib.hid hb4
  have HK4 := Lib.hid (And.intro (HK3.out.1.aside (by simp) ha (by omega)) (HK3.out.2.aside (by simp) ha (by omega)))
  have hq := HQ6.out.aside (by simp) ha (by omega)
  have HR4 := Lib.hid hc
  have HX5 := Lib.hid (H5.out _ (by rw [← hz]; exact hb4) hr hq)
  clear hr hc ha hb4 HK3 HB3 HX4 H5 HQ6 hq
  go_wp2_with fail
  refine HX5.out.mono ?_; rintro en w5 ⟨rfl, hr, hc, ha⟩
  have hb5 := nx_below (w0 := w) ha HB4.out (by omega) (by omega)
  have HB5 := Lib.hid hb5
  have HK5 := Lib.hid (And.intro (HK4.out.1.aside (by simp) ha (by omega)) (HK4.out.2.aside (by simp) ha (by omega)))
  have hc5 := HR4.out.aside (by simp) ha (by omega)
  have u0 : w5.cell? ⟨z + 3, 0, none⟩ = some (.int .i64 y) := hc.c 0 (by simp)
  have u1 : w5.cell? ⟨z + 2, 1, none⟩ = some (.int .i64 t) := hc5.c 1 (by simp)
  have HX6 := Lib.hid (H6.out _ (by rw [← hz]; exact hb5) hr hc5)
  clear hr hc ha hb5 HK4 HB4 HX5 H6 HR4 hc5
  go_wp2_with fail
  refine HX6.out.mono ?_; rintro en w6 ⟨rfl, hr, hc, ha⟩
  have hb6 := nx_below (w0 := w) ha HB5.out (by omega) (by omega)
  have HB6 := Lib.hid hb6
  have HK6 := Lib.hid (And.intro (HK5.out.1.aside (by simp) ha (by omega)) (HK5.out.2.aside (by simp) ha (by omega)))
  obtain ⟨a3, e3, p3⟩ := S6
  obtain ⟨r0, r1, r2, r3, rf⟩ := hr
  simp only at r1 r2 r3
  clear u0 u1
  have q0 : w6.cell? ⟨z + 2, 0, none⟩ = some (.string (bs n)) := hc.c 0 (by simp)
  have q1 : w6.cell? ⟨z + 2, 1, none⟩ = some (.int .i64 t) := hc.c 1 (by simp)
  have q2 : w6.cell? ⟨z + 2, 2, none⟩ = some (.int .i64 c) := hc.c 2 (by simp)
  have q3 : w6.cell? ⟨z + 2, 3, none⟩ = some (.int .i64 l) := hc.c 3 (by simp)
  have q4 : w6.cell? ⟨z + 2, 4, none⟩ = some (.string (bs d)) := hc.c 4 (by simp)
  have qf := hc.fz 3
  have k0 : w6.cell? ⟨z, 0, none⟩ = some (.string ⟨#[]⟩) := HK6.out.1.c 0 (by simp)
  have f0 := HK6.out.1.fz 0
  have k1 : w6.cell? ⟨z, 1, none⟩ = some (.int .i64 0) := HK6.out.1.c 1 (by simp)
  have f1 := HK6.out.1.fz 1
  have k2 : w6.cell? ⟨z, 2, none⟩ = some (.int .i64 0) := HK6.out.1.c 2 (by simp)
  have f2 := HK6.out.1.fz 2
  have k3 : w6.cell? ⟨z, 3, none⟩ = some (.int .i64 0) := HK6.out.1.c 3 (by simp)
  have f3 := HK6.out.1.fz 3
  have k4 : w6.cell? ⟨z, 4, none⟩ = some (.string ⟨#[]⟩) := HK6.out.1.c 4 (by simp)
  have f4 := HK6.out.1.fz 4
  have l0 : w6.cell? ⟨z + 1, 0, none⟩ = some (.int .i64 0) := HK6.out.2.c 0 (by simp)
  have l1 : w6.cell? ⟨z + 1, 1, none⟩ = some (.int .i64 0) := HK6.out.2.c 1 (by simp)
  have g0 := HK6.out.2.fz 0
  have g1 := HK6.out.2.fz 1
  clear ha hb6 HK5 HB5 HX6 rf
  have HC6 := Lib.hid hc
  clear hc
  by_cases h0 : e3 = 0
  · subst h0
    rw [if_pos rfl] at HV
    by_cases hbig : 2147483647 < l
    · have tl : decide ((2147483647 : Int) < l) = true := by simpa using hbig
      have et : ttlR l = 0 := if_pos hbig
      rw [et] at HV
      obtain ⟨w7, hw7⟩ : ∃ w7, w6.setCell ⟨z + 2, 3, none⟩ (.int .i64 0) = w7 := ⟨_, rfl⟩
      have ha7 : Aside (fun b => b = z + 2) w6 w7 := by rw [← hw7]; exact Aside.setCell w6 (p := ⟨z + 2, 3, none⟩) _ rfl
      have hc7 : Cel w7 (z + 2) [.string (bs n), .int .i64 t, .int .i64 c, .int .i64 0, .string (bs d)] := by rw [← hw7]; exact HC6.out.set (o := 3) (by simp) (.int .i64 0)
      have HB7 := Lib.hid (below_aside HB6.out ha7 fun b hb => ⟨Nat.lt_of_lt_of_le hb HB6.out.size, by omega⟩)
      have HK7 := Lib.hid (And.intro (HK6.out.1.aside (by simp) ha7 (by omega)) (HK6.out.2.aside (by simp) ha7 (by omega)))
      have R0 := ha7.cell_lt r0 (by simp)
      have R1 := ha7.cell_lt r1 (by simp)
      have R2 := ha7.cell_lt r2 (by simp)
      have R3 := ha7.cell_lt r3 (by simp)
      have Q0 : w7.cell? ⟨z + 2, 0, none⟩ = some (.string (bs n)) := hc7.c 0 (by simp)
      have Q1 : w7.cell? ⟨z + 2, 1, none⟩ = some (.int .i64 t) := hc7.c 1 (by simp)
      have Q2 : w7.cell? ⟨z + 2, 2, none⟩ = some (.int .i64 c) := hc7.c 2 (by simp)
      have Q3 : w7.cell? ⟨z + 2, 3, none⟩ = some (.int .i64 0) := hc7.c 3 (by simp)
      have Q4 : w7.cell? ⟨z + 2, 4, none⟩ = some (.string (bs d)) := hc7.c 4 (by simp)
      have K0 : w7.cell? ⟨z, 0, none⟩ = some (.string ⟨#[]⟩) := HK7.out.1.c 0 (by simp)
      have F0 := HK7.out.1.fz 0
      have K1 : w7.cell? ⟨z, 1, none⟩ = some (.int .i64 0) := HK7.out.1.c 1 (by simp)
      have F1 := HK7.out.1.fz 1
      have K2 : w7.cell? ⟨z, 2, none⟩ = some (.int .i64 0) := HK7.out.1.c 2 (by simp)
      have F2 := HK7.out.1.fz 2
      have K3 : w7.cell? ⟨z, 3, none⟩ = some (.int .i64 0) := HK7.out.1.c 3 (by simp)
      have F3 := HK7.out.1.fz 3
      have K4 : w7.cell? ⟨z, 4, none⟩ = some (.string ⟨#[]⟩) := HK7.out.1.c 4 (by simp)
      have F4 := HK7.out.1.fz 4
      have L0 : w7.cell? ⟨z + 1, 0, none⟩ = some (.int .i64 0) := HK7.out.2.c 0 (by simp)
      have L1 : w7.cell? ⟨z + 1, 1, none⟩ = some (.int .i64 0) := HK7.out.2.c 1 (by simp)
      have G0 := HK7.out.2.fz 0
      have G1 := HK7.out.2.fz 1
      clear ha7 hc7 et
      go_wp2_with fail
      go_region
      have W1 := (((((((HK7.out.1.set (o := 0) (by simp) (Value.string (bs n))).set (o := 1) (by simp) (Value.int .i64 t)).set (o := 2) (by simp) (Value.int .i64 c)).set (o := 3) (by simp) (Value.int .i64 0)).set (o := 4) (by simp) (Value.string (bs d))).other (a := ⟨z + 1, 0, none⟩) (by simp) (Value.int .i64 0)).other (a := ⟨z + 1, 1, none⟩) (by simp) (Value.int .i64 0))
      have W2 := (((((((HK7.out.2.other (a := ⟨z, 0, none⟩) (by simp) (Value.string (bs n))).other (a := ⟨z, 1, none⟩) (by simp) (Value.int .i64 t)).other (a := ⟨z, 2, none⟩) (by simp) (Value.int .i64 c)).other (a := ⟨z, 3, none⟩) (by simp) (Value.int .i64 0)).other (a := ⟨z, 4, none⟩) (by simp) (Value.string (bs d))).set (o := 0) (by simp) (Value.int .i64 0)).set (o := 1) (by simp) (Value.int .i64 0))
      have x0 : (((((((w7.setCell ⟨z, 0, none⟩ (Value.string (bs n))).setCell ⟨z, 1, none⟩ (Value.int .i64 t)).setCell ⟨z, 2, none⟩ (Value.int .i64 c)).setCell ⟨z, 3, none⟩ (Value.int .i64 0)).setCell ⟨z, 4, none⟩ (Value.string (bs d))).setCell ⟨z + 1, 0, none⟩ (Value.int .i64 0)).setCell ⟨z + 1, 1, none⟩ (Value.int .i64 0)).cell? ⟨z, 0, none⟩ = some (Value.string (bs n)) := W1.c 0 (by simp)
      have x1 : (((((((w7.setCell ⟨z, 0, none⟩ (Value.string (bs n))).setCell ⟨z, 1, none⟩ (Value.int .i64 t)).setCell ⟨z, 2, none⟩ (Value.int .i64 c)).setCell ⟨z, 3, none⟩ (Value.int .i64 0)).setCell ⟨z, 4, none⟩ (Value.string (bs d))).setCell ⟨z + 1, 0, none⟩ (Value.int .i64 0)).setCell ⟨z + 1, 1, none⟩ (Value.int .i64 0)).cell? ⟨z, 1, none⟩ = some (Value.int .i64 t) := W1.c 1 (by simp)
      have x2 : (((((((w7.setCell ⟨z, 0, none⟩ (Value.string (bs n))).setCell ⟨z, 1, none⟩ (Value.int .i64 t)).setCell ⟨z, 2, none⟩ (Value.int .i64 c)).setCell ⟨z, 3, none⟩ (Value.int .i64 0)).setCell ⟨z, 4, none⟩ (Value.string (bs d))).setCell ⟨z + 1, 0, none⟩ (Value.int .i64 0)).setCell ⟨z + 1, 1, none⟩ (Value.int .i64 0)).cell? ⟨z, 2, none⟩ = some (Value.int .i64 c) := W1.c 2 (by simp)
      have x3 : (((((((w7.setCell ⟨z, 0, none⟩ (Value.string (bs n))).setCell ⟨z, 1, none⟩ (Value.int .i64 t)).setCell ⟨z, 2, none⟩ (Value.int .i64 c)).setCell ⟨z, 3, none⟩ (Value.int .i64 0)).setCell ⟨z, 4, none⟩ (Value.string (bs d))).setCell ⟨z + 1, 0, none⟩ (Value.int .i64 0)).setCell ⟨z + 1, 1, none⟩ (Value.int .i64 0)).cell? ⟨z, 3, none⟩ = some (Value.int .i64 0) := W1.c 3 (by simp)
      have x4 : (((((((w7.setCell ⟨z, 0, none⟩ (Value.string (bs n))).setCell ⟨z, 1, none⟩ (Value.int .i64 t)).setCell ⟨z, 2, none⟩ (Value.int .i64 c)).setCell ⟨z, 3, none⟩ (Value.int .i64 0)).setCell ⟨z, 4, none⟩ (Value.string (bs d))).setCell ⟨z + 1, 0, none⟩ (Value.int .i64 0)).setCell ⟨z + 1, 1, none⟩ (Value.int .i64 0)).cell? ⟨z, 4, none⟩ = some (Value.string (bs d)) := W1.c 4 (by simp)
      have y0 : (((((((w7.setCell ⟨z, 0, none⟩ (Value.string (bs n))).setCell ⟨z, 1, none⟩ (Value.int .i64 t)).setCell ⟨z, 2, none⟩ (Value.int .i64 c)).setCell ⟨z, 3, none⟩ (Value.int .i64 0)).setCell ⟨z, 4, none⟩ (Value.string (bs d))).setCell ⟨z + 1, 0, none⟩ (Value.int .i64 0)).setCell ⟨z + 1, 1, none⟩ (Value.int .i64 0)).cell? ⟨z + 1, 0, none⟩ = some (Value.int .i64 0) := W2.c 0 (by simp)
      have y1 : (((((((w7.setCell ⟨z, 0, none⟩ (Value.string (bs n))).setCell ⟨z, 1, none⟩ (Value.int .i64 t)).setCell ⟨z, 2, none⟩ (Value.int .i64 c)).setCell ⟨z, 3, none⟩ (Value.int .i64 0)).setCell ⟨z, 4, none⟩ (Value.string (bs d))).setCell ⟨z + 1, 0, none⟩ (Value.int .i64 0)).setCell ⟨z + 1, 1, none⟩ (Value.int .i64 0)).cell? ⟨z + 1, 1, none⟩ = some (Value.int .i64 0) := W2.c 1 (by simp)
      have hle : w.heap.size ≤ z := by omega
      have hle1 : w.heap.size ≤ z + 1 := by omega
      have HF := Lib.hid (((((((HB7.out.setCell (p := ⟨z, 0, none⟩) hle (Value.string (bs n))).setCell (p := ⟨z, 1, none⟩) hle (Value.int .i64 t)).setCell (p := ⟨z, 2, none⟩) hle (Value.int .i64 c)).setCell (p := ⟨z, 3, none⟩) hle (Value.int .i64 0)).setCell (p := ⟨z, 4, none⟩) hle (Value.string (bs d))).setCell (p := ⟨z + 1, 0, none⟩) hle1 (Value.int .i64 0)).setCell (p := ⟨z + 1, 1, none⟩) hle1 (Value.int .i64 0)).drew
      clear W1 W2 hle hle1
      go_wp2_with fail
      exact bodyPost_ret (by simp [results, Tryz.results129, go_sem, x0, x1, x2, x3, x4, y0, y1]; rfl) rfl ⟨by rw [← HV.out], HF.out⟩

    · have tl : decide ((2147483647 : Int) < l) = false := by simpa using hbig
      have et : ttlR l = l := if_neg hbig
      rw [et] at HV
      clear et
      go_wp2_with fail
      go_region
      have W1 := (((((((HK6.out.1.set (o := 0) (by simp) (Value.string (bs n))).set (o := 1) (by simp) (Value.int .i64 t)).set (o := 2) (by simp) (Value.int .i64 c)).set (o := 3) (by simp) (Value.int .i64 l)).set (o := 4) (by simp) (Value.string (bs d))).other (a := ⟨z + 1, 0, none⟩) (by simp) (Value.int .i64 0)).other (a := ⟨z + 1, 1, none⟩) (by simp) (Value.int .i64 0))
      have W2 := (((((((HK6.out.2.other (a := ⟨z, 0, none⟩) (by simp) (Value.string (bs n))).other (a := ⟨z, 1, none⟩) (by simp) (Value.int .i64 t)).other (a := ⟨z, 2, none⟩) (by simp) (Value.int .i64 c)).other (a := ⟨z, 3, none⟩) (by simp) (Value.int .i64 l)).other (a := ⟨z, 4, none⟩) (by simp) (Value.string (bs d))).set (o := 0) (by simp) (Value.int .i64 0)).set (o := 1) (by simp) (Value.int .i64 0))
      have x0 : (((((((w6.setCell ⟨z, 0, none⟩ (Value.string (bs n))).setCell ⟨z, 1, none⟩ (Value.int .i64 t)).setCell ⟨z, 2, none⟩ (Value.int .i64 c)).setCell ⟨z, 3, none⟩ (Value.int .i64 l)).setCell ⟨z, 4, none⟩ (Value.string (bs d))).setCell ⟨z + 1, 0, none⟩ (Value.int .i64 0)).setCell ⟨z + 1, 1, none⟩ (Value.int .i64 0)).cell? ⟨z, 0, none⟩ = some (Value.string (bs n)) := W1.c 0 (by simp)
      have x1 : (((((((w6.setCell ⟨z, 0, none⟩ (Value.string (bs n))).setCell ⟨z, 1, none⟩ (Value.int .i64 t)).setCell ⟨z, 2, none⟩ (Value.int .i64 c)).setCell ⟨z, 3, none⟩ (Value.int .i64 l)).setCell ⟨z, 4, none⟩ (Value.string (bs d))).setCell ⟨z + 1, 0, none⟩ (Value.int .i64 0)).setCell ⟨z + 1, 1, none⟩ (Value.int .i64 0)).cell? ⟨z, 1, none⟩ = some (Value.int .i64 t) := W1.c 1 (by simp)
      have x2 : (((((((w6.setCell ⟨z, 0, none⟩ (Value.string (bs n))).setCell ⟨z, 1, none⟩ (Value.int .i64 t)).setCell ⟨z, 2, none⟩ (Value.int .i64 c)).setCell ⟨z, 3, none⟩ (Value.int .i64 l)).setCell ⟨z, 4, none⟩ (Value.string (bs d))).setCell ⟨z + 1, 0, none⟩ (Value.int .i64 0)).setCell ⟨z + 1, 1, none⟩ (Value.int .i64 0)).cell? ⟨z, 2, none⟩ = some (Value.int .i64 c) := W1.c 2 (by simp)
      have x3 : (((((((w6.setCell ⟨z, 0, none⟩ (Value.string (bs n))).setCell ⟨z, 1, none⟩ (Value.int .i64 t)).setCell ⟨z, 2, none⟩ (Value.int .i64 c)).setCell ⟨z, 3, none⟩ (Value.int .i64 l)).setCell ⟨z, 4, none⟩ (Value.string (bs d))).setCell ⟨z + 1, 0, none⟩ (Value.int .i64 0)).setCell ⟨z + 1, 1, none⟩ (Value.int .i64 0)).cell? ⟨z, 3, none⟩ = some (Value.int .i64 l) := W1.c 3 (by simp)
      have x4 : (((((((w6.setCell ⟨z, 0, none⟩ (Value.string (bs n))).setCell ⟨z, 1, none⟩ (Value.int .i64 t)).setCell ⟨z, 2, none⟩ (Value.int .i64 c)).setCell ⟨z, 3, none⟩ (Value.int .i64 l)).setCell ⟨z, 4, none⟩ (Value.string (bs d))).setCell ⟨z + 1, 0, none⟩ (Value.int .i64 0)).setCell ⟨z + 1, 1, none⟩ (Value.int .i64 0)).cell? ⟨z, 4, none⟩ = some (Value.string (bs d)) := W1.c 4 (by simp)
      have y0 : (((((((w6.setCell ⟨z, 0, none⟩ (Value.string (bs n))).setCell ⟨z, 1, none⟩ (Value.int .i64 t)).setCell ⟨z, 2, none⟩ (Value.int .i64 c)).setCell ⟨z, 3, none⟩ (Value.int .i64 l)).setCell ⟨z, 4, none⟩ (Value.string (bs d))).setCell ⟨z + 1, 0, none⟩ (Value.int .i64 0)).setCell ⟨z + 1, 1, none⟩ (Value.int .i64 0)).cell? ⟨z + 1, 0, none⟩ = some (Value.int .i64 0) := W2.c 0 (by simp)
      have y1 : (((((((w6.setCell ⟨z, 0, none⟩ (Value.string (bs n))).setCell ⟨z, 1, none⟩ (Value.int .i64 t)).setCell ⟨z, 2, none⟩ (Value.int .i64 c)).setCell ⟨z, 3, none⟩ (Value.int .i64 l)).setCell ⟨z, 4, none⟩ (Value.string (bs d))).setCell ⟨z + 1, 0, none⟩ (Value.int .i64 0)).setCell ⟨z + 1, 1, none⟩ (Value.int .i64 0)).cell? ⟨z + 1, 1, none⟩ = some (Value.int .i64 0) := W2.c 1 (by simp)
      have hle : w.heap.size ≤ z := by omega
      have hle1 : w.heap.size ≤ z + 1 := by omega
      have HF := Lib.hid (((((((HB6.out.setCell (p := ⟨z, 0, none⟩) hle (Value.string (bs n))).setCell (p := ⟨z, 1, none⟩) hle (Value.int .i64 t)).setCell (p := ⟨z, 2, none⟩) hle (Value.int .i64 c)).setCell (p := ⟨z, 3, none⟩) hle (Value.int .i64 l)).setCell (p := ⟨z, 4, none⟩) hle (Value.string (bs d))).setCell (p := ⟨z + 1, 0, none⟩) hle1 (Value.int .i64 0)).setCell (p := ⟨z + 1, 1, none⟩) hle1 (Value.int .i64 0)).drew
      clear W1 W2 hle hle1
      go_wp2_with fail
      exact bodyPost_ret (by simp [results, Tryz.results129, go_sem, x0, x1, x2, x3, x4, y0, y1]; rfl) rfl ⟨by rw [← HV.out], HF.out⟩

  · have tE : (e3 != 0) = true := by simpa using h0
    rw [if_neg h0] at HV
    go_wp2_with fail
    go_region
    have W1 := (((((((HK6.out.1.set (o := 0) (by simp) (Value.string ⟨#[]⟩)).set (o := 1) (by simp) (Value.int .i64 0)).set (o := 2) (by simp) (Value.int .i64 0)).set (o := 3) (by simp) (Value.int .i64 0)).set (o := 4) (by simp) (Value.string ⟨#[]⟩)).other (a := ⟨z + 1, 0, none⟩) (by simp) (Value.int .i64 e3)).other (a := ⟨z + 1, 1, none⟩) (by simp) (Value.int .i64 p3))
    have W2 := (((((((HK6.out.2.other (a := ⟨z, 0, none⟩) (by simp) (Value.string ⟨#[]⟩)).other (a := ⟨z, 1, none⟩) (by simp) (Value.int .i64 0)).other (a := ⟨z, 2, none⟩) (by simp) (Value.int .i64 0)).other (a := ⟨z, 3, none⟩) (by simp) (Value.int .i64 0)).other (a := ⟨z, 4, none⟩) (by simp) (Value.string ⟨#[]⟩)).set (o := 0) (by simp) (Value.int .i64 e3)).set (o := 1) (by simp) (Value.int .i64 p3))
    have x0 : (((((((w6.setCell ⟨z, 0, none⟩ (Value.string ⟨#[]⟩)).setCell ⟨z, 1, none⟩ (Value.int .i64 0)).setCell ⟨z, 2, none⟩ (Value.int .i64 0)).setCell ⟨z, 3, none⟩ (Value.int .i64 0)).setCell ⟨z, 4, none⟩ (Value.string ⟨#[]⟩)).setCell ⟨z + 1, 0, none⟩ (Value.int .i64 e3)).setCell ⟨z + 1, 1, none⟩ (Value.int .i64 p3)).cell? ⟨z, 0, none⟩ = some (Value.string ⟨#[]⟩) := W1.c 0 (by simp)
    have x1 : (((((((w6.setCell ⟨z, 0, none⟩ (Value.string ⟨#[]⟩)).setCell ⟨z, 1, none⟩ (Value.int .i64 0)).setCell ⟨z, 2, none⟩ (Value.int .i64 0)).setCell ⟨z, 3, none⟩ (Value.int .i64 0)).setCell ⟨z, 4, none⟩ (Value.string ⟨#[]⟩)).setCell ⟨z + 1, 0, none⟩ (Value.int .i64 e3)).setCell ⟨z + 1, 1, none⟩ (Value.int .i64 p3)).cell? ⟨z, 1, none⟩ = some (Value.int .i64 0) := W1.c 1 (by simp)
    have x2 : (((((((w6.setCell ⟨z, 0, none⟩ (Value.string ⟨#[]⟩)).setCell ⟨z, 1, none⟩ (Value.int .i64 0)).setCell ⟨z, 2, none⟩ (Value.int .i64 0)).setCell ⟨z, 3, none⟩ (Value.int .i64 0)).setCell ⟨z, 4, none⟩ (Value.string ⟨#[]⟩)).setCell ⟨z + 1, 0, none⟩ (Value.int .i64 e3)).setCell ⟨z + 1, 1, none⟩ (Value.int .i64 p3)).cell? ⟨z, 2, none⟩ = some (Value.int .i64 0) := W1.c 2 (by simp)
    have x3 : (((((((w6.setCell ⟨z, 0, none⟩ (Value.string ⟨#[]⟩)).setCell ⟨z, 1, none⟩ (Value.int .i64 0)).setCell ⟨z, 2, none⟩ (Value.int .i64 0)).setCell ⟨z, 3, none⟩ (Value.int .i64 0)).setCell ⟨z, 4, none⟩ (Value.string ⟨#[]⟩)).setCell ⟨z + 1, 0, none⟩ (Value.int .i64 e3)).setCell ⟨z + 1, 1, none⟩ (Value.int .i64 p3)).cell? ⟨z, 3, none⟩ = some (Value.int .i64 0) := W1.c 3 (by simp)
    have x4 : (((((((w6.setCell ⟨z, 0, none⟩ (Value.string ⟨#[]⟩)).setCell ⟨z, 1, none⟩ (Value.int .i64 0)).setCell ⟨z, 2, none⟩ (Value.int .i64 0)).setCell ⟨z, 3, none⟩ (Value.int .i64 0)).setCell ⟨z, 4, none⟩ (Value.string ⟨#[]⟩)).setCell ⟨z + 1, 0, none⟩ (Value.int .i64 e3)).setCell ⟨z + 1, 1, none⟩ (Value.int .i64 p3)).cell? ⟨z, 4, none⟩ = some (Value.string ⟨#[]⟩) := W1.c 4 (by simp)
    have y0 : (((((((w6.setCell ⟨z, 0, none⟩ (Value.string ⟨#[]⟩)).setCell ⟨z, 1, none⟩ (Value.int .i64 0)).setCell ⟨z, 2, none⟩ (Value.int .i64 0)).setCell ⟨z, 3, none⟩ (Value.int .i64 0)).setCell ⟨z, 4, none⟩ (Value.string ⟨#[]⟩)).setCell ⟨z + 1, 0, none⟩ (Value.int .i64 e3)).setCell ⟨z + 1, 1, none⟩ (Value.int .i64 p3)).cell? ⟨z + 1, 0, none⟩ = some (Value.int .i64 e3) := W2.c 0 (by simp)
    have y1 : (((((((w6.setCell ⟨z, 0, none⟩ (Value.string ⟨#[]⟩)).setCell ⟨z, 1, none⟩ (Value.int .i64 0)).setCell ⟨z, 2, none⟩ (Value.int .i64 0)).setCell ⟨z, 3, none⟩ (Value.int .i64 0)).setCell ⟨z, 4, none⟩ (Value.string ⟨#[]⟩)).setCell ⟨z + 1, 0, none⟩ (Value.int .i64 e3)).setCell ⟨z + 1, 1, none⟩ (Value.int .i64 p3)).cell? ⟨z + 1, 1, none⟩ = some (Value.int .i64 p3) := W2.c 1 (by simp)
    have hle : w.heap.size ≤ z := by omega
    have hle1 : w.heap.size ≤ z + 1 := by omega
    have HF := Lib.hid (((((((HB6.out.setCell (p := ⟨z, 0, none⟩) hle (Value.string ⟨#[]⟩)).setCell (p := ⟨z, 1, none⟩) hle (Value.int .i64 0)).setCell (p := ⟨z, 2, none⟩) hle (Value.int .i64 0)).setCell (p := ⟨z, 3, none⟩) hle (Value.int .i64 0)).setCell (p := ⟨z, 4, none⟩) hle (Value.string ⟨#[]⟩)).setCell (p := ⟨z + 1, 0, none⟩) hle1 (Value.int .i64 e3)).setCell (p := ⟨z + 1, 1, none⟩) hle1 (Value.int .i64 p3)).drew
    clear W1 W2 hle hle1
    go_wp2_with fail
    exact bodyPost_ret (by simp [results, Tryz.results129, go_sem, x0, x1, x2, x3, x4, y0, y1]; rfl) rfl ⟨by rw [← HV.out], HF.out⟩
end Go.Proofs.YtdikgjbpjdnodaaGreat

/-
  slices.Concat of rows of bytes.
-/
namespace Go.Proofs.YtdikgjbpjdnodaaGreat
open Go.RowKit Go.Shelf
set_option linter.unusedVariables false
set_option linter.unusedSimpArgs false
set_option maxRecDepth 100000

/-- Grow of nothing: a row of the call's own, empty. -/
theorem grow_any (w : World) (n : Nat) (hn : n ≤ 1000000) :
    Calls Tryz.prog 115 #[.slice none 0 0, .int .i64 n] w fun e w' => ∃ a c, e = .returned (.slice a 0 c) ∧ OwnB w' w.heap.size (.slice a 0 c) [] ∧ Below w.heap.size w w' := by
  by_cases h0 : n = 0
  · subst h0
    go_enter Tryz.func115, Tryz.ntmps115
    go_wp2_with fail
    go_ret
    exact ⟨none, 0, rfl, OwnB.nil _ _, Below.refl _ _⟩
  · have t1 : ¬ ((n : Int) < 0) := by omega
    have t2 : (0 : Int) < n := by omega
    have e1 : wrap64 ((n : Int) - 0) = n := by rw [IntWalk.wrap64_in _ ⟨by omega, by omega⟩]; omega
    obtain ⟨i, hi, hz0, hz1, hz2⟩ := info_parts Tryz.info5
    have hr := Lib.run_append_nil_zeros (P := Tryz.prog) w 28 3 28 5 i _ .i64 .i64 Tryz.underlying28 Tryz.underlying3 hi hz0 n (by omega) (by omega) (by omega) (by rw [hz2]; omega)
    have hge := grownCap_ge w n 0 5
    obtain ⟨cap, hcap⟩ : ∃ cap, grownCap w n 0 5 = cap := ⟨_, rfl⟩
    have hml := grownCap_le_maxLen w n 0 5 (by unfold maxLen; omega)
    rw [hcap] at hr hge hml
    have hrow : (Builtin.zeroCells (Value.int .u8 0).cells n ++ Builtin.zeroCells (Value.int .u8 0).cells (cap - n)) = (rowB [] cap).toArray := by
      rw [zeroCells_one _ rfl, zeroCells_one _ rfl]
      unfold rowB
      simp [ub]
      congr 1; omega
    rw [hrow] at hr
    have HR := Lib.hid hr
    have HO : Hid (OwnB (w.drew.alloc (.cells (rowB [] cap).toArray 5)) w.heap.size (.slice (some ⟨w.heap.size, 0, none⟩) 0 cap) []) :=
      .inr ⟨w.heap.size, cap, (0, 0), rfl, Nat.le_refl _, Nat.zero_le _, hml, .inl rfl, heap_alloc_new w.drew _⟩
    clear hr hrow hcap hi hz0 hz1 hz2
    go_enter Tryz.func115, Tryz.ntmps115
    go_wp2_with (at_builtin; refine wpList_append_run (.tmp 20) (.tmp 21) 28 3 rfl rfl rfl rfl HR.out ?_)
    go_ret
    exact ⟨_, _, rfl, HO.out, (Below.refl _ w).drew.alloc (Nat.le_refl _) _⟩

theorem flat_take {ls : List (List UInt8)} {k : Nat} (h : k < ls.length) : (ls.take (k + 1)).flatten = (ls.take k).flatten ++ ls[k] := by
  rw [List.take_succ_eq_append_getElem h, List.flatten_append]
  simp
theorem flat_le (ls : List (List UInt8)) (k : Nat) : (ls.take k).flatten.length ≤ ls.flatten.length := by
  conv => rhs; rw [← List.take_append_drop k ls, List.flatten_append, List.length_append]
  omega

set_option maxHeartbeats 4000000 in
/-- Concat: the rows' bytes, one behind the other, in a row of the call's own. -/
theorem concat_any {w : World} {g lo hi n c0 : Nat} {ls : List (List UInt8)} (hn : ls.length = n) (hn6 : n ≤ 1000) (hg : g < w.heap.size) (hhi : hi ≤ w.heap.size) (hb : ls.flatten.length ≤ 900000)
    (hc : ∀ j (h : j < ls.length), ∃ a c, w.cell? ⟨g, j, none⟩ = some (.slice a ls[j].length c) ∧ Sl w lo hi (.slice a ls[j].length c) (iz ls[j])) :
    Calls Tryz.prog 104 #[.slice (some ⟨g, 0, none⟩) n c0] w fun e w' => ∃ v, e = .returned v ∧ OwnB w' w.heap.size v ls.flatten ∧ Below w.heap.size w w' := by
  have HC := Lib.hid hc
  have HN := Lib.hid hn
  obtain ⟨N, hN⟩ : ∃ N, ls.flatten.length = N := ⟨_, rfl⟩
  have HNN := Lib.hid hN
  rw [hN] at hb
  have HG := Lib.hid (fun wx => grow_any wx N (by omega))
  clear hc hN hn
  go_enter Tryz.func104, Tryz.ntmps104
  go_wp2_with fail
  go_loopg [3, 11] n (fun k v3 v11 wr => ∃ j z : Nat, j + k = n ∧ v11 = .int .i64 j ∧ v3 = .int .i64 z ∧ z ≤ N ∧ Hid ((ls.take j).flatten.length = z) ∧ w = wr)
  case atStart => exact ⟨0, 0, by omega, rfl, rfl, by omega, rfl, rfl⟩
  case round =>
    obtain ⟨j, z, hj, rfl, rfl, hz, HZ, rfl⟩ := hrel
    by_cases hlt : j < n
    · have hlt2 : j < ls.length := by have := HN.out; omega
      obtain ⟨a, c, c1, _⟩ := HC.out j hlt2
      have HZ2 := Lib.hid (show (ls.take (j + 1)).flatten.length = z + ls[j].length by rw [flat_take hlt2, List.length_append, HZ.out])
      have hle : z + ls[j].length ≤ N := by rw [← HZ2.out, ← HNN.out]; exact flat_le ls (j + 1)
      obtain ⟨m, hm⟩ : ∃ m, ls[j].length = m := ⟨_, rfl⟩
      rw [hm] at c1 hle HZ2
      clear hm
      go_wp2_with fail
      go_roundg (n - (j + 1))
      case measure => omega
      case rel => exact ⟨j + 1, z + m, by omega, by go_num, by go_num, hle, HZ2, rfl⟩
    · have hje : j = n := by omega
      subst hje
      have hzN : z = N := by rw [← HZ.out, ← HNN.out, List.take_of_length_le (by have := HN.out; omega)]
      subst hzN
      clear HZ
      go_wp2_with fail
      refine (HG.out _).mono ?_; rintro e w1 ⟨a6, c6, rfl, ho, hb1⟩
      have HO := Lib.hid ho
      have HB := Lib.hid hb1
      clear ho hb1
      go_wp2_with fail
      go_loopg [6, 27] j (fun k v6 v27 wr => ∃ (i : Nat) (acc : List UInt8) (a : Option Addr) (c : Nat), i + k = j ∧ v27 = .int .i64 i ∧ v6 = .slice a acc.length c ∧ Hid ((ls.take i).flatten = acc) ∧ Hid (OwnB wr w.heap.size (.slice a acc.length c) acc) ∧ Hid (Below w.heap.size w wr))
      case atStart => exact ⟨0, [], a6, c6, by omega, rfl, rfl, rfl, HO, HB⟩
      case round =>
        clear HO HB
        obtain ⟨i, acc, a, c, hi2, rfl, rfl, HA, HO, HB⟩ := hrel
        by_cases hlt : i < j
        · have hlt2 : i < ls.length := by have := HN.out; omega
          obtain ⟨ax, cx, c1, hs⟩ := HC.out i hlt2
          have hs2 := hs.below HB.out hhi
          have c2 := HB.out.cell (p := ⟨g, i, none⟩) hg
          rw [c1] at c2
          have HA2 := Lib.hid (show (ls.take (i + 1)).flatten = acc ++ ls[i] by rw [flat_take hlt2, HA.out])
          have hle : acc.length + ls[i].length ≤ 900000 := by
            have h1 := flat_le ls (i + 1)
            rw [HA2.out, List.length_append, HNN.out] at h1
            omega
          obtain ⟨a', c', w', hr, ho, ha⟩ := run_appBs w.heap.size _ _ acc ls[i] HO.out hs2 (by omega) HB.out.size
          have hlt3 := HO.out.lt
          have HB2 := Lib.hid (below_aside HB.out ha fun b hb => ⟨Nat.lt_of_lt_of_le hb HB.out.size, fun hg2 => by have := (hlt3 b hg2).1; omega⟩)
          have hL : (acc ++ ls[i]).length = acc.length + ls[i].length := List.length_append
          obtain ⟨x, hx⟩ : ∃ x, ls[i] = x := ⟨_, rfl⟩
          rw [hx] at hr ho c2 hs2 HA2 hL
          obtain ⟨m, hm⟩ : ∃ m, x.length = m := ⟨_, rfl⟩
          obtain ⟨y, hy⟩ : ∃ y, acc.length = y := ⟨_, rfl⟩
          rw [hm] at c2
          rw [hm, hy] at hr ho
          have HLN := Lib.hid hL
          have HR := Lib.hid hr
          have HOn := Lib.hid ho
          have HM := Lib.hid hm
          have HY := Lib.hid hy
          rw [hy]
          clear hr ho ha hs hs2 hx hL hm hy hle c1
          go_wp2_with (at_builtin; refine wpList_append_run (.tmp 31) (.tmp 32) 28 28 rfl rfl rfl rfl HR.out ?_)
          go_roundg (j - (i + 1))
          case measure => omega
          case rel => exact ⟨i + 1, acc ++ x, a', c', by omega, by go_num, by rw [HLN.out, HM.out, HY.out], HA2, by rw [HLN.out, HM.out, HY.out]; exact HOn, HB2⟩
        · have hie : i = j := by omega
          subst hie
          have hE : acc = ls.flatten := by rw [← HA.out, List.take_of_length_le (by have := HN.out; omega)]
          have HE := Lib.hid hE
          clear hE
          go_wp2_with fail
          go_ret
          exact ⟨_, rfl, HE.out ▸ HO.out, HB.out⟩
end Go.Proofs.YtdikgjbpjdnodaaGreat

/-
  Write: plainly; what it asks of the packer.
-/
namespace Go.Proofs.YtdikgjbpjdnodaaGreat
open Go.RowKit Go.Shelf
set_option linter.unusedVariables false
set_option linter.unusedSimpArgs false
set_option maxRecDepth 100000

/-- Tails, and where the last name ended; what was told. -/
abbrev KK := List (List UInt8 × Nat)
structure WR where
  out : List UInt8
  code : Int
  K : KK
  e : Nat

/-- The pieces' bytes, one behind the other. -/
def wrL (a : Int) : List Pc → KK → Nat → List UInt8 → WR
  | [], K, e, acc => ⟨acc, 0, K, e⟩
  | x :: L, K, e, acc =>
    if x.2 = true then
      (if pkE e (wrap64 (a + acc.length)) x.1 ≠ 0 then ⟨[], pkE e (wrap64 (a + acc.length)) x.1, K, e⟩
       else wrL a L (nameK K e (wrap64 (a + acc.length)) x.1) (nameE K e (wrap64 (a + acc.length)) x.1) (acc ++ nameB K e (wrap64 (a + acc.length)) x.1))
    else wrL a L K e (acc ++ x.1)

def wrR (a t : Int) (d : List UInt8) (K : KK) (e : Nat) : WR := match spl t d with | .ok L => wrL a L K e [] | .bad c _ => ⟨[], c, K, e⟩

theorem nameB_len {K : KK} {e : Nat} {a : Int} {n : List UInt8} (hG : GoodK K) : (nameB K e a n).length ≤ 255 ∧ (pkE e a n = 0 → (nameB K e a n).length ≤ n.length) := by
  unfold nameB
  by_cases h : pkE e a n = 0
  · rw [if_pos h]
    have hc : chk n = 0 := by
      unfold pkE at h
      split at h
      · rename_i h1; exact absurd h h1
      · rename_i h1; simpa using h1
    obtain ⟨hs, hn⟩ := shorts_of hc
    have hl := told_le hG hs
    have e1 : nm (labs n) = n := hn.symm
    rw [e1] at hl
    have := (chk_pos hc).2
    exact ⟨by omega, fun _ => hl⟩
  · rw [if_neg h]
    exact ⟨by simp, fun h' => absurd h' h⟩

theorem pkE_chk {e : Nat} {a : Int} {n : List UInt8} (h : pkE e a n = 0) : chk n = 0 ∧ 0 ≤ a ∧ a ≤ 65535 ∧ (e : Int) ≤ a := by
  unfold pkE at h
  split at h
  · rename_i h1; exact absurd h h1
  · rename_i h1
    split at h
    · exact absurd h (by decide)
    · split at h
      · exact absurd h (by decide)
      · exact ⟨by simpa using h1, by omega, by omega, by omega⟩

theorem nameK_good {K : KK} {e : Nat} {a : Int} {n : List UInt8} (hG : GoodK K) : GoodK (nameK K e a n) ∧ (nameK K e a n).length ≤ K.length + 127 ∧ nameE K e a n ≤ max e 65790 := by
  unfold nameK nameE
  by_cases h : pkE e a n = 0
  · rw [if_pos h, if_pos h]
    obtain ⟨hc, h0, h1, h2⟩ := pkE_chk h
    obtain ⟨hs, hn⟩ := shorts_of hc
    have hh := hdn_le K (labs n)
    have hb := (nameB_len (e := e) (a := a) (n := n) hG).1
    unfold nameB at hb
    rw [if_pos h] at hb
    refine ⟨good_fr hG hs _ hh, ?_, by omega⟩
    rw [List.length_append]
    have h3 := fr_len (labs n) a.toNat (hdn K (labs n))
    have h4 := len_wire2 hs.1
    have h5 := hs.2
    omega
  · rw [if_neg h, if_neg h]
    exact ⟨hG, by omega, by omega⟩

theorem chk_nil : chk [] = 4 := by unfold chk; rw [show left [] = [] from by rw [left]]; simp

theorem pmade_any {w : World} {p bm e : Nat} {K : KK} (h : Pk w p bm K e) (hG : GoodK K) (hK : K.length ≤ 900000) (he : e ≤ 1000000) : Calls Tryz.prog 140 #[.pointer (some ⟨p, 0, none⟩)] w fun x w' => x = .returned (.bool true) ∧ Pk w' p bm K e ∧ Aside (fun b => b = p ∨ b = bm) w w' := by
  have hE : pkE e 0 [] = 4 := by unfold pkE; rw [if_pos (by rw [chk_nil]; decide), chk_nil]
  have HN : Hid (Calls Tryz.prog 103 #[.pointer (some ⟨p, 0, none⟩), .int .i64 0, .string ⟨#[]⟩] w fun x w' => ∃ v, x = .returned (.tuple #[v, .int .i64 4]) ∧ Pk w' p bm K e ∧ Aside (fun b => b = p ∨ b = bm) w w') := by
    refine (show Calls Tryz.prog _ #[.pointer (some ⟨p, 0, none⟩), .int .i64 0, .string ⟨#[]⟩] w _ from name_any h hG hK he 0 [] (by simp)).mono ?_
    rintro x w' ⟨v, rfl, _, hp, ha⟩
    unfold nameK nameE at hp
    rw [hE, if_neg (by decide), if_neg (by decide)] at hp
    exact ⟨v, by rw [hE], hp, ha⟩
  clear h hE
  go_enter Tryz.func140, Tryz.ntmps140
  go_wp2_with fail
  refine HN.out.mono ?_; rintro e w1 ⟨v, rfl, hp, ha⟩
  have HP := Lib.hid (And.intro hp ha)
  clear hp ha
  go_wp2_with fail
  go_ret
  exact ⟨rfl, HP.out⟩
end Go.Proofs.YtdikgjbpjdnodaaGreat

/-
  Write.
-/
namespace Go.Proofs.YtdikgjbpjdnodaaGreat
open Go.RowKit Go.Shelf
set_option linter.unusedVariables false
set_option linter.unusedSimpArgs false
set_option maxRecDepth 100000

/-- Write's pieces, its row of bytes and its packer, round for round. -/
structure Wk (w wr : World) (p bm B0 : Nat) (vl vb : Value) (L : List Pc) (acc : List UInt8) (K : KK) (e : Nat) : Prop where
  rp : OwnP wr w.heap.size vl L
  lo : ∀ b, vl.ownBlock = some b → b < B0
  rb : OwnB wr B0 vb acc
  pk : Pk wr p bm K e
  has : Aside (fun b => b = p ∨ b = bm) w wr
  size : B0 ≤ wr.heap.size
  base : w.heap.size ≤ B0
  hp : p < w.heap.size
  hm : bm < w.heap.size

section
variable {w wr w' : World} {p bm B0 e : Nat} {vl vb : Value} {L : List Pc} {acc : List UInt8} {K : KK}
theorem Wk.later (h : Wk w wr p bm B0 vl vb L acc K e) (hb : Below wr.heap.size wr w') : Wk w w' p bm B0 vl vb L acc K e :=
  ⟨h.rp.below hb, h.lo, h.rb.below hb, h.pk.later hb, h.has.trans (Aside.of_all hb), Nat.le_trans h.size hb.size, h.base, h.hp, h.hm⟩
theorem Wk.name {K' : KK} {e' : Nat} (h : Wk w wr p bm B0 vl vb L acc K e) (ha : Aside (fun b => b = p ∨ b = bm) wr w') (hk : Pk w' p bm K' e') : Wk w w' p bm B0 vl vb L acc K' e' := by
  have h1 := h.hp
  have h2 := h.hm
  have h3 := h.base
  refine ⟨h.rp.aside ha fun b hb hg => ?_, h.lo, h.rb.aside ha fun b hb hg => ?_, hk, h.has.trans ha, Nat.le_trans h.size ha.size, h3, h1, h2⟩
  · have := (h.rp.lt b hb).1; omega
  · have := (h.rb.lt b hb).1; omega
theorem Wk.app (h : Wk w wr p bm B0 vl vb L acc K e) {xv : Value} {l' : List UInt8} {lo hi : Nat} (hx : Sl wr lo hi xv (iz l')) (hb : acc.length + l'.length ≤ 1000000) :
    ∃ a' c' w', (Builtin.append_ #[28, 28] 28 #[vb, xv]).run Tryz.prog wr = .ok (.slice a' (acc.length + l'.length) c') w' ∧ Wk w w' p bm B0 vl (.slice a' (acc.length + l'.length) c') L (acc ++ l') K e := by
  obtain ⟨a', c', w', h1, h2, ha⟩ := run_appBs B0 vb xv acc l' h.rb hx hb h.size
  have hlt := h.rb.lt
  have g1 := h.hp
  have g2 := h.hm
  have g3 := h.base
  refine ⟨a', c', w', h1, h.rp.aside ha fun b hb hg => by have := h.lo b hb; have := (hlt b hg).1; omega, h.lo, h2, h.pk.aside ha (fun hg => by have := (hlt p hg).1; omega) (fun hg => by have := (hlt bm hg).1; omega), ?_, Nat.le_trans h.size ha.size, g3, g1, g2⟩
  have ha2 : Aside (fun b => w.heap.size ≤ b) wr w' := ha.mono fun b _ hg => by have := (hlt b hg).1; omega
  exact ⟨ha2.os.trans h.has.os, ha2.tape.trans h.has.tape, ha2.output.trans h.has.output, Nat.le_trans h.has.size ha2.size, fun b hb hg => (ha2.block b (Nat.lt_of_lt_of_le hb h.has.size) (by omega)).trans (h.has.block b hb hg)⟩
end

def WrPost (w : World) (p bm : Nat) (R : WR) (x : Ending) (w' : World) : Prop :=
  ∃ v, x = .returned (.tuple #[v, .int .i64 R.code]) ∧ OwnB w' w.heap.size v R.out ∧ Pk w' p bm R.K R.e ∧ Aside (fun b => b = p ∨ b = bm) w w'

theorem fits_nam {ks : List PK} {L : List Pc} (h : Fits ks L) : ∀ x ∈ L, x.2 = true → chk x.1 = 0 := by
  induction h with
  | nil => simp
  | fix h h2 ih => intro x hx hf; rcases List.mem_cons.mp hx with rfl | hx; cases hf; exact ih x hx hf
  | nam h h2 ih => intro x hx hf; rcases List.mem_cons.mp hx with rfl | hx; exact h; exact ih x hx hf
  | txt h => intro x hx hf; obtain rfl := List.mem_singleton.mp hx; cases hf
  | rst => intro x hx hf; obtain rfl := List.mem_singleton.mp hx; cases hf

set_option maxHeartbeats 8000000 in
theorem write_any {w : World} {p bm e : Nat} {K : KK} (h : Pk w p bm K e) (hG : GoodK K) (hK : K.length ≤ 800000) (he : e ≤ 900000) (a t : Int) (d : List UInt8) (hd : d.length ≤ 1000000) :
    Calls Tryz.prog 134 #[.pointer (some ⟨p, 0, none⟩), .int .i64 a, .int .i64 t, .string (bs d)] w (WrPost w p bm (wrR a t d K e)) := by
  have HM := Lib.hid (pmade_any h hG (by omega) (by omega))
  have hpl := h.lt
  have hml := h.map.lt
  rcases hR : spl t d with L | ⟨c, aa⟩
  · have eR : wrR a t d K e = wrL a L K e [] := by unfold wrR; rw [hR]
    rw [eR]
    have HS := Lib.hid (fun wx => split_ok hR hd wx)
    obtain ⟨_, _, hd6, hf, hj⟩ := spl_ok hR
    have hfl := fits_len hf
    have hk3 := (kinds_small t).1
    have HP := Lib.hid (fun k (h : k < L.length) => show L[k].1.length ≤ 65535 from by
      have h1 := joined_take h
      have h2 := joined_part L (k + 1)
      rw [h1, List.length_append, hj] at h2
      omega)
    have HNM := Lib.hid (fun k (h : k < L.length) (h2 : L[k].2 = true) => fits_nam hf L[k] (List.getElem_mem h) h2)
    obtain ⟨X, hX⟩ : ∃ X, wrL a L K e [] = X := ⟨_, rfl⟩
    rw [hX]
    have HX := Lib.hid hX
    obtain ⟨n, hn⟩ : ∃ n, L.length = n := ⟨_, rfl⟩
    have HN := Lib.hid hn
    have hn3 : n ≤ 3 := by omega
    clear hR eR hf hj hfl hk3 hd6 hn hX h
    go_enter Tryz.func134, Tryz.ntmps134
    go_wp2_with fail
    refine HM.out.mono ?_; rintro e0 w1 ⟨rfl, hpk1, ha1⟩
    have HP1 := Lib.hid (And.intro hpk1 ha1)
    clear hpk1 ha1
    go_wp2_with fail
    refine (HS.out w1).mono ?_; rintro e0 w2 ⟨vl, rfl, hown, hb2⟩
    have HWk : Hid (Wk w w2 p bm w2.heap.size vl (.slice none 0 0) L [] K e) := ⟨hown.mono HP1.out.2.size, fun b hb => (hown.lt b hb).2, OwnB.nil _ _, HP1.out.1.later hb2, HP1.out.2.trans (Aside.of_all hb2), Nat.le_refl _, Nat.le_trans HP1.out.2.size hb2.size, hpl, hml⟩
    obtain ⟨al, cl, rfl⟩ := hown.shape
    rw [HN.out] at HWk ⊢
    obtain ⟨B0, hB0⟩ : ∃ B0, w2.heap.size = B0 := ⟨_, rfl⟩
    rw [hB0] at HWk
    clear hown hb2 hB0 HP1 HM
    go_wp2_with fail
    go_loopg [12, 30] n (fun g v12 v30 wr => ∃ (k z : Nat) (acc : List UInt8) (K' : KK) (e' : Nat) (ab : Option Addr) (cb : Nat), k + g = n ∧ v30 = .int .i64 k ∧ v12 = .slice ab z cb ∧ acc.length = z ∧ z ≤ 65535 * k ∧ K'.length ≤ K.length + 127 * k ∧ e' ≤ 1000000 ∧ Hid (Wk w wr p bm B0 (.slice al n cl) (.slice ab z cb) L acc K' e') ∧ Hid (GoodK K') ∧ Hid (wrL a (L.drop k) K' e' acc = X))
    case atStart => exact ⟨0, 0, [], K, e, none, 0, by omega, rfl, rfl, rfl, by omega, by omega, by omega, HWk, hG, HX⟩
    case round =>
      obtain ⟨k, z, acc, K', e', ab, cb, hk, rfl, rfl, hz, hzl, hKl, hel, HW, HGk, HXk⟩ := hrel
      clear HWk
      by_cases hlt0 : k < n
      · have hlt : k < L.length := by have := HN.out; omega
        obtain ⟨g0, c0, he0, hc0, hc1⟩ := OwnP.at_ HW.out.rp k hlt
        injection he0 with he1 he2 he3
        subst he1
        subst he3
        have hxl := HP.out k hlt
        have hst := HXk.out
        rw [List.drop_eq_getElem_cons hlt, wrL] at hst
        obtain ⟨x, hx⟩ : ∃ x, L[k].1 = x := ⟨_, rfl⟩
        obtain ⟨f, hf⟩ : ∃ f, L[k].2 = f := ⟨_, rfl⟩
        rw [hx] at hc0 hxl hst
        rw [hf] at hc1 hst
        rw [hz] at hst
        have hal : Below wr.heap.size wr (wr.alloc (.cells #[.string (bs x), .bool f] 184)) := (Below.refl _ _).alloc (Nat.le_refl _) _
        obtain ⟨cap, W, hcv, ho, hbW, hltW⟩ := conv_B (wr.alloc (.cells #[.string (bs x), .bool f] 184)) x (by omega)
        have hsz : (wr.alloc (.cells #[.string (bs x), .bool f] 184)).heap.size = wr.heap.size + 1 := World.size_alloc _ _
        rw [hsz] at hcv ho hbW hltW
        have d0 : W.cell? ⟨wr.heap.size, 0, none⟩ = some (.string (bs x)) := (hbW.cell (p := ⟨wr.heap.size, 0, none⟩) (Nat.lt_succ_self _)).trans (by simp [go_sem])
        have d1 : W.cell? ⟨wr.heap.size, 1, none⟩ = some (.bool f) := (hbW.cell (p := ⟨wr.heap.size, 1, none⟩) (Nat.lt_succ_self _)).trans (by simp [go_sem])
        have HWW := Lib.hid ((HW.out.later hal).later (by rw [hsz]; exact hbW))
        have HO := Lib.hid ho
        have hnm := fun h => HNM.out k hlt h
        rw [hf, hx] at hnm
        clear hx hf hal ho hbW hltW he2 hsz
        cases f with
        | false =>
          rw [if_neg (by simp)] at hst
          have HST := Lib.hid hst
          obtain ⟨l2, hl2⟩ : ∃ l2, x.length = l2 := ⟨_, rfl⟩
          obtain ⟨a3, c3, w3, hr3, hk3⟩ := HWW.out.app HO.out.sl (by omega)
          rw [hz, hl2] at hr3 hk3
          have HR3 := Lib.hid hr3
          have HK3 := Lib.hid hk3
          have hzl2 : z + l2 ≤ 65535 * (k + 1) := by omega
          have hlen : (acc ++ x).length = z + l2 := by rw [List.length_append, hz, hl2]
          rw [hl2] at hcv
          clear hr3 hk3 hst hl2 HO
          go_wp2_with (at_builtin; refine wpList_append_run (.tmp 53) (.tmp 54) 28 28 rfl rfl rfl rfl HR3.out ?_)
          go_roundg (n - (k + 1))
          case measure => omega
          case rel => exact ⟨k + 1, z + l2, acc ++ x, K', e', a3, c3, by omega, by go_num, by simp, hlen, hzl2, by omega, hel, HK3, HGk, HST⟩
        | true =>
          rw [if_pos rfl] at hst
          have hx255 := (chk_pos (hnm rfl)).2
          have hnb := nameB_len (e := e') (a := wrap64 (a + z)) (n := x) HGk.out
          have hnk := nameK_good (e := e') (a := wrap64 (a + z)) (n := x) HGk.out
          have HNm0 := name_any HWW.out.pk HGk.out (by omega) (by omega) (wrap64 (a + z)) x (by omega)
          obtain ⟨q, hq⟩ : ∃ q, wrap64 (a + z) = q := ⟨_, rfl⟩
          rw [hq] at hst hnb hnk HNm0
          by_cases hE : pkE e' q x = 0
          · rw [if_neg (by simpa using hE)] at hst
            have HST := Lib.hid hst
            obtain ⟨T, hT⟩ : ∃ T, nameB K' e' q x = T := ⟨_, rfl⟩
            obtain ⟨K2, hK2⟩ : ∃ K2, nameK K' e' q x = K2 := ⟨_, rfl⟩
            obtain ⟨e2, he2⟩ : ∃ e2, nameE K' e' q x = e2 := ⟨_, rfl⟩
            rw [hT, hK2, he2] at HST
            have HNm : Hid (Calls Tryz.prog 103 #[.pointer (some ⟨p, 0, none⟩), .int .i64 q, .string (bs x)] W fun y w' => ∃ v, y = .returned (.tuple #[v, .int .i64 0]) ∧ OwnB w' W.heap.size v T ∧ Pk w' p bm K2 e2 ∧ Aside (fun b => b = p ∨ b = bm) W w') := by
              refine HNm0.mono ?_
              rintro y w' ⟨v, rfl, g1, g2, g3⟩
              rw [hE]
              rw [hT] at g1
              rw [hK2, he2] at g2
              exact ⟨v, rfl, g1, g2, g3⟩
            rw [hT] at hnb
            rw [hK2, he2] at hnk
            clear hst HNm0 hT hK2 he2 hE hnm
            go_wp2_with fail
            rw [hq]
            refine HNm.out.mono ?_; rintro e0 w3 ⟨v3, rfl, ho3, hpk3, ha3⟩
            have HK3 := HWW.out.name ha3 hpk3
            obtain ⟨l2, hl2⟩ : ∃ l2, T.length = l2 := ⟨_, rfl⟩
            obtain ⟨a4, c4, w4, hr4, hk4⟩ := HK3.app ho3.sl (by omega)
            obtain ⟨a5, c5, rfl⟩ := ho3.shape
            rw [hz, hl2] at hr4 hk4
            rw [hl2] at hnb ⊢
            have HR4 := Lib.hid hr4
            have HK4 := Lib.hid hk4
            have hzl2 : z + l2 ≤ 65535 * (k + 1) := by omega
            have hlen : (acc ++ T).length = z + l2 := by rw [List.length_append, hz, hl2]
            have hG2 := Lib.hid hnk.1
            clear hr4 hk4 hl2 HO ho3 hpk3 ha3 HK3 hq
            go_wp2_with (at_builtin; refine wpList_append_run (.tmp 53) (.tmp 54) 28 28 rfl rfl rfl rfl HR4.out ?_)
            go_roundg (n - (k + 1))
            case measure => omega
            case rel => exact ⟨k + 1, z + l2, acc ++ T, K2, e2, a4, c4, by omega, by go_num, by simp, hlen, hzl2, by omega, by omega, HK4, hG2, HST⟩
          · rw [if_pos (by simpa using hE)] at hst
            have HST := Lib.hid hst
            have hnk0 : nameK K' e' q x = K' ∧ nameE K' e' q x = e' := by unfold nameK nameE; rw [if_neg hE, if_neg hE]; exact ⟨rfl, rfl⟩
            obtain ⟨cc, hcc⟩ : ∃ cc, pkE e' q x = cc := ⟨_, rfl⟩
            rw [hcc] at HST hE
            have HNm : Hid (Calls Tryz.prog 103 #[.pointer (some ⟨p, 0, none⟩), .int .i64 q, .string (bs x)] W fun y w' => ∃ v, y = .returned (.tuple #[v, .int .i64 cc]) ∧ Pk w' p bm K' e' ∧ Aside (fun b => b = p ∨ b = bm) W w') := by
              refine HNm0.mono ?_
              rintro y w' ⟨v, rfl, _, g2, g3⟩
              rw [hcc]
              rw [hnk0.1, hnk0.2] at g2
              exact ⟨v, rfl, g2, g3⟩
            have tc : (cc != 0) = true := by simpa using hE
            clear hst HNm0 hcc hE hnm hnk0 hnk hnb
            go_wp2_with fail
            rw [hq]
            refine HNm.out.mono ?_; rintro e0 w3 ⟨v3, rfl, hpk3, ha3⟩
            have HK3 := Lib.hid (HWW.out.name ha3 hpk3)
            clear hpk3 ha3 hq
            go_wp2_with fail
            go_ret2
            rw [← HST.out]
            exact ⟨_, rfl, OwnB.nil _ _, HK3.out.pk, HK3.out.has⟩
      · have hXe : wrL a [] K' e' acc = X := by have h := HXk.out; rw [List.drop_eq_nil_of_le (by have := HN.out; omega)] at h; exact h
        have HXe := Lib.hid hXe
        clear hXe
        go_wp2_with fail
        go_ret2
        rw [← HXe.out]
        have hh := HW.out
        exact ⟨_, rfl, hh.rb.mono hh.base, hh.pk, hh.has⟩
  · have eR : wrR a t d K e = ⟨[], c, K, e⟩ := by unfold wrR; rw [hR]
    rw [eR]
    have HS := Lib.hid (fun wx => split_bad hR hd wx)
    have tc : (c != 0) = true := by simpa using code_bad hR
    clear hR eR h
    go_enter Tryz.func134, Tryz.ntmps134
    go_wp2_with fail
    refine HM.out.mono ?_; rintro e0 w1 ⟨rfl, hpk1, ha1⟩
    have HP1 := Lib.hid (And.intro hpk1 ha1)
    clear hpk1 ha1
    go_wp2_with fail
    refine (HS.out w1).mono ?_; rintro e0 w2 ⟨vl, rfl, hb2⟩
    have HP2 := Lib.hid (And.intro (HP1.out.1.later hb2) (HP1.out.2.trans (Aside.of_all hb2)))
    clear hb2
    go_wp2_with fail
    go_ret2
    exact ⟨_, rfl, OwnB.nil _ _, HP2.out⟩
end Go.Proofs.YtdikgjbpjdnodaaGreat
