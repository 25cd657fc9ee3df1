/-
  The statement about what is read of any bytes.
-/
import Derived.Test.YtaikpgcmcmkdcaaQK
import Derived.Test.YtaikpgcmcmkdcaaQX
import Derived.Test.YtaikpgcmcmkdcaaBPick
namespace Go.Proofs.Ytaikpgcmcmkdcaa
open Go.RowKit Go.Shelf
set_option linter.unusedVariables false
set_option linter.unusedSimpArgs false
set_option maxRecDepth 100000

set_option maxHeartbeats 8000000 in
theorem readsOnlyC_any {w : World} {lo hi : Nat} {v : Value} {b : List UInt8} (hS : Sl w lo hi v (iz b)) (hhi : hi ≤ w.heap.size) (a : Int) :
    Calls Try.prog 6 #[v, .int .i64 a] w (Tells w (.bool true)) := by
  have HAW := Lib.hid awakeC_any
  have hS2 := hS
  obtain ⟨av, cv, rfl, _⟩ := hS
  replace hS2 : Sl w lo hi (.slice av b.length cv) (iz b) := by rw [iz_len] at hS2; exact hS2
  rw [iz_len]
  have HB := Lib.hid (Below.refl w.heap.size w)
  by_cases hlong : 3000 < b.length
  · clear hS2
    go_enter Try.func6, Try.ntmps6
    go_wp2_with fail
    refine (tell_on HB (HAW.out _)).mono ?_; rintro e w1 ⟨rfl, HB⟩
    go_wp2_with fail
    go_ret
    exact ⟨rfl, HB.out⟩
  · have HR := Lib.hid (fun (k : Nat) wx (hb : Below w.heap.size w wx) => readC_any (hS2.below hb hhi) (Nat.le_trans hhi hb.size) (by omega) (k : Int))
    have HQ := Lib.hid (fun (k : Nat) wx (hb : Below w.heap.size w wx) => question_any (hS2.below hb hhi) (Nat.le_trans hhi hb.size) (by omega) (k : Int))
    have HP := Lib.hid (fun wx => pick_any a ((b.length + 1 : Nat) : Int) wx (by omega) (by omega))
    have hcases := Lib.hid (fun k (hk : k ≤ b.length) => read_any_cases b k hk (by omega))
    push_cast at HP
    clear hS2
    go_enter Try.func6, Try.ntmps6
    go_wp2_with fail
    refine (tell_on HB (HAW.out _)).mono ?_; rintro e w1 ⟨rfl, HB⟩
    go_wp2_with fail
    refine (HP.out _).mono ?_; rintro e w2 ⟨k, hk, rfl, rfl⟩
    have HRk := Lib.hid (HR.out k _ HB.out)
    have HQk := Lib.hid (HQ.out k)
    have hc := hcases.out k (by omega)
    unfold recV at HRk
    unfold quesV at HQk
    clear HR HQ hcases HP
    rcases hc with ⟨h1, h2, h3⟩ | ⟨h1, h2, h3, h4, h5, h6, h7, h8⟩
    · rw [if_neg h1] at HRk
      obtain ⟨E, hE⟩ : ∃ E, (s6 b k).e = E := ⟨_, rfl⟩
      obtain ⟨P, hP⟩ : ∃ P, (s6 b k).p = P := ⟨_, rfl⟩
      rw [hE] at h1 HRk
      rw [hP] at h2 h3 HRk
      have tE : (E != 0) = true := by simpa using h1
      have tp : decide ((0 : Int) ≤ P) = true := by simpa using h2
      have tq : decide (P ≤ (b.length : Int)) = true := by simpa using h3
      clear hE hP h1 h2 h3 HQk
      go_wp2_with fail
      refine (tell_on HB HRk.out).mono ?_; rintro e w3 ⟨rfl, HB⟩
      replace HB := Lib.hid (bel_alloc (bel_alloc HB.out (.cells #[.string ⟨#[]⟩, .int .i64 0, .int .i64 0, .int .i64 0, .string ⟨#[]⟩] 23)) (.cells #[.int .i64 E, .int .i64 P] 54))
      go_wp2_with fail
      go_ret
      exact ⟨rfl, HB.out⟩
    · rw [if_pos h1] at HRk
      rw [if_pos h2] at HQk
      have HCk := Lib.hid (fun wx => checkC_any (rN b k) (rT b k) (rC b k) (ttlR (rL b k)) (rD b k) (by omega) (by omega) wx)
      rw [h3] at HCk
      obtain ⟨n, hn⟩ : ∃ n, rN b k = n := ⟨_, rfl⟩
      obtain ⟨t, ht⟩ : ∃ t, rT b k = t := ⟨_, rfl⟩
      obtain ⟨c, hc⟩ : ∃ c, rC b k = c := ⟨_, rfl⟩
      obtain ⟨l, hl⟩ : ∃ l, ttlR (rL b k) = l := ⟨_, rfl⟩
      obtain ⟨d, hd⟩ : ∃ d, rD b k = d := ⟨_, rfl⟩
      obtain ⟨A, hA⟩ : ∃ A, (s6 b k).a = A := ⟨_, rfl⟩
      obtain ⟨Q, hQ⟩ : ∃ Q, (s3 b k).a = Q := ⟨_, rfl⟩
      rw [hn, ht, hc, hl, hd] at HCk
      rw [hn, ht, hc, hl, hd, hA] at HRk
      rw [hn, ht, hc, hQ] at HQk
      rw [hA] at h4 h5 h6
      rw [hQ] at h6
      have t1 : decide ((k : Int) < A) = true := by simpa using h4
      have t2 : decide (A ≤ (b.length : Int)) = true := by simpa using h5
      have t3 : decide (Q < A) = true := by simpa using h6
      have tn : ((bs n).toList == (bs n).toList) = true := by simp
      clear hn ht hc hl hd hA hQ h1 h2 h3 h4 h5 h6 h7 h8
      go_wp2_with fail
      refine (tell_on HB HRk.out).mono ?_; rintro e w3 ⟨rfl, HB⟩
      have ha1 : Below w3.heap.size w3 (w3.alloc (.cells #[.string (bs n), .int .i64 t, .int .i64 c, .int .i64 l, .string (bs d)] 23)) := (Below.refl _ _).alloc (Nat.le_refl _) _
      have hx := (cel_new w3 (.string (bs n)) (.int .i64 t) (.int .i64 c) (.int .i64 l) (.string (bs d)) 23).below (by simp) ((Below.refl _ _).alloc (Nat.le_refl _) (.cells #[.int .i64 0, .int .i64 0] 54))
      have HX := Lib.hid hx
      replace HB := Lib.hid (bel_alloc (bel_alloc HB.out (.cells #[.string (bs n), .int .i64 t, .int .i64 c, .int .i64 l, .string (bs d)] 23)) (.cells #[.int .i64 0, .int .i64 0] 54))
      clear ha1 hx
      go_wp2_with fail
      refine (HQk.out _ HB.out).mono ?_; rintro e w4 ⟨rfl, hb⟩
      replace HX := Lib.hid (HX.out.below (by simp) hb)
      replace HB := Lib.hid (bel_call HB.out hb)
      obtain ⟨g, hg⟩ : ∃ g, w3.heap.size = g := ⟨_, rfl⟩
      rw [hg] at HX ⊢
      clear hb hg
      obtain ⟨c0, c1, c2, c3, c4⟩ := HX.out.five
      have hlt : g < w4.heap.size := World.block_lt_of_cell? w4 _ c0
      have HX2 := Lib.hid (HX.out.below (by simp) (bel_alloc ((Below.refl w4.heap.size w4).alloc (Nat.le_refl _) (.cells #[.string (bs n), .int .i64 t, .int .i64 c] 42)) (.cells #[.int .i64 0, .int .i64 0] 54)))
      have HY2 := Lib.hid ((cel_new3 w4 (.string (bs n)) (.int .i64 t) (.int .i64 c) 42).below (by simp) ((Below.refl _ _).alloc (Nat.le_refl _) (.cells #[.int .i64 0, .int .i64 0] 54)))
      have HF2 := Lib.hid (show ((w4.alloc (.cells #[.string (bs n), .int .i64 t, .int .i64 c] 42)).alloc (.cells #[.int .i64 0, .int .i64 0] 54)).cell? ⟨w4.heap.size + 1, 0, none⟩ = some (.int .i64 0) by rw [← World.size_alloc w4 (.cells #[.string (bs n), .int .i64 t, .int .i64 c] 42)]; simp [go_sem])
      replace HB := Lib.hid (bel_alloc (bel_alloc HB.out (.cells #[.string (bs n), .int .i64 t, .int .i64 c] 42)) (.cells #[.int .i64 0, .int .i64 0] 54))
      go_wp2_with fail
      refine (HCk.out _).mono ?_; rintro e w5 ⟨rfl, hb⟩
      replace HB := Lib.hid (bel_call HB.out hb)
      obtain ⟨d0, d1, d2, d3, d4⟩ := (HX2.out.below (by simp) hb).five
      have HY5 := HY2.out.below (by simp) hb
      have y0 : w5.cell? ⟨w4.heap.size, 0, none⟩ = some (.string (bs n)) := HY5.c 0 (by simp)
      have y1 : w5.cell? ⟨w4.heap.size, 1, none⟩ = some (.int .i64 t) := HY5.c 1 (by simp)
      have y2 : w5.cell? ⟨w4.heap.size, 2, none⟩ = some (.int .i64 c) := HY5.c 2 (by simp)
      have z0 := cell_later hb HF2.out
      clear hb c0 c1 c2 c3 c4 HY5
      go_wp2_with fail
      go_ret
      exact ⟨rfl, HB.out⟩
end Go.Proofs.Ytaikpgcmcmkdcaa
