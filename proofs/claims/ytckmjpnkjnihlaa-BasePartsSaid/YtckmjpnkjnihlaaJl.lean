/-
  The document's Decode: the walk.
-/
import Derived.Test.YtckmjpnkjnihlaaJm
namespace Go.Proofs.Ytckmjpnkjnihlaa
open Go.RowKit Go.Shelf
set_option linter.unusedVariables false
set_option maxRecDepth 100000

set_option maxHeartbeats 2000000 in
theorem rdecode_any (s : List UInt8) (hl : s.length ≤ 300000) (w : World) : Calls Try.prog 9 #[.string (bs s)] w (RDePost w s) := by
  have HS := Lib.hid (fun w => rsize_any (s.length : Int) (by omega) (by omega) w)
  have HNUM := Lib.hid number_any
  have hmk := fun m hm wx => makeN m hm wx
  go_enter Try.func9, Try.ntmps9
  go_wp2_with fail
  go_loopg [4] s.length (fun g v4 wr => ∃ k : Nat, k + g = s.length ∧ v4 = .int .i64 k ∧ k ≤ bad s ∧ w.alloc (.cells #[.int .i64 0, .int .i64 0] 26) = wr)
  case atStart => exact ⟨0, by omega, rfl, Nat.zero_le _, rfl⟩
  case round =>
    obtain ⟨k, hk, rfl, hle, rfl⟩ := hrel
    by_cases hlt : k < s.length
    · have hix := ix_run s k hlt
      have hnum := HNUM.out s[k]
      by_cases hbad : nm s[k] < 64
      · have e : numN s[k] = (nm s[k] : Nat) := by unfold numN; rw [if_pos hbad]
        have hb1 : k < bad s := by
          rcases Nat.lt_or_ge k (bad s) with h | h
          · exact h
          · have h2 := bad_is s (by omega)
            have : bad s = k := by omega
            simp only [this] at h2
            omega
        rw [e] at hnum
        obtain ⟨x, hx⟩ : ∃ x, nm s[k] = x := ⟨_, rfl⟩
        obtain ⟨c, hc⟩ : ∃ c, s[k].toNat = c := ⟨_, rfl⟩
        rw [hx] at hnum hbad
        rw [hc] at hnum hix
        have HNM := Lib.hid hnum
        have t1 : ¬ (x : Int) < 0 := by omega
        clear e hnum hx hc
        go_wp2_with fail
        refine (HNM.out _).mono ?_; rintro e w1 ⟨rfl, rfl⟩
        go_wp2_with fail
        go_roundg (s.length - (k + 1))
        case measure => omega
        case rel => exact ⟨k + 1, by omega, by go_num, hb1, rfl⟩
      · have e : numN s[k] = -1 := by unfold numN; rw [if_neg hbad]
        have hbk : bad s = k := by
          rcases Nat.lt_or_ge k (bad s) with h | h
          · exact absurd (bad_fine s k h hlt) hbad
          · omega
        rw [e] at hnum
        obtain ⟨c, hc⟩ : ∃ c, s[k].toNat = c := ⟨_, rfl⟩
        rw [hc] at hnum hix
        have HNM := Lib.hid hnum
        have HF := Lib.hid (show decE s = 4 ∧ decA s = k ∧ decB s = [] from by
          have hnf : ¬ fineB s := fun h => by have := h.1; omega
          refine ⟨by unfold decE; rw [if_neg hnf], by unfold decA; rw [if_pos (by omega), hbk], by unfold decB; rw [if_neg hnf]⟩)
        clear e hnum hc hbk hbad
        go_wp2_with fail
        refine (HNM.out _).mono ?_; rintro e w1 ⟨rfl, rfl⟩
        go_wp2_with fail
        refine bodyPost_ret (v := .tuple #[.slice none 0 0, .agg #[.int .i64 4, .int .i64 k]]) (by simp [results, Try.results9, go_sem]) rfl (RDePost.of rfl HF.out.1 HF.out.2.1 (by rw [HF.out.2.2]; exact sl_nil _ _ _) ?_)
        exact (Below.refl _ _).alloc (Nat.le_refl _) _
    · have hbk : bad s = s.length := by have := bad_le s; omega
      obtain ⟨r0, r1, r2⟩ : (w.alloc (.cells #[.int .i64 0, .int .i64 0] 26)).cell? ⟨w.heap.size, 0, none⟩ = some (.int .i64 0) ∧ (w.alloc (.cells #[.int .i64 0, .int .i64 0] 26)).cell? ⟨w.heap.size, 1, none⟩ = some (.int .i64 0) ∧ ∀ j, (w.alloc (.cells #[.int .i64 0, .int .i64 0] 26)).frozen? ⟨w.heap.size, j, none⟩ = false := by
        refine ⟨by simp [go_sem], by simp [go_sem], fun j => by simp [go_sem]⟩
      by_cases h4 : s.length % 4 = 1
      · have hB : szB (s.length : Int) = false := by
          unfold szB
          have : (s.length : Int) % 4 = 1 := by omega
          simp [this]
        have hN : szN (s.length : Int) = 0 := by unfold szN; rw [hB]; rfl
        have HF := Lib.hid (show decE s = 4 ∧ decA s = s.length ∧ decB s = [] from by
          have hnf : ¬ fineB s := fun h => h.2.1 h4
          refine ⟨by unfold decE; rw [if_neg hnf], by unfold decA; rw [if_neg (by omega), if_pos h4], by unfold decB; rw [if_neg hnf]⟩)
        have HS := HS.out
        simp only [hB, hN] at HS
        have HS := Lib.hid HS
        clear hbk h4 hB hN
        go_wp2_with fail
        refine (HS.out _).mono ?_; rintro e w1 ⟨rfl, rfl⟩
        go_wp2_with fail
        refine bodyPost_ret (v := .tuple #[.slice none 0 0, .agg #[.int .i64 4, .int .i64 s.length]]) (by simp [results, Try.results9, go_sem]) rfl (RDePost.of rfl HF.out.1 HF.out.2.1 (by rw [HF.out.2.2]; exact sl_nil _ _ _) ?_)
        exact (Below.refl _ _).alloc (Nat.le_refl _) _
      · have hB : szB (s.length : Int) = true := by
          unfold szB
          have h1 : ¬ (s.length : Int) % 4 = 1 := by omega
          have h2 : ¬ (s.length : Int) < 0 := by omega
          simp [h1, h2]
        obtain ⟨m, hm⟩ : ∃ m, 6 * s.length / 8 = m := ⟨_, rfl⟩
        have hN : szN (s.length : Int) = (m : Nat) := by unfold szN; rw [hB, if_pos rfl]; omega
        have HS := HS.out
        simp only [hB, hN] at HS
        have HS := Lib.hid HS
        have hm1 : m ≤ 300000 := by omega
        have hmk := hmk m (by omega)
        have HI0 := Lib.hid (show RdI w ((w.alloc (.cells #[.int .i64 0, .int .i64 0] 26)).alloc (.cells (List.replicate m (Value.int .u8 0)).toArray 5)) s m 0 from
          ⟨(Lib.alloc_old _ _ _ (by simp)).trans (heap_alloc_new w _), by rw [fil_zero, List.map_replicate]; exact two_alloc w _ _, ((Below.refl _ _).alloc (Nat.le_refl _) _).alloc (by simp) _, fun t _ h => by omega⟩)
        have HM := Lib.hid hm
        have HBK := Lib.hid hbk
        have H4 := Lib.hid h4
        clear hbk h4 hB hN hm hle
        go_wp2_with fail
        refine (HS.out _).mono ?_; rintro e w1 ⟨rfl, rfl⟩
        go_wp2_with fail
        go_loopg [8] (6 * s.length) (fun g v8 wr => ∃ i : Nat, i + g = 6 * s.length ∧ v8 = .int .i64 i ∧ Hid (RdI w wr s m i))
        case atStart => exact ⟨0, by omega, rfl, HI0⟩
        case round =>
          clear HI0
          obtain ⟨i, hi, rfl, HI⟩ := hrel
          by_cases hi6 : i < 6 * s.length
          · have h6l : IntKind.i64.wrap (6 * (s.length : Int)) = 6 * (s.length : Int) := IntWalk.i64_in _ (by omega)
            have hm8 : IntKind.i64.wrap (8 * (m : Int)) = 8 * (m : Int) := IntWalk.i64_in _ (by omega)
            have hq6 : ((i : Nat) : Int).tdiv 6 = ((i / 6 : Nat) : Int) := by rw [Int.tdiv_eq_ediv_of_nonneg (by omega)]; omega
            have hr6 : ((i : Nat) : Int).tmod 6 = ((i % 6 : Nat) : Int) := by rw [Int.tmod_eq_emod_of_nonneg (by omega)]; omega
            have hq8 : ((i : Nat) : Int).tdiv 8 = ((i / 8 : Nat) : Int) := by rw [Int.tdiv_eq_ediv_of_nonneg (by omega)]; omega
            have hr8 : ((i : Nat) : Int).tmod 8 = ((i % 8 : Nat) : Int) := by rw [Int.tmod_eq_emod_of_nonneg (by omega)]; omega
            have hqs : i / 6 < s.length := by omega
            have hix := ix_run s (i / 6) hqs
            have hnum := HNUM.out s[i / 6]
            rw [num_at s (i / 6) HBK.out hqs] at hnum
            have hv64 := bad_vn s (i / 6) (by rw [HBK.out]; omega)
            have HX := Lib.hid (show vb s i = vn s (i / 6) / 2 ^ (5 - i % 6) % 2 from rfl)
            obtain ⟨c, hc⟩ : ∃ c, s[i / 6].toNat = c := ⟨_, rfl⟩
            obtain ⟨v, hv⟩ : ∃ v, vn s (i / 6) = v := ⟨_, rfl⟩
            obtain ⟨q, hq⟩ : ∃ q, i / 6 = q := ⟨_, rfl⟩
            obtain ⟨r, hr⟩ : ∃ r, i % 6 = r := ⟨_, rfl⟩
            rw [hc] at hix hnum
            rw [hv] at HX hv64 hnum
            rw [hq] at hix hq6 hqs
            rw [hr] at HX hr6
            obtain ⟨q8, hq8'⟩ : ∃ q8, i / 8 = q8 := ⟨_, rfl⟩
            obtain ⟨r8, hr8'⟩ : ∃ r8, i % 8 = r8 := ⟨_, rfl⟩
            rw [hq8'] at hq8
            rw [hr8'] at hr8
            have h80 : r8 < 8 := hr8' ▸ Nat.mod_lt i (by decide)
            have HQR := Lib.hid (And.intro hq8' hr8')
            have hr0 : r < 6 := hr ▸ Nat.mod_lt i (by decide)
            have HNM := Lib.hid hnum
            clear hc hv hq hr hnum hq8' hr8'
            obtain ⟨x, hx⟩ : ∃ x, vb s i = x := ⟨_, rfl⟩
            have hx1 := vb_lt s i
            have hxi : ((v : Int) / 2 ^ (5 - r)).tmod 2 = (x : Nat) := vb_int (by rw [← hx, HX.out])
            rw [hx] at hx1
            have HXX := Lib.hid hx
            have HM8 := Lib.hid hm8
            obtain ⟨r0, r1, r2, r3⟩ := HI.out.cells
            clear hx HX hm8
            by_cases h8 : i < 8 * m
            · obtain ⟨b0, b1⟩ := HI.out.at_ h8
              have hn := HI.out.next h8
              obtain ⟨p, p', hp, hp', hor⟩ : ∃ p p' : Nat, pv s (8 * (i / 8)) (i % 8) = p ∧ pv s (8 * (i / 8)) (i % 8 + 1) = p' ∧ bits .or .u8 (p : Int) (((x * 2 ^ (7 - i % 8) : Nat) : Int)) = p' := ⟨_, _, rfl, rfl, or_bit s (8 * (i / 8)) (i % 8) x (by omega) (by rw [← HXX.out]; congr 1; omega)⟩
              rw [HQR.out.2] at hor
              rw [hp] at b0
              rw [hp'] at hn
              rw [HQR.out.1] at b0 hn
              have hy : x * 2 ^ (7 - r8) < 256 := sh_lt hx1
              obtain ⟨y, hy0⟩ : ∃ y, x * 2 ^ (7 - r8) = y := ⟨_, rfl⟩
              have hsl : IntKind.u8.wrap ((x : Int) * 2 ^ (7 - r8)) = (y : Nat) := sh_int hy0 (by rw [← hy0]; exact hy)
              rw [hy0] at hor
              have HN := Lib.hid hn
              have hq8m : q8 < m := by rw [← HQR.out.1]; clear hq6 hr6 hq8 hr8 hxi hsl hor; omega
              have HXI := Lib.hid hxi
              have HSL := Lib.hid hsl
              have HOR := Lib.hid hor
              clear hn hp hp' hy0 hxi hsl hor hy
              go_wp2_with fail
              refine (HNM.out _).mono ?_; rintro e w1 ⟨rfl, rfl⟩
              have hxi := HXI.out
              have hm8 := HM8.out
              go_wp2_with fail
              have hsl := HSL.out
              have hor := HOR.out
              have hq8l : q8 < 400000 := by omega
              have hw8 : IntKind.u8.wrap (x : Int) = x := IntWalk.u8_in _ (by clear hxi hsl hor; omega)
              go_region
              go_wp2_with fail
              go_roundg (6 * s.length - (i + 1))
              case measure => omega
              case rel => exact ⟨i + 1, by omega, by go_num, HN⟩
            · have HXI := Lib.hid hxi
              clear hxi
              by_cases hx0 : x = 0
              · subst hx0
                have HN := Lib.hid (HI.out.more (by omega) HXX.out)
                go_wp2_with fail
                refine (HNM.out _).mono ?_; rintro e w1 ⟨rfl, rfl⟩
                have hxi := HXI.out
                have hm8 := HM8.out
                go_wp2_with fail
                go_roundg (6 * s.length - (i + 1))
                case measure => omega
                case rel => exact ⟨i + 1, by omega, by go_num, HN⟩
              · have HF := Lib.hid (show decE s = 4 ∧ decA s = s.length - 1 ∧ decB s = [] from by
                  have hr : ¬ rst s s.length = 0 := rest_bit s H4.out i (by rw [HM.out]; omega) hi6 (by rw [HXX.out]; exact hx0)
                  have hnf : ¬ fineB s := fun h => hr h.2.2
                  refine ⟨by unfold decE; rw [if_neg hnf], by unfold decA; rw [if_neg (by rw [HBK.out]; omega), if_neg H4.out, if_pos hr], by unfold decB; rw [if_neg hnf]⟩)
                have HBL := Lib.hid ((HI.out.bel.setCell (p := ⟨w.heap.size, 0, none⟩) (Nat.le_refl _) (.int .i64 4)).setCell (p := ⟨w.heap.size, 1, none⟩) (Nat.le_refl _) (.int .i64 ((s.length : Int) - 1)))
                have t1 : ((x : Int) == 0) = false := by simpa using hx0
                have hpos : 0 < s.length := by omega
                go_wp2_with fail
                refine (HNM.out _).mono ?_; rintro e w1 ⟨rfl, rfl⟩
                have hxi := HXI.out
                have hm8 := HM8.out
                go_wp2_with fail
                obtain ⟨m0, m1⟩ := res_set (.int .i64 4) (.int .i64 ((s.length : Int) - 1)) r0 r1
                have eA : ((s.length - 1 : Nat) : Int) = (s.length : Int) - 1 := by omega
                exact bodyPost_ret (v := .tuple #[.slice none 0 0, .agg #[.int .i64 4, .int .i64 ((s.length : Int) - 1)]]) (by simp [results, Try.results9, go_sem, m0, m1]) rfl (RDePost.of (A := s.length - 1) (by rw [eA]) HF.out.1 HF.out.2.1 (by rw [HF.out.2.2]; exact sl_nil _ _ _) HBL.out)
          · obtain rfl : i = 6 * s.length := by omega
            have h6l : IntKind.i64.wrap (6 * (s.length : Int)) = 6 * (s.length : Int) := IntWalk.i64_in _ (by omega)
            obtain ⟨r0, r1, r2, r3⟩ := HI.out.cells
            have HF := Lib.hid (show decE s = 0 ∧ decA s = 0 ∧ decB s = decN s m from by
              have hr : rst s s.length = 0 := rest_zero s H4.out fun t h1 h2 => HI.out.zer t (by rw [← HM.out]; exact h1) h2
              have hf : fineB s := ⟨HBK.out, H4.out, hr⟩
              refine ⟨by unfold decE; rw [if_pos hf], by unfold decA; rw [if_neg (by rw [HBK.out]; omega), if_neg H4.out, if_neg (by omega)], by unfold decB; rw [if_pos hf, HM.out]⟩)
            have HBL := Lib.hid ((HI.out.bel.setCell (p := ⟨w.heap.size, 0, none⟩) (Nat.le_refl _) (.int .i64 0)).setCell (p := ⟨w.heap.size, 1, none⟩) (Nat.le_refl _) (.int .i64 0))
            have HSL : Hid (Sl ((wr.setCell ⟨w.heap.size, 0, none⟩ (.int .i64 0)).setCell ⟨w.heap.size, 1, none⟩ (.int .i64 0)) w.heap.size ((wr.setCell ⟨w.heap.size, 0, none⟩ (.int .i64 0)).setCell ⟨w.heap.size, 1, none⟩ (.int .i64 0)).heap.size (.slice (some ⟨w.heap.size + 1, 0, none⟩) m m) (iz (decN s m))) := Lib.hid (by
              have he := fil_end s HBK.out
              rw [HM.out] at he
              have hrow := HI.out.row
              rw [he] at hrow
              have hlen : (iz (decN s m)).length = m := by simp
              have hown : Own wr (w.heap.size + 1) (.slice (some ⟨w.heap.size + 1, 0, none⟩) m m) (iz (decN s m)) := .inr ⟨by rw [hlen], hrow⟩
              refine ((hown.set (p := ⟨w.heap.size, 0, none⟩) (by simp) (.int .i64 0)).set (p := ⟨w.heap.size, 1, none⟩) (by simp) (.int .i64 0)).sl.wide (by omega) ?_
              simp [World.setCell]; omega)
            clear hlt hi
            go_wp2_with fail
            obtain ⟨m0, m1⟩ := res_set (.int .i64 0) (.int .i64 0) r0 r1
            exact bodyPost_ret (v := .tuple #[.slice (some ⟨w.heap.size + 1, 0, none⟩) m m, .agg #[.int .i64 0, .int .i64 0]]) (by simp [results, Try.results9, go_sem, m0, m1]) rfl (RDePost.of rfl HF.out.1 HF.out.2.1 (by rw [HF.out.2.2]; exact HSL.out) HBL.out)
end Go.Proofs.Ytckmjpnkjnihlaa
