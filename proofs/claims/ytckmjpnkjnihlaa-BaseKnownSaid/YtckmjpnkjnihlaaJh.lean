/-
  Decode, the program's: the walk.
-/
import Derived.Test.YtckmjpnkjnihlaaJg
namespace Go.Proofs.Ytckmjpnkjnihlaa
open Go.RowKit Go.Shelf
set_option linter.unusedVariables false
set_option maxRecDepth 100000

theorem rst1 (s : List UInt8) (q : Nat) : rst s (4 * q + 1) = vn s (4 * q) := by unfold rst; rw [if_neg (by omega), if_pos (by omega), Nat.add_sub_cancel]
theorem rst2 (s : List UInt8) (q : Nat) : rst s (4 * q + 2) = vn s (4 * q + 1) % 16 := by unfold rst; rw [if_neg (by omega), if_neg (by omega), if_pos (by omega), show 4 * q + 2 - 1 = 4 * q + 1 by omega]
theorem rst3 (s : List UInt8) (q : Nat) : rst s (4 * q + 3) = vn s (4 * q + 2) % 4 := by unfold rst; rw [if_neg (by omega), if_neg (by omega), if_neg (by omega), show 4 * q + 3 - 1 = 4 * q + 2 by omega]
theorem rst0 (s : List UInt8) (q : Nat) : rst s (4 * q) = 0 := by unfold rst; rw [if_pos (by omega)]

theorem rst_lt (s : List UInt8) (k : Nat) (h : k ≤ bad s) : rst s k < 64 := by
  obtain ⟨q, rfl | rfl | rfl | rfl⟩ := four k
  · rw [rst0]; omega
  · rw [rst1]; exact bad_vn s _ (by omega)
  · rw [rst2]; omega
  · rw [rst3]; omega

/-- A letter behind which no byte is whole. -/
theorem dec_no (s : List UInt8) (k : Nat) (hk : k < s.length) (h4 : k % 4 = 0) : rst s k * 64 + nm s[k] = rst s (k + 1) ∧ decN s (6 * (k + 1) / 8) = decN s (6 * k / 8) ∧ 6 * k % 8 = 0 ∧ 6 * (k + 1) % 8 = 6 := by
  obtain ⟨q, rfl⟩ : ∃ q, k = 4 * q := ⟨k / 4, by omega⟩
  rw [rst0, rst1, vn_at s _ hk, show 6 * (4 * q + 1) / 8 = 3 * q by omega, show 6 * (4 * q) / 8 = 3 * q by omega]
  exact ⟨by omega, rfl, by omega, by omega⟩

/-- A letter with which a byte is whole. -/
theorem dec_yes (s : List UInt8) (k : Nat) (hk : k < s.length) (hb : k < bad s) (h4 : ¬ k % 4 = 0) :
    ∃ y, y < 256 ∧ decN s (6 * (k + 1) / 8) = decN s (6 * k / 8) ++ [UInt8.ofNat y] ∧ ∀ (w1 : World) (g : Nat), Cy w1 g (rst s k * 64 + nm s[k]) (6 * k % 8 + 6) →
      Calls Try.prog 23 #[.pointer (some ⟨g, 0, none⟩), .int .u64 8] w1 (CyPost w1 g (.tuple #[.int .u64 (y : Nat), .bool true]) (rst s (k + 1)) (6 * (k + 1) % 8)) := by
  have hx := bad_fine s k hb hk
  obtain ⟨q, rfl | rfl | rfl | rfl⟩ := four k
  · omega
  · have hv := bad_vn s (4 * q) (by omega)
    have e : bt s (3 * q) = (vn s (4 * q) * 64 + nm s[4 * q + 1]) / 16 := by rw [bt0, vn_at s _ hk]; omega
    refine ⟨(vn s (4 * q) * 64 + nm s[4 * q + 1]) / 16, by omega, ?_, fun w1 g h => ?_⟩
    · rw [show 6 * (4 * q + 1 + 1) / 8 = 3 * q + 1 by omega, show 6 * (4 * q + 1) / 8 = 3 * q by omega, decN_succ, e]
    · rw [rst1, show 6 * (4 * q + 1) % 8 + 6 = 12 by omega] at h
      rw [show 4 * q + 1 + 1 = 4 * q + 2 by omega, rst2, vn_at s _ hk, show 6 * (4 * q + 2) % 8 = 4 by omega, show nm s[4 * q + 1] % 16 = (vn s (4 * q) * 64 + nm s[4 * q + 1]) % 16 by omega]
      exact take8_yes12 h (by omega)
  · have e : bt s (3 * q + 1) = (vn s (4 * q + 1) % 16 * 64 + nm s[4 * q + 2]) / 4 := by rw [bt1, vn_at s _ hk]; omega
    refine ⟨(vn s (4 * q + 1) % 16 * 64 + nm s[4 * q + 2]) / 4, by omega, ?_, fun w1 g h => ?_⟩
    · rw [show 6 * (4 * q + 2 + 1) / 8 = 3 * q + 1 + 1 by omega, show 6 * (4 * q + 2) / 8 = 3 * q + 1 by omega, decN_succ, e]
    · rw [rst2, show 6 * (4 * q + 2) % 8 + 6 = 10 by omega] at h
      rw [show 4 * q + 2 + 1 = 4 * q + 3 by omega, rst3, vn_at s _ hk, show 6 * (4 * q + 3) % 8 = 2 by omega, show nm s[4 * q + 2] % 4 = (vn s (4 * q + 1) % 16 * 64 + nm s[4 * q + 2]) % 4 by omega]
      exact take8_yes10 h (by omega)
  · have e : bt s (3 * q + 2) = vn s (4 * q + 2) % 4 * 64 + nm s[4 * q + 3] := by rw [bt2, vn_at s _ hk]
    refine ⟨vn s (4 * q + 2) % 4 * 64 + nm s[4 * q + 3], by omega, ?_, fun w1 g h => ?_⟩
    · rw [show 6 * (4 * q + 3 + 1) / 8 = 3 * q + 2 + 1 by omega, show 6 * (4 * q + 3) / 8 = 3 * q + 2 by omega, decN_succ, e]
    · rw [rst3, show 6 * (4 * q + 3) % 8 + 6 = 8 by omega] at h
      rw [show 4 * q + 3 + 1 = 4 * (q + 1) by omega, rst0, show 6 * (4 * (q + 1)) % 8 = 0 by omega]
      exact take8_yes8 h (by omega)

/-- What the array tells of a letter. -/
theorem ix_of (c : UInt8) : ix 64 c.toNat = if nm c < 64 then nm c + 1 else 0 := by unfold ix; rw [show UInt8.ofNat c.toNat = c by simp]

theorem store_arr (wx : World) : (storeCells ⟨wx.heap.size, 0, none⟩ (arr 64).toList).run Try.prog (wx.alloc (.cells (arr 0) 42)) = .ok () ((wx.alloc (.cells (arr 0) 42)).setRow wx.heap.size (arr 64)) := by
  have := run_storeCells_from (P := Try.prog) wx.heap.size 42 (arr 64).toList 0 (arr 0) (wx.alloc (.cells (arr 0) 42)) (heap_alloc_new wx _) (by simp [arr_size]) (fun v hv => (Array.all_eq_true_iff_forall_mem.1 (arr_one 64)) v (by simpa using hv))
  simpa using this

theorem dei_first {w w1 : World} {s : List UInt8} {m : Nat} (hm : m ≤ 1000000)
    (hb : Below (w.heap.size + 1 + 1 + 1) (((w.alloc (.cells #[.int .i64 0, .int .i64 0] 26)).alloc (.cells #[.int .u64 0, .int .u64 0] 41)).alloc (.cells (List.replicate m (Value.int .u8 0)).toArray 5)) w1) :
    DeI w ((w1.alloc (.cells (arr 0) 42)).setRow w1.heap.size (arr 64)) w1.heap.size (.slice (some ⟨w.heap.size + 1 + 1, 0, none⟩) 0 m) s 0 0 := by
  have hs := hb.size
  simp only [World.size_alloc] at hs
  have keep : ∀ k, k < w.heap.size + 1 + 1 + 1 → ((w1.alloc (.cells (arr 0) 42)).setRow w1.heap.size (arr 64)).heap[k]? = (((w.alloc (.cells #[.int .i64 0, .int .i64 0] 26)).alloc (.cells #[.int .u64 0, .int .u64 0] 41)).alloc (.cells (List.replicate m (Value.int .u8 0)).toArray 5)).heap[k]? := fun k hk =>
    (setRow_other _ _ k _ (by omega)).trans ((Lib.alloc_old _ _ k (by omega)).trans (hb.block k hk))
  refine ⟨?_, ?_, ?_, setRow_heap _ _ _ _ _ _ (heap_alloc_new w1 _), ?_, by omega, Nat.zero_le _⟩
  · exact (keep _ (by omega)).trans ((Lib.alloc_old _ _ _ (by simp; omega)).trans ((Lib.alloc_old _ _ _ (by simp)).trans (heap_alloc_new w _)))
  · unfold Cy; rw [show rst s 0 = 0 from rfl]
    exact (keep _ (by omega)).trans ((Lib.alloc_old _ _ _ (by simp)).trans (two_alloc w _ _))
  · refine .inr ⟨w.heap.size + 1 + 1, m, (0, 0), rfl, by omega, by simp, by unfold maxLen; omega, .inl rfl, ?_⟩
    refine (keep _ (by omega)).trans ?_
    have := heap_alloc_new ((w.alloc (.cells #[.int .i64 0, .int .i64 0] 26)).alloc (.cells #[.int .u64 0, .int .u64 0] 41)) (.cells (List.replicate m (Value.int .u8 0)).toArray 5)
    simpa [rowB, ub, decN] using this
  · have h1 : Below w.heap.size w w1 := ((((Below.refl _ _).alloc (Nat.le_refl _) _).alloc (by simp) _).alloc (by simp; omega) _).trans (hb.mono (by omega))
    exact (h1.alloc (by omega) _).trans ⟨rfl, rfl, rfl, by simp, fun j hj => setRow_other _ _ j _ (by omega)⟩

set_option maxHeartbeats 2000000 in
theorem decode_any (s : List UInt8) (hl : s.length ≤ 900000) (w : World) : Calls Try.prog 8 #[.string (bs s)] w (DePost w s) := by
  have hS := fun w => size_any (s.length : Int) (by omega) (by omega) w
  have hN : ∃ m : Nat, szN s.length = m ∧ m ≤ 1000000 := by
    refine ⟨(szN s.length).toNat, ?_, ?_⟩
    all_goals
      unfold szN
      split <;> omega
  obtain ⟨m, hm, hm1⟩ := hN
  obtain ⟨B, hB⟩ : ∃ B, szB (s.length : Int) = B := ⟨_, rfl⟩
  simp only [hm, hB] at hS
  have hB' : B = true ↔ ¬ s.length % 4 = 1 := by
    rw [← hB]; unfold szB
    simp
    omega
  have hm1' := hm1
  have HS := Lib.hid hS
  have HBB := Lib.hid hB'
  clear hS hm hB hB'
  have hmk := makeC m hm1
  have HX := Lib.hid (fun w => numbers_any w)
  go_enter Try.func8, Try.ntmps8
  go_wp2_with fail
  refine (HS.out _).mono ?_; rintro e w1 ⟨rfl, rfl⟩
  go_wp2_with fail
  refine (HX.out _).mono ?_; rintro e w1 ⟨rfl, hb⟩
  simp only [World.size_alloc] at hb
  have hI := dei_first (s := s) hm1' hb
  clear hb
  obtain ⟨Z, hZ⟩ : ∃ Z, arr 0 = Z := ⟨_, rfl⟩
  obtain ⟨Y, hY⟩ : ∃ Y, arr 64 = Y := ⟨_, rfl⟩
  have hz := zero42
  have hst := store_arr w1
  have hy := arr_size 64
  rw [hZ] at hz hst hI
  rw [hY] at hst hI hy ⊢
  have HI0 := Lib.hid hI
  clear hI
  go_wp2_with fail
  obtain ⟨M, hM⟩ : ∃ M, w1.heap.size = M := ⟨_, rfl⟩
  obtain ⟨W1, hW1⟩ : ∃ W1, (w1.alloc (.cells Z 42)).setRow w1.heap.size Y = W1 := ⟨_, rfl⟩
  rw [hW1] at HI0 ⊢
  rw [hM] at HI0 ⊢
  clear hst hz hW1 hM HS HX hmk hm1 hm1'
  go_loopg [7, 24] s.length (fun g v7 v24 wr => ∃ k n : Nat, k + g = s.length ∧ v24 = .int .i64 k ∧ n = 6 * k % 8 ∧ Hid (DeI w wr M v7 s k n))
  case atStart => exact ⟨0, 0, by omega, rfl, rfl, HI0⟩
  case round =>
    clear HI0 W1
    obtain ⟨k, n, hk, rfl, hn, HI⟩ := hrel
    by_cases hlt : k < s.length
    · have hix := ix_run s k hlt
      obtain ⟨q0, q1⟩ := HI.out.ar.cell s[k].toNat s[k].toNat_lt
      rw [ix_of] at q0
      have hc8 : s[k].toNat < 256 := s[k].toNat_lt
      by_cases hbad : nm s[k] < 64
      · rw [if_pos hbad] at q0
        obtain ⟨x, hx⟩ : ∃ x, nm s[k] = x := ⟨_, rfl⟩
        obtain ⟨c, hc⟩ : ∃ c, s[k].toNat = c := ⟨_, rfl⟩
        rw [hx] at q0 hbad
        rw [hc] at q0 q1 hix hc8
        have hb1 : k < bad s := by
          have h1 := HI.out.fine
          rcases Nat.lt_or_ge k (bad s) with h | h
          · exact h
          · have h2 := bad_is s (by omega)
            have : bad s = k := by omega
            simp only [this] at h2
            omega
        have hr := rst_lt s k HI.out.fine
        have HP := Lib.hid (put6 x HI.out.cy (by omega) (by omega) hbad)
        have hw : IntKind.u64.wrap ((x : Int) + 1 - 1) = x := by rw [show (x : Int) + 1 - 1 = x by omega]; exact IntWalk.u64_in _ (by omega)
        have hw2 : IntKind.u64.wrap (x : Int) = x := IntWalk.u64_in _ (by omega)
        by_cases h4 : k % 4 = 0
        · obtain ⟨e1, e2, e3, e4⟩ := dec_no s k hlt h4
          obtain rfl : n = 0 := by omega
          rw [hx] at e1
          rw [e1] at HP
          have HN := Lib.hid (fun (w2 w3 : World) (h2 : CyPost wr (w.heap.size + 1) (.tuple #[]) (rst s (k + 1)) (0 + 6) (.returned (.tuple #[])) w2) (h3 : CyPost w2 (w.heap.size + 1) (.tuple #[.int .u64 0, .bool false]) (rst s (k + 1)) 6 (.returned (.tuple #[.int .u64 0, .bool false])) w3) =>
            show DeI w w3 M u7 s (k + 1) 6 from by
              obtain ⟨g1, g2, g3, g4⟩ := HI.out.bits (h2.2.2.trans h3.2.2) h3.2.1
              exact ⟨g1, h3.2.1, by rw [e2]; exact g2, g3, g4, HI.out.lo, hb1⟩)
          clear e1 e2 e3 hn HI hb1 hc hx hr
          go_wp2_with fail
          refine HP.out.mono ?_; rintro e w2 ⟨rfl, hq⟩
          have HT := Lib.hid (take8_no6 hq.1)
          have HN2 := Lib.hid (fun w3 h3 => HN.out w2 w3 ⟨rfl, hq⟩ h3)
          clear hq
          go_wp2_with fail
          refine HT.out.mono ?_; rintro e w3 ⟨rfl, hq⟩
          have HI2 := Lib.hid (HN2.out w3 ⟨rfl, hq⟩)
          clear hq
          go_wp2_with fail
          go_roundg (s.length - (k + 1))
          case measure => omega
          case rel => exact ⟨k + 1, 6, by omega, by go_num, e4.symm, HI2⟩
        · obtain ⟨y, hy8, e1, HTY⟩ := dec_yes s k hlt hb1 h4
          rw [hx, ← hn] at HTY
          have hwy : IntKind.u8.wrap (y : Int) = y := by rw [IntKind.wrap_u8']; omega
          have hyb : (UInt8.ofNat y).toNat = y := by rw [UInt8.toNat_ofNat', Nat.mod_eq_of_lt (by omega)]
          obtain ⟨n', hn'⟩ : ∃ n', 6 * (k + 1) % 8 = n' := ⟨_, rfl⟩
          rw [hn'] at HTY
          have HTY := Lib.hid HTY
          have HA := Lib.hid (fun (w2 w3 : World) (h2 : CyPost wr (w.heap.size + 1) (.tuple #[]) (rst s k * 64 + x) (n + 6) (.returned (.tuple #[])) w2) (h3 : CyPost w2 (w.heap.size + 1) (.tuple #[.int .u64 y, .bool true]) (rst s (k + 1)) n' (.returned (.tuple #[.int .u64 y, .bool true])) w3) =>
            show ∃ v4 w4, (Builtin.append_ #[22, 22] 22 #[u7, .slice (some ⟨w3.heap.size, 0, none⟩) 1 1]).run Try.prog (w3.alloc (.cells #[.int .u8 y] 5)) = .ok v4 w4 ∧ DeI w w4 M v4 s (k + 1) n' from by
              obtain ⟨g1, g2, g3, g4⟩ := HI.out.bits (h2.2.2.trans h3.2.2) h3.2.1
              have hlen : (decN s (6 * k / 8)).length ≤ 900000 := by rw [decN_len]; omega
              have ha3 : Aside (fun _ => False) w3 (w3.alloc (.cells #[.int .u8 y] 5)) := Aside.alloc _ _
              have hlo := HI.out.lo
              have hsz : M < w3.heap.size := (Array.getElem?_eq_some_iff.mp g3).1
              have hap : ∀ b, u7.ownBlock = some b → b ≠ M := HI.out.apart
              have hsl : Sl (w3.alloc (.cells #[.int .u8 y] 5)) w3.heap.size (w3.heap.size + 1) (.slice (some ⟨w3.heap.size, 0, none⟩) 1 1) (iz [UInt8.ofNat y]) := by
                have := sl_one w3 (y : Int)
                rw [show iz [UInt8.ofNat y] = [(y : Int)] by simp only [iz, List.map_cons, List.map_nil, hyb]]
                exact this
              obtain ⟨v4, w4, h5, h6, h7, _⟩ := run_appB (w := w3.alloc (.cells #[.int .u8 y] 5)) (w.heap.size + 2) u7 (.slice (some ⟨w3.heap.size, 0, none⟩) 1 1) (decN s (6 * k / 8)) [UInt8.ofNat y] (g2.aside ha3 fun _ _ h => h) hsl (by simp) (by simp; omega) (by simp; omega)
              have old : ∀ b, b < w3.heap.size → u7.ownBlock ≠ some b → w4.heap[b]? = w3.heap[b]? := fun b hb hne => (h7.block b (by simp; omega) (Ne.symm hne)).trans (Lib.alloc_old _ _ b hb)
              have hlow : ∀ b, b < w.heap.size + 2 → u7.ownBlock ≠ some b := fun b hb e => by have := (HI.out.own.lt b e).1; omega
              refine ⟨v4, w4, h5, (old _ (by omega) (hlow _ (by omega))).trans g1, (old _ (by omega) (hlow _ (by omega))).trans h3.2.1, by rw [e1]; exact h6, (old _ hsz fun e => hap M e rfl).trans g3, ?_, hlo, hb1⟩
              exact (g4.alloc (by omega) _).grown h7 (by simp; omega) fun b hb => by have := (HI.out.own.lt b hb).1; omega)
          clear hn hb1 hc hx hr
          go_wp2_with fail
          refine HP.out.mono ?_; rintro e w2 ⟨rfl, hq⟩
          have HT := Lib.hid (HTY.out _ _ hq.1)
          have HN2 := Lib.hid (fun w3 h3 => HA.out w2 w3 ⟨rfl, hq⟩ h3)
          clear hq
          go_wp2_with fail
          refine HT.out.mono ?_; rintro e w3 ⟨rfl, hq⟩
          obtain ⟨v4, w4, hap, hd⟩ := HN2.out w3 ⟨rfl, hq⟩
          have HR := Lib.hid hap
          have HI2 := Lib.hid hd
          clear hq hap hd
          go_wp2_with (at_builtin; refine wpList_append_run (.tmp 44) (.tmp 47) 22 22 rfl rfl rfl rfl HR.out ?_)
          go_roundg (s.length - (k + 1))
          case measure => omega
          case rel => exact ⟨k + 1, n', by omega, by go_num, hn'.symm, HI2⟩
      · rw [if_neg hbad] at q0
        have hbk : bad s = k := by
          have h1 := HI.out.fine
          rcases Nat.lt_or_ge k (bad s) with h | h
          · exact absurd (bad_fine s k h hlt) hbad
          · omega
        obtain ⟨c, hc⟩ : ∃ c, s[k].toNat = c := ⟨_, rfl⟩
        rw [hc] at q0 q1 hix hc8
        obtain ⟨r0, r1, r2, r3⟩ := HI.out.cells
        have HF := Lib.hid (show decE s = 4 ∧ decA s = k ∧ decB s = [] from by
          have hnf : ¬ fineB s := fun h => by have := h.1; omega
          refine ⟨by unfold decE; rw [if_neg hnf], by unfold decA; rw [if_pos (by omega), hbk], by unfold decB; rw [if_neg hnf]⟩)
        have HO := Lib.hid (HI.out.out (.int .i64 4) (.int .i64 k)).1
        clear hbk hbad hn HI hc
        go_wp2_with fail
        obtain ⟨m0, m1⟩ := res_set (.int .i64 4) (.int .i64 k) r0 r1
        exact bodyPost_ret (v := .tuple #[.slice none 0 0, .agg #[.int .i64 4, .int .i64 k]]) (by simp [results, Try.results8, go_sem, m0, m1]) rfl (DePost.of rfl HF.out.1 HF.out.2.1 (by rw [HF.out.2.2]; exact OwnB.nil _ _) HO.out)
    · obtain rfl : k = s.length := by omega
      have hbk : bad s = s.length := by have := HI.out.fine; have := bad_le s; omega
      obtain ⟨r0, r1, r2, r3⟩ := HI.out.cells
      obtain ⟨c0, c1, c2⟩ := HI.out.cy.cells
      by_cases h4 : s.length % 4 = 1
      · have hB : B = false := by
          have := HBB.out
          cases B
          · rfl
          · simp [h4] at this
        subst hB
        have HF := Lib.hid (show decE s = 4 ∧ decA s = s.length ∧ decB s = [] from by
          have hnf : ¬ fineB s := fun h => h.2.1 h4
          refine ⟨by unfold decE; rw [if_neg hnf], by unfold decA; rw [if_neg (by omega), if_pos h4], by unfold decB; rw [if_neg hnf]⟩)
        have HO := Lib.hid (HI.out.out (.int .i64 4) (.int .i64 s.length)).1
        clear hbk hn HI h4 c0 c1 c2
        go_wp2_with fail
        obtain ⟨m0, m1⟩ := res_set (.int .i64 4) (.int .i64 s.length) r0 r1
        exact bodyPost_ret (v := .tuple #[.slice none 0 0, .agg #[.int .i64 4, .int .i64 s.length]]) (by simp [results, Try.results8, go_sem, m0, m1]) rfl (DePost.of rfl HF.out.1 HF.out.2.1 (by rw [HF.out.2.2]; exact OwnB.nil _ _) HO.out)
      · have hB : B = true := HBB.out.2 h4
        subst hB
        by_cases hr0 : rst s s.length = 0
        · have HF := Lib.hid (show decE s = 0 ∧ decA s = 0 ∧ decB s = decN s (6 * s.length / 8) from by
            have hf : fineB s := ⟨hbk, h4, hr0⟩
            refine ⟨by unfold decE; rw [if_pos hf], by unfold decA; rw [if_neg (by omega), if_neg h4, if_neg (by omega)], by unfold decB; rw [if_pos hf]⟩)
          have HO := Lib.hid (HI.out.out (.int .i64 0) (.int .i64 0))
          rw [hr0] at c0
          clear hbk hn HI h4 c1 hr0
          go_wp2_with fail
          obtain ⟨m0, m1⟩ := res_set (.int .i64 0) (.int .i64 0) r0 r1
          exact bodyPost_ret (v := .tuple #[u7, .agg #[.int .i64 0, .int .i64 0]]) (by simp [results, Try.results8, go_sem, m0, m1]) rfl (DePost.of rfl HF.out.1 HF.out.2.1 (by rw [HF.out.2.2]; exact HO.out.2) HO.out.1)
        · have hpos : 0 < s.length := by
            rcases Nat.eq_zero_or_pos s.length with h | h
            · rw [h] at hr0; exact absurd rfl hr0
            · exact h
          have HF := Lib.hid (show decE s = 4 ∧ decA s = s.length - 1 ∧ decB s = [] from by
            have hnf : ¬ fineB s := fun h => hr0 h.2.2
            refine ⟨by unfold decE; rw [if_neg hnf], by unfold decA; rw [if_neg (by omega), if_neg h4, if_pos hr0], by unfold decB; rw [if_neg hnf]⟩)
          have HO := Lib.hid (HI.out.out (.int .i64 4) (.int .i64 ((s.length : Int) - 1))).1
          obtain ⟨r, hr⟩ : ∃ r, rst s s.length = r := ⟨_, rfl⟩
          rw [hr] at c0 hr0
          have t1 : ((r : Int) == 0) = false := by simpa using hr0
          have t2 : (!((r : Int) == 0)) = true := by rw [t1]; rfl
          clear hbk hn HI h4 c1 hr hr0
          go_wp2_with fail
          obtain ⟨m0, m1⟩ := res_set (.int .i64 4) (.int .i64 ((s.length : Int) - 1)) r0 r1
          have eA : ((s.length - 1 : Nat) : Int) = (s.length : Int) - 1 := by omega
          exact bodyPost_ret (v := .tuple #[.slice none 0 0, .agg #[.int .i64 4, .int .i64 ((s.length : Int) - 1)]]) (by simp [results, Try.results8, go_sem, m0, m1]) rfl (DePost.of (A := s.length - 1) (by rw [eA]) HF.out.1 HF.out.2.1 (by rw [HF.out.2.2]; exact OwnB.nil _ _) HO.out)
end Go.Proofs.Ytckmjpnkjnihlaa
