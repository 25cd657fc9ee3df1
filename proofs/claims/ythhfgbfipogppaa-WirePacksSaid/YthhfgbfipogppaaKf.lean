/-
  The example that each law asks first; the statement about reading.
-/
import Derived.Test.YthhfgbfipogppaaKe
import Derived.Test.YthhfgbfipogppaaBKept
namespace Go.Proofs.Ythhfgbfipogppaa
open Go.RowKit Go.Shelf
set_option linter.unusedVariables false

theorem rd_awake : rda [1, 97, 0, 1, 98, 192, 0] 3 = ([1, 98, 1, 97, 0], 7, 0, 0) := by
  simp [rda, rd, ptr]

theorem sl_lit_u (w : World) (l : List UInt8) : Sl (w.alloc (.cells ((iz l).map (Value.int .u8)).toArray 5)) w.heap.size (w.heap.size + 1) (.slice (some ⟨w.heap.size, 0, none⟩) l.length l.length) (iz l) := by
  have := sl_lit w (iz l)
  rw [iz_len] at this
  exact this

theorem tell_awake (w : World) : Calls Try.prog 11 #[.slice (some ⟨w.heap.size, 0, none⟩) 7 7, .int .i64 3] (w.alloc (.cells #[.int .u8 1, .int .u8 97, .int .u8 0, .int .u8 1, .int .u8 98, .int .u8 192, .int .u8 0] 5)) (Tells (w.alloc (.cells #[.int .u8 1, .int .u8 97, .int .u8 0, .int .u8 1, .int .u8 98, .int .u8 192, .int .u8 0] 5)) (.tuple #[.string (bs [1, 98, 1, 97, 0]), .int .i64 7, .agg #[.int .i64 0, .int .i64 0]])) := by
  have := read_any (sl_lit_u w [1, 97, 0, 1, 98, 192, 0]) (by simp) (by simp) 3
  rw [rd_awake] at this
  exact this

set_option maxHeartbeats 1000000 in
theorem awake_any (w : World) : Calls Try.prog 14 #[] w (Tells w (.bool true)) := by
  have HT := Lib.hid (tell_awake w)
  have hb0 := Lib.hid ((Below.refl w.heap.size w).alloc (Nat.le_refl _) (.cells #[.int .u8 1, .int .u8 97, .int .u8 0, .int .u8 1, .int .u8 98, .int .u8 192, .int .u8 0] 5))
  have ht : ((bs [1, 98, 1, 97, 0]).toList == [1, 98, 1, 97, 0]) = true := by rw [bs_toList]; rfl
  go_enter Try.func14, Try.ntmps14
  go_wp2_with fail
  refine HT.out.mono ?_; rintro e w1 ⟨rfl, hb⟩
  have HB := Lib.hid (bel_call hb0.out hb)
  clear hb
  go_wp2_with fail
  go_ret
  exact ⟨rfl, HB.out.alloc HB.out.size _⟩

set_option maxRecDepth 100000 in
set_option maxHeartbeats 1000000 in
theorem reads_core {w : World} {lo hi : Nat} {v : Value} {b : List UInt8} (h : Sl w lo hi v (iz b)) (hhi : hi ≤ w.heap.size) (hl : b.length ≤ 70000) (a : Int) :
    Calls Try.prog 3 #[v, .int .i64 a] w (Tells w (.bool true)) := by
  have HS := Lib.hid h
  have HAW := Lib.hid awake_any
  have HL := Lib.hid (lent_any h (by rw [iz_len]; omega))
  obtain ⟨ad, c, rfl, _⟩ := h
  simp only [iz_len] at HS HL
  rw [iz_len]
  have HR := Lib.hid (fun (wx : World) (hb : Below w.heap.size w wx) g (hg : LentAt wx g (iz b)) => read_any hg.in_ (Nat.succ_le_of_lt hg.lt) (by omega) a)
  have HRR := Lib.hid (fun (wx : World) (hb : Below w.heap.size w wx) => rread_any (HS.out.below hb hhi) (Nat.le_trans hhi hb.size) (by omega) a)
  have HK := Lib.hid (fun (wx : World) (hb : Below w.heap.size w wx) g (hg : LentAt wx g (iz b)) => kept_any (HS.out.below hb hhi) (by rw [iz_len]; omega) hg hg.lt)
  simp only [iz_len] at HR HK
  obtain ⟨⟨n', x', e', a'⟩, hr⟩ : ∃ r, rda b a = r := ⟨_, rfl⟩
  rw [hr] at HR HRR
  simp only [gotV] at HR HRR
  clear hr HS
  have t0 : ¬ 70000 < b.length := by omega
  have ht : ((bs n').toList == (bs n').toList) = true := by simp
  go_enter Try.func3, Try.ntmps3
  go_wp2_with fail
  refine HL.out.mono ?_; rintro e w1 ⟨rfl, hb, hg⟩
  have HG1 := Lib.hid hg
  have HB1 := Lib.hid hb
  clear hb hg
  go_wp2_with fail
  refine (HR.out _ HB1.out _ HG1.out).mono ?_; rintro e w2 ⟨rfl, hb⟩
  have HB2 := Lib.hid (bel_alloc (bel_call HB1.out hb) (.cells #[.int .i64 e', .int .i64 a'] 26))
  have HG2 := Lib.hid ((HG1.out.later' hb).later' ((Below.refl _ _).alloc (Nat.le_refl _) (.cells #[.int .i64 e', .int .i64 a'] 26)))
  clear hb
  go_wp2_with fail
  refine (HRR.out _ HB2.out).mono ?_; rintro e w3 ⟨rfl, hb⟩
  have HB3 := Lib.hid (bel_alloc (bel_call HB2.out hb) (.cells #[.int .i64 e', .int .i64 a'] 26))
  have HG3 := Lib.hid ((HG2.out.later' hb).later' ((Below.refl _ _).alloc (Nat.le_refl _) (.cells #[.int .i64 e', .int .i64 a'] 26)))
  have c0 : w3.cell? ⟨w2.heap.size, 0, none⟩ = some (.int .i64 e') := (hb.cell (p := ⟨_, _, _⟩) (by simp)).trans (by simp [go_sem])
  have c1 : w3.cell? ⟨w2.heap.size, 1, none⟩ = some (.int .i64 a') := (hb.cell (p := ⟨_, _, _⟩) (by simp)).trans (by simp [go_sem])
  have hlt : w2.heap.size < w3.heap.size := below_lt hb
  clear hb
  go_wp2_with fail
  refine (HK.out _ HB3.out _ HG3.out).mono ?_; rintro e w4 ⟨rfl, hb⟩
  have HB4 := Lib.hid (bel_call HB3.out hb)
  clear hb
  go_wp2_with fail
  refine (HAW.out _).mono ?_; rintro e w5 ⟨rfl, hb⟩
  have HB5 := Lib.hid (bel_call HB4.out hb)
  clear hb
  go_wp2_with fail
  go_ret
  exact ⟨rfl, HB5.out⟩

set_option maxHeartbeats 400000 in
theorem reads_any {w : World} {lo hi : Nat} {v : Value} {b : List UInt8} (h : Sl w lo hi v (iz b)) (hhi : hi ≤ w.heap.size) (a : Int) :
    Calls Try.prog 3 #[v, .int .i64 a] w (Tells w (.bool true)) := by
  by_cases hl : b.length ≤ 70000
  · exact reads_core h hhi hl a
  · obtain ⟨ad, c, rfl, _⟩ := h
    rw [iz_len]
    have t0 : 70000 < b.length := by omega
    go_enter Try.func3, Try.ntmps3
    go_wp2
    go_ret
    exact ⟨rfl, Below.refl _ _⟩
end Go.Proofs.Ythhfgbfipogppaa
