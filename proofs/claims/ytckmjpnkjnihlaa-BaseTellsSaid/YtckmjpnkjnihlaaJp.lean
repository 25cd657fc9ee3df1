/-
  The statement that all is told as the document says.
-/
import Derived.Test.YtckmjpnkjnihlaaJn
import Derived.Test.YtckmjpnkjnihlaaBKept
namespace Go.Proofs.Ytckmjpnkjnihlaa
open Go.RowKit Go.Shelf
set_option linter.unusedVariables false
set_option maxRecDepth 100000

/-- A block of two numbers. -/
def Two (w : World) (g : Nat) (x y : Int) : Prop := w.cell? ⟨g, 0, none⟩ = some (.int .i64 x) ∧ w.cell? ⟨g, 1, none⟩ = some (.int .i64 y)
theorem Two.lt {w : World} {g : Nat} {x y : Int} (h : Two w g x y) : g < w.heap.size := World.block_lt_of_cell? w _ h.1
theorem Two.later {w w' : World} {g : Nat} {x y : Int} (h : Two w g x y) (hb : Below w.heap.size w w') : Two w' g x y :=
  ⟨(hb.cell (p := ⟨g, 0, none⟩) h.lt).trans h.1, (hb.cell (p := ⟨g, 1, none⟩) h.lt).trans h.2⟩
theorem Two.new (w : World) (x y : Int) : Two (w.alloc (.cells #[.int .i64 x, .int .i64 y] 26)) w.heap.size x y := ⟨by simp [go_sem], by simp [go_sem]⟩

set_option maxHeartbeats 2000000 in
theorem tells_big {w : World} (a : Option Addr) (m c : Nat) (s : List UInt8) (n : Int) (h : 5000 < m ∨ 5000 < s.length) :
    Calls Try.prog 3 #[.slice a m c, .string (bs s), .int .i64 n] w fun e w' => e = .returned (.bool true) ∧ Below w.heap.size w w' := by
  by_cases h1 : 5000 < m
  · go_enter Try.func3, Try.ntmps3
    go_wp2_with fail
    go_ret
    exact ⟨rfl, Below.refl _ _⟩
  · have h2 : 5000 < s.length := by omega
    go_enter Try.func3, Try.ntmps3
    go_wp2_with fail
    go_ret
    exact ⟨rfl, Below.refl _ _⟩

set_option maxHeartbeats 4000000 in
theorem tells_any {w : World} {lo hi : Nat} {v : Value} (b s : List UInt8) (n : Int) (h : Sl w lo hi v (iz b)) (hhi : hi ≤ w.heap.size) (hb5 : b.length ≤ 5000) (hs5 : s.length ≤ 5000) (n0 : -9223372036854775808 ≤ n) (n1 : n ≤ 9223372036854775807) :
    Calls Try.prog 3 #[v, .string (bs s), .int .i64 n] w fun e w' => e = .returned (.bool true) ∧ Below w.heap.size w w' := by
  have HX := Lib.hid h
  have HLT := Lib.hid (lent_any h (by rw [iz_len]; omega))
  have HD := Lib.hid (fun w => decode_any s (by omega) w)
  have HR := Lib.hid (fun w => rdecode_any s (by omega) w)
  have HS := Lib.hid (fun w => size_any n n0 n1 w)
  have HRS := Lib.hid (fun w => rsize_any n n0 n1 w)
  have HAW := Lib.hid awake_any
  have HHI := Lib.hid hhi
  obtain ⟨a, c, rfl, _⟩ := h
  rw [iz_len] at HX HLT ⊢
  obtain ⟨i, hi⟩ : ∃ i, szN n = i := ⟨_, rfl⟩
  obtain ⟨is, his⟩ : ∃ is, szB n = is := ⟨_, rfl⟩
  rw [hi, his] at HS HRS
  obtain ⟨E, hE⟩ : ∃ E, decE s = E := ⟨_, rfl⟩
  obtain ⟨A, hA⟩ : ∃ A, decA s = A := ⟨_, rfl⟩
  unfold DePost at HD
  unfold RDePost at HR
  rw [hE, hA] at HD HR
  unfold LentPost at HLT
  simp only [iz_len] at HLT
  clear hi his hE hA hhi n0 n1
  go_enter Try.func3, Try.ntmps3
  go_wp2_with fail
  refine HLT.out.mono ?_; rintro e w1 ⟨rfl, hb1, hL⟩
  have HB1 := Lib.hid hb1
  have HL := Lib.hid hL
  have HN1 := Lib.hid (HL.out.lt)
  clear hb1 hL
  go_wp2_with fail
  refine (HD.out _).mono ?_; rintro e w2 ⟨x, rfl, hx, hb2⟩
  have HX2 := Lib.hid hx
  have HB2 := Lib.hid hb2
  clear hx hb2
  go_wp2_with fail
  refine (HR.out _).mono ?_; rintro e w3 ⟨y, rfl, hy, hb3⟩
  simp only [World.size_alloc] at hy hb3
  have HY3 := Lib.hid hy
  have HB3 := Lib.hid hb3
  clear hy hb3
  go_wp2_with fail
  refine (HS.out _).mono ?_; rintro e w4 ⟨rfl, rfl⟩
  go_wp2_with fail
  refine (HRS.out _).mono ?_; rintro e w4 ⟨rfl, rfl⟩
  obtain ⟨w4, hw4⟩ : ∃ w4, w3.alloc (.cells #[.int .i64 E, .int .i64 A] 26) = w4 := ⟨_, rfl⟩
  have b4 : Below w3.heap.size w3 w4 := by rw [← hw4]; exact (Below.refl _ _).alloc (Nat.le_refl _) _
  have b24 : Below w2.heap.size w2 w4 := (((Below.refl _ w2).alloc (Nat.le_refl _) (.cells #[.int .i64 E, .int .i64 A] 26)).trans (HB3.out.mono (Nat.le_succ _))).trans (b4.mono (by have := HB3.out.size; simp at this; omega))
  have b14 : Below w1.heap.size w1 w4 := bel_call HB2.out b24
  have F4 := Lib.hid (show Two w4 w2.heap.size E A from ((Two.new w2 E A).later (by simpa using HB3.out)).later b4)
  have G4 := Lib.hid (show Two w4 w3.heap.size E A from by rw [← hw4]; exact Two.new w3 E A)
  have X4 := Lib.hid (HX2.out.below b24)
  have Y4 := Lib.hid ((HY3.out.below b4 (Nat.le_refl _)).wide (Nat.le_refl _) b4.size)
  have L4 := Lib.hid (HL.out.later' b14)
  have B4 := Lib.hid (HB1.out.trans (b14.mono HB1.out.size))
  rw [hw4]
  clear b4 b24 b14 hw4 HB3 HB2 HX2 HY3 HL
  have hsb := L4.out.in_
  rw [iz_len] at hsb
  have HE := encode_any b hsb (by have := L4.out.lt; omega) (by omega)
  have HRE := Lib.hid (fun w5 (hb : Below w4.heap.size w4 w5) => rencode_any b (HX.out.below (B4.out.trans (hb.mono B4.out.size)) HHI.out) (Nat.le_trans HHI.out (Nat.le_trans B4.out.size hb.size)) (by omega))
  obtain ⟨T, hT⟩ : ∃ T, bs (enc b) = T := ⟨_, rfl⟩
  rw [hT] at HE HRE
  have HE := Lib.hid HE
  clear hT hsb
  go_wp2_with fail
  refine HE.out.mono ?_; rintro e w5 ⟨rfl, hb5'⟩
  have B5 := Lib.hid hb5'
  clear hb5'
  go_wp2_with fail
  refine (HRE.out _ B5.out).mono ?_; rintro e w6 ⟨rfl, hb6⟩
  have B6 := bel_call B5.out hb6
  have HSM := Lib.hid (same_any (X4.out.below B6).sl (Y4.out.below B6 (Nat.le_refl _)))
  obtain ⟨f0, f1⟩ := F4.out.later B6
  obtain ⟨g0, g1⟩ := G4.out.later B6
  have HOV := Lib.hid (over_B (X4.out.below B6))
  have L6 := Lib.hid (L4.out.later' B6)
  have B6' := Lib.hid (B4.out.trans (B6.mono B4.out.size))
  clear B6 hb6
  go_wp2_with fail
  refine HSM.out.mono ?_; rintro e w7 ⟨rfl, rfl⟩
  go_wp2_with fail
  refine HOV.out.mono ?_; rintro e w7 ⟨rfl, ha⟩
  have B7 : Below w.heap.size w w7 := below_aside B6'.out ha fun k hk => ⟨Nat.lt_of_lt_of_le hk B6'.out.size, by have := HN1.out; omega⟩
  have L7 : LentAt w7 w.heap.size (iz b) := (ha.block _ L6.out.lt (by have := HN1.out; omega)).trans L6.out
  have HK := kept_any (HX.out.below B7 HHI.out) (by rw [iz_len]; omega) L7 L7.lt
  rw [iz_len] at HK
  unfold KeptPost at HK
  have HK := Lib.hid HK
  have HB7 := Lib.hid B7
  clear B7 L7 ha
  go_wp2_with fail
  refine HK.out.mono ?_; rintro e w8 ⟨rfl, hb8⟩
  have HB8 := Lib.hid (bel_call HB7.out hb8)
  clear hb8
  go_wp2_with fail
  refine (HAW.out _).mono ?_; rintro e w9 ⟨rfl, hb9⟩
  have HB9 := Lib.hid (bel_call HB8.out hb9)
  clear hb9
  go_wp2_with fail
  go_ret
  exact ⟨rfl, HB9.out⟩
end Go.Proofs.Ytckmjpnkjnihlaa
