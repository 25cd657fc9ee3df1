/-
  What the document's examples say.
-/
import Derived.Test.YtckmjpnkjnihlaaJl
namespace Go.Proofs.Ytckmjpnkjnihlaa
open Go.RowKit Go.Shelf
set_option linter.unusedVariables false
set_option maxRecDepth 100000

/-- Bytes that the call has just laid down. -/
theorem sl_laid (w : World) (l : List UInt8) {n : Nat} {cs : Array Value} (hn : l.length = n) (hc : ((iz l).map (Value.int .u8)).toArray = cs) : Sl (w.alloc (.cells cs 5)) w.heap.size (w.heap.size + 1) (.slice (some ⟨w.heap.size, 0, none⟩) n n) (iz l) := by
  subst hn; subst hc
  have : Own (w.alloc (.cells ((iz l).map (Value.int .u8)).toArray 5)) w.heap.size (.slice (some ⟨w.heap.size, 0, none⟩) l.length l.length) (iz l) := .inr ⟨by rw [iz_len], heap_alloc_new w _⟩
  exact this.sl

theorem dec_AA : decE [65, 65] = 0 ∧ decA [65, 65] = 0 ∧ decB [65, 65] = [0] := by decide
theorem dec_AB : decE [65, 66] = 4 ∧ decA [65, 66] = 1 ∧ decB [65, 66] = [] := by decide
theorem enc_ff : bs (enc [255, 255, 255]) = ⟨#[95, 95, 95, 95]⟩ := by rfl

/-- A fault that is told. -/
theorem faulty_any (s : List UInt8) (at_ : Nat) (hl : s.length ≤ 900000) (h : decE s = 4 ∧ decA s = at_ ∧ decB s = []) (w : World) :
    Calls Try.prog 20 #[.string (bs s), .int .i64 at_] w fun e w' => e = .returned (.bool true) ∧ Below w.heap.size w w' := by
  have HD := Lib.hid (decode_any s hl w)
  obtain ⟨h1, h2, h3⟩ := h
  unfold DePost at HD
  rw [h1, h2, h3] at HD
  clear h1 h2 h3
  go_enter Try.func20, Try.ntmps20
  go_wp2_with fail
  refine HD.out.mono ?_; rintro e w1 ⟨v, rfl, ho, hb⟩
  obtain ⟨a, c, rfl⟩ := ho.shape
  have HB := Lib.hid (bel_alloc hb (.cells #[.int .i64 4, .int .i64 at_] 26))
  clear ho hb
  go_wp2_with fail
  go_ret
  exact ⟨rfl, HB.out⟩

set_option maxHeartbeats 1000000 in
theorem awake_any (w : World) : Calls Try.prog 17 #[] w fun e w' => e = .returned (.bool true) ∧ Below w.heap.size w w' := by
  have HD := Lib.hid (decode_any [65, 65] (by decide) w)
  unfold DePost at HD
  rw [dec_AA.1, dec_AA.2.1, dec_AA.2.2] at HD
  go_enter Try.func17, Try.ntmps17
  go_wp2_with fail
  refine HD.out.mono ?_; rintro e w1 ⟨v, rfl, ho, hb⟩
  have HB := Lib.hid (bel_alloc (bel_alloc hb (.cells #[.int .i64 0, .int .i64 0] 26)) (.cells #[.int .u8 255, .int .u8 255, .int .u8 255] 5))
  have HO := Lib.hid ho
  have HE := encode_any [255, 255, 255] (sl_laid (w1.alloc (.cells #[.int .i64 0, .int .i64 0] 26)) [255, 255, 255] (n := 3) (cs := #[.int .u8 255, .int .u8 255, .int .u8 255]) rfl rfl) (by simp) (by decide)
  rw [enc_ff] at HE
  simp only [World.size_alloc] at HE
  have HE := Lib.hid HE
  clear hb ho
  go_wp2_with fail
  refine HE.out.mono ?_; rintro e w2 ⟨rfl, hb⟩
  have hk : w2.cell? ⟨w1.heap.size, 0, none⟩ = some (.int .i64 0) := (hb.cell (p := ⟨w1.heap.size, 0, none⟩) (by show w1.heap.size < w1.heap.size + 1 + 1; omega)).trans (by simp [go_sem])
  have hb2 := HB.out.trans (hb.mono (by have := HB.out.size; simpa using this))
  have ho2 : OwnB w2 w.heap.size v [0] := HO.out.below (((bel_alloc (bel_alloc (Below.refl _ w1) (.cells #[.int .i64 0, .int .i64 0] 26)) (.cells #[.int .u8 255, .int .u8 255, .int .u8 255] 5))).trans (hb.mono (by omega)))
  have HSM := Lib.hid (same_any (ho2.sl.below ((Below.refl _ w2).alloc (Nat.le_refl _) (.cells #[.int .u8 0] 5)) (Nat.le_refl _)) (sl_laid w2 [0] (n := 1) (cs := #[.int .u8 0]) rfl rfl))
  have HB2 := Lib.hid (bel_alloc hb2 (.cells #[.int .u8 0] 5))
  have HFA := Lib.hid (faulty_any [65, 66] 1 (by decide) dec_AB)
  clear hb hb2 ho2 HB HO HE
  go_wp2_with fail
  refine HSM.out.mono ?_; rintro e w3 ⟨rfl, rfl⟩
  go_wp2_with fail
  refine (HFA.out _).mono ?_; rintro e w3 ⟨rfl, hb⟩
  have HB3 := Lib.hid (bel_call HB2.out hb)
  clear hb
  go_wp2_with fail
  go_ret
  exact ⟨rfl, HB3.out⟩
end Go.Proofs.Ytckmjpnkjnihlaa
