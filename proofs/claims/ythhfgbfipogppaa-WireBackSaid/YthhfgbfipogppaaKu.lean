/-
  The statement about names that are told and read.
-/
import Derived.Test.YthhfgbfipogppaaKs
import Derived.Test.YthhfgbfipogppaaKr
import Derived.Test.YthhfgbfipogppaaKt
import Derived.Outline
namespace Go.Proofs.Ythhfgbfipogppaa
open Go.RowKit Go.Shelf
set_option linter.unusedVariables false

set_option maxRecDepth 100000 in
set_option maxHeartbeats 1000000 in
theorem back_long {v va : Value} {l : List AV} {bt : List UInt8} {lo hi : Nat} (w : World) (h : Ac w w.heap.size v l) (hs : Sl w lo hi va (iz bt)) (hc : longA l = true ∨ (longA l = false ∧ 1000 < bt.length)) :
    Calls Try.prog 5 #[v, va] w (Tells w (.bool true)) := by
  have HAW := Lib.hid awake_any
  have HN := Lib.hid new_any
  have HL := Lib.hid (fun wx (hb : Below w.heap.size w wx) => long_any (h.below hb (Nat.le_refl _)))
  obtain ⟨ad, c, rfl, _⟩ := hs
  rw [iz_len]
  have HB := Lib.hid (Below.refl w.heap.size w)
  rcases hc with hc | ⟨hc, hb⟩
  · rw [hc] at HL
    go_enter Try.func5, Try.ntmps5
    go_wp2_with fail
    refine (tell_on HB (HAW.out _)).mono ?_; rintro e w1 ⟨rfl, HB⟩
    go_wp2_with fail
    refine (HN.out _).mono ?_; rintro e w2 ⟨p, bm, rfl, _, _, _, hb⟩
    replace HB := Lib.hid (bel_call HB.out hb)
    clear hb
    go_wp2_with fail
    refine (HL.out _ HB.out).mono ?_; rintro e w3 ⟨rfl, rfl⟩
    go_wp2_with fail
    go_ret
    exact ⟨rfl, HB.out⟩
  · rw [hc] at HL
    go_enter Try.func5, Try.ntmps5
    go_wp2_with fail
    refine (tell_on HB (HAW.out _)).mono ?_; rintro e w1 ⟨rfl, HB⟩
    go_wp2_with fail
    refine (HN.out _).mono ?_; rintro e w2 ⟨p, bm, rfl, _, _, _, hbb⟩
    replace HB := Lib.hid (bel_call HB.out hbb)
    clear hbb
    go_wp2_with fail
    refine (HL.out _ HB.out).mono ?_; rintro e w3 ⟨rfl, rfl⟩
    go_wp2_with fail
    go_ret
    exact ⟨rfl, HB.out⟩
end Go.Proofs.Ythhfgbfipogppaa
