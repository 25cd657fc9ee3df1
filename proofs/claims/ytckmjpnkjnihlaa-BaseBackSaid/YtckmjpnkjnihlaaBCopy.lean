/-
  CopyBytes.
-/
import Derived.Test.YtckmjpnkjnihlaaBWords
namespace Go.Proofs.Ytckmjpnkjnihlaa
open Go.RowKit
set_option linter.unusedVariables false
set_option maxRecDepth 100000

def CopyPost (w : World) (l : List Int) (e : Ending) (w' : World) : Prop := ∃ v, e = .returned v ∧ OwnR w' w.heap.size v l ∧ Below w.heap.size w w'

set_option maxHeartbeats 1000000 in
theorem copy_any {w : World} {lo hi : Nat} {v : Value} {l : List Int} (h : Sl w lo hi v l) (hl : l.length ≤ 900000) : Calls Try.prog 19 #[v] w (CopyPost w l) := by
  have hb1 : Below w.heap.size w (w.alloc (.cells #[] 5)) := (Below.refl _ _).alloc (Nat.le_refl _) _
  have hs1 : Sl (w.alloc (.cells #[] 5)) lo hi v l := by
    obtain ⟨a, c, rfl, hc, hn, hp⟩ := h
    exact ⟨a, c, rfl, hc, hn, fun h0 => by
      obtain ⟨b, off, rfl, h1, h2, hx⟩ := hp h0
      exact ⟨b, off, rfl, h1, h2, fun j hj => cell_later hb1 (hx j hj)⟩⟩
  have HS := Lib.hid hs1
  have HB := Lib.hid hb1
  clear h hs1 hb1
  go_enter Try.func19, Try.ntmps19
  go_wp2_with (at_builtin; refine wpList_app rfl (.tmp 3) (.tmp 4) rfl w.heap.size lo hi _ v [] l rfl rfl ?c1 HS.out ?c2 ?c3 ?_)
  case c1 => exact World.ownsRow_made w #[] 0 (Nat.le_refl _) (by decide) (by simp)
  case c2 => simp; omega
  case c3 => simp
  intro v' w1 HO HB1
  have HB2 := Lib.hid (HB.out.trans HB1.out)
  clear HB HB1 HS
  go_wp2_with fail
  go_ret
  exact ⟨v', rfl, HO.out, HB2.out⟩
end Go.Proofs.Ytckmjpnkjnihlaa
