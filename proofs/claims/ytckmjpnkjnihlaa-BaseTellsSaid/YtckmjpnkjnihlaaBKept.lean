/-
  KeptBytes: what was lent is as it was.
-/
import Derived.Test.YtckmjpnkjnihlaaBWords
import Derived.Test.YtckmjpnkjnihlaaBSame
import Derived.Test.YtckmjpnkjnihlaaBLent
import Derived.Deep.RegionHeld3
namespace Go.Proofs.Ytckmjpnkjnihlaa
open Go.RowKit
set_option linter.unusedVariables false
set_option maxRecDepth 100000

def KeptPost (w : World) (e : Ending) (w' : World) : Prop := e = .returned (.bool true) ∧ Below w.heap.size w w'

set_option maxHeartbeats 1000000 in
theorem kept_core {w : World} {lo hi g n c k : Nat} {a : Option Addr} {l : List Int} (h : Hid (Sl w lo hi (.slice a n c) l)) (hl : n ≤ 100000) (hg : Hid (LentAt w g l)) (hlt : g < w.heap.size) (hk : Hid (k = n + 3)) (hnl : Hid (n = l.length)) (e1 : (n : Int) + 3 = (k : Int)) :
    Calls Try.prog 16 #[.slice (some ⟨g, 0, none⟩) n k, .slice a n c] w (KeptPost w) := by
  have hd : Sl w.drew lo hi (.slice a n c) l := h.out.keep (fun _ _ _ _ => rfl)
  have HD := Lib.hid hd
  have hgd : LentAt w.drew g l := hg.out
  have HG := Lib.hid hgd
  have hltd : g < w.drew.heap.size := hlt
  have HL := Lib.hid hltd
  have hbd : Below w.heap.size w w.drew := (Below.refl _ _).drew
  have HB0 := Lib.hid hbd
  have hkb : k ≤ 100003 := by rw [hk.out]; omega
  have ew : IntKind.i64.wrap ((n : Int) + 3) = (k : Int) := by rw [e1]; exact IntWalk.i64_in _ (by omega)
  have ew2 : IntKind.i64.wrap (k : Int) = (k : Int) := IntWalk.i64_in _ (by omega)
  have hkk : k = l.length + 3 := by rw [hk.out, hnl.out]
  have HK := Lib.hid hkk
  clear hd hgd hltd hbd h hg hkk
  go_enter Try.func16, Try.ntmps16
  go_wp2
  go_region_held3 (fun _ => True) (trivial) (first | (go_at_call 7; refine (lent_n HD.out hl hnl.out k hk.out).mono ?_; rintro e w1 ⟨rfl, hb, hx⟩; have HB := Lib.hid hb; have HX := Lib.hid (LentAt.at_ (g' := w.heap.size) hx rfl); clear hb hx) | (go_at_call 14; refine (same_any (LentAt.slk (LentAt.later HG.out HB.out HL.out) HK.out) (LentAt.slk HX.out HK.out)).mono ?_; rintro e w2 ⟨rfl, rfl⟩))
  all_goals
    go_wp2
    go_ret
    exact ⟨rfl, HB0.out.trans HB.out⟩

theorem kept_any {w : World} {lo hi g : Nat} {v : Value} {l : List Int} (h : Sl w lo hi v l) (hl : l.length ≤ 100000) (hg : LentAt w g l) (hlt : g < w.heap.size) :
    Calls Try.prog 16 #[.slice (some ⟨g, 0, none⟩) l.length (l.length + 3), v] w (KeptPost w) := by
  obtain ⟨a, c, rfl, hc, hn, hp⟩ := h
  exact kept_core (l := l) ⟨a, c, rfl, hc, hn, hp⟩ hl hg hlt rfl rfl (by omega)
end Go.Proofs.Ytckmjpnkjnihlaa
