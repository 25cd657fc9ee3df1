/-
  Pick: a number from 0 on, below n. KeptBytes: what was lent is as it was.
-/
import Derived.Test.YtbfgmenjkneijaaWc
import Derived.IntWalk
import Derived.Deep.RegionHeld3
namespace Go.Proofs.Ytbfgmenjkneijaa
open Go.RowKit
set_option linter.unusedVariables false

set_option maxHeartbeats 400000 in
theorem pick_any (x n : Int) (w : World) (h1 : 1 ≤ n) (h2 : n ≤ 100000) : Calls Try.prog 24 #[.int .i64 x, .int .i64 n] w fun e w' => ∃ k : Nat, k < n ∧ e = .returned (.int .i64 k) ∧ w = w' := by
  go_enter Try.func24, Try.ntmps24
  go_wp2
  · go_ret
    refine ⟨(wrap64 (x.tmod n + n)).toNat, ?_, ?_, rfl⟩
    all_goals
      have h3 : -n < x.tmod n := by
        have := Int.tmod_lt_of_pos (-x) (b := n) (by omega)
        rw [Int.neg_tmod] at this
        omega
      have e : wrap64 (x.tmod n + n) = x.tmod n + n := IntWalk.wrap64_in _ ⟨by omega, by omega⟩
      rw [e]
    · omega
    · rw [Int.toNat_of_nonneg (by omega)]; rfl
  · go_ret
    have := Int.tmod_lt_of_pos x (b := n) (by omega)
    refine ⟨(x.tmod n).toNat, by omega, ?_, rfl⟩
    rw [Int.toNat_of_nonneg (by omega)]; rfl

theorem LentAt.sl {w : World} {g : Nat} {l : List Int} (h : LentAt w g l) : Sl w g (g + 1) (.slice (some ⟨g, 0, none⟩) (l.length + 3) (l.length + 3)) (lentL l) := by
  have := Own.sl (g := g) (l := lentL l) (w := w) (.inr ⟨rfl, h⟩)
  rw [lentL_len] at this
  exact this

def KeptPost (w : World) (e : Ending) (w' : World) : Prop := e = .returned (.bool true) ∧ Below w.heap.size w w'

theorem LentAt.slk {w : World} {g k : Nat} {l : List Int} (h : LentAt w g l) (hk : k = l.length + 3) : Sl w g (g + 1) (.slice (some ⟨g, 0, none⟩) k k) (lentL l) := by
  subst hk; exact h.sl
theorem LentAt.at_ {w : World} {g g' : Nat} {l : List Int} (h : LentAt w g l) (e : g = g') : LentAt w g' l := e ▸ h
theorem LentAt.later {w w' : World} {g : Nat} {l : List Int} (h : LentAt w g l) (hb : Below w.heap.size w w') (hg : g < w.heap.size) : LentAt w' g l := (hb.block g hg).trans h
theorem lent_n {w : World} {lo hi n c : Nat} {a : Option Addr} {l : List Int} (h : Sl w lo hi (.slice a n c) l) (hl : n ≤ 1000) (hn : n = l.length) (q : Nat) (hq : q = n + 3) :
    Calls Try.prog 15 #[.slice a n c] w fun e w' => e = .returned (.slice (some ⟨w.heap.size, 0, none⟩) n q) ∧ Below w.heap.size w w' ∧ LentAt w' w.heap.size l := by
  subst hn; subst hq
  exact lent_any h hl

set_option maxHeartbeats 1000000 in
theorem kept_core {w : World} {lo hi g n c k : Nat} {a : Option Addr} {l : List Int} (h : Hid (Sl w lo hi (.slice a n c) l)) (hl : n ≤ 1000) (hg : Hid (LentAt w g l)) (hlt : g < w.heap.size) (hk : Hid (k = n + 3)) (hnl : Hid (n = l.length)) (e1 : (n : Int) + 3 = (k : Int)) :
    Calls Try.prog 22 #[.slice (some ⟨g, 0, none⟩) n k, .slice a n c] w (KeptPost w) := by
  have hd : Sl w.drew lo hi (.slice a n c) l := h.out.keep (fun _ _ _ _ => rfl)
  have HD := Lib.hid hd
  have hgd : LentAt w.drew g l := hg.out
  have HG := Lib.hid hgd
  have hltd : g < w.drew.heap.size := hlt
  have HL := Lib.hid hltd
  have hbd : Below w.heap.size w w.drew := (Below.refl _ _).drew
  have HB0 := Lib.hid hbd
  have hkb : k ≤ 1003 := by rw [hk.out]; omega
  have ew : IntKind.i64.wrap ((n : Int) + 3) = (k : Int) := by rw [e1]; exact IntWalk.i64_in _ (by omega)
  have ew2 : IntKind.i64.wrap (k : Int) = (k : Int) := IntWalk.i64_in _ (by omega)
  have hkk : k = l.length + 3 := by rw [hk.out, hnl.out]
  have HK := Lib.hid hkk
  clear hd hgd hltd hbd h hg hkk
  go_enter Try.func22, Try.ntmps22
  go_wp2
  go_region_held3 (fun _ => True) (trivial) (first | (go_at_call 15; refine (lent_n HD.out hl hnl.out k hk.out).mono ?_; rintro e w1 ⟨rfl, hb, hx⟩; have HB := Lib.hid hb; have HX := Lib.hid (LentAt.at_ (g' := w.heap.size) hx rfl); clear hb hx) | (go_at_call 12; refine (same_any (LentAt.slk (LentAt.later HG.out HB.out HL.out) HK.out) (LentAt.slk HX.out HK.out)).mono ?_; rintro e w2 ⟨rfl, rfl⟩))
  all_goals
    go_wp2
    go_ret
    exact ⟨rfl, HB0.out.trans HB.out⟩

theorem kept_any {w : World} {lo hi g : Nat} {v : Value} {l : List Int} (h : Sl w lo hi v l) (hl : l.length ≤ 1000) (hg : LentAt w g l) (hlt : g < w.heap.size) :
    Calls Try.prog 22 #[.slice (some ⟨g, 0, none⟩) l.length (l.length + 3), v] w (KeptPost w) := by
  obtain ⟨a, c, rfl, hc, hn, hp⟩ := h
  exact kept_core (l := l) ⟨a, c, rfl, hc, hn, hp⟩ hl hg hlt rfl rfl (by omega)
end Go.Proofs.Ytbfgmenjkneijaa
