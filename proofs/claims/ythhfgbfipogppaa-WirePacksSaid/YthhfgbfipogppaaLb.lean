/-
  The statement about packers.
-/
import Derived.Test.YthhfgbfipogppaaLa
import Derived.Test.YthhfgbfipogppaaKr
import Derived.Test.YthhfgbfipogppaaBPick
import Derived.Test.YthhfgbfipogppaaBSame
import Derived.Outline
namespace Go.Proofs.Ythhfgbfipogppaa
open Go.RowKit Go.Shelf
set_option linter.unusedVariables false

theorem longA_not {l : List AV} (h : longA l = false) : l.length ≤ 60 ∧ ∀ k (hk : k < l.length), l[k].1.length ≤ 400 := by
  unfold longA at h
  rw [Bool.or_eq_false_iff] at h
  obtain ⟨h1, h2⟩ := h
  have h3 : l.length ≤ 60 := by simpa using h2
  rw [List.take_of_length_le (by omega)] at h1
  exact ⟨h3, fun k hk => by
    have := List.any_eq_false.mp h1 l[k] (List.getElem_mem hk)
    simpa using this⟩

theorem many {ls : List (List UInt8)} (h : ∀ x ∈ ls, 0 < x.length ∧ x.length ≤ 63) : 2 * ls.length ≤ (wire ls).length := by
  induction ls with
  | nil => simp
  | cons x r ih =>
    have h1 := h x List.mem_cons_self
    have h2 := ih fun y hy => h y (List.mem_cons_of_mem _ hy)
    simp [wire]
    omega

/-- What is known after a name. -/
theorem next_good {K : List (List UInt8 × Nat)} {e : Nat} (hG : GoodK K) (he : e ≤ 66000) (a : Int) (n : List UInt8) : GoodK (nameK K e a n) ∧ (nameK K e a n).length ≤ K.length + 127 ∧ nameE K e a n ≤ 66000 := by
  unfold nameK nameE
  by_cases h0 : pkE e a n = 0
  · have hc : chk n = 0 := by
      unfold pkE at h0
      split at h0
      · rename_i h1; exact absurd h0 h1
      · rename_i h1; simpa using h1
    have hr : 0 ≤ a ∧ a ≤ 65535 := by
      unfold pkE at h0
      rw [if_neg (fun h => h hc)] at h0
      split at h0
      · exact absurd h0 (by decide)
      · omega
    obtain ⟨hs, hnm⟩ := shorts_of hc
    obtain ⟨ls, hls⟩ : ∃ ls, labs n = ls := ⟨_, rfl⟩
    rw [hls] at hs
    rw [if_pos h0, if_pos h0, hls]
    have h1 := fr_len ls a.toNat (hdn K ls)
    have h2 := hdn_le K ls
    have h3 := many hs.1
    have h4 := hs.2
    refine ⟨good_fr hG hs _ h2, by rw [List.length_append]; omega, ?_⟩
    have h5 := restb_len K (nm (ls.drop (hdn K ls)))
    have h6 := pos_rest ls (hdn K ls)
    have h7 : (told K ls).length ≤ 260 := by
      unfold told
      rw [List.length_append]
      rw [nm_len] at h5
      have : (wire (ls.take (hdn K ls))).length = pos ls (hdn K ls) := rfl
      omega
    omega
  · rw [if_neg h0, if_neg h0]
    exact ⟨hG, by omega, he⟩

set_option maxRecDepth 100000 in
set_option maxHeartbeats 1000000 in
theorem packs_long {v : Value} {l : List AV} (w : World) (h : Ac w w.heap.size v l) (hc : longA l = true) : Calls Try.prog 4 #[v] w (Tells w (.bool true)) := by
  have HAW := Lib.hid awake_any
  have HN := Lib.hid new_any
  have HL := Lib.hid (fun wx (hb : Below w.heap.size w wx) => long_any (h.below hb (Nat.le_refl _)))
  rw [hc] at HL
  have HB := Lib.hid (Below.refl w.heap.size w)
  clear h hc
  go_enter Try.func4, Try.ntmps4
  go_wp2_with fail
  refine (HN.out _).mono ?_; rintro e w2 ⟨p, bm, rfl, hp1, hb1, hpk, hb⟩
  have HB2 := Lib.hid (bel_alloc (bel_call HB.out hb) (.cells #[.slice none 0 0, .int .i64 0] 38))
  clear hb hp1 hb1 hpk HB
  go_wp2_with fail
  refine (HL.out _ HB2.out).mono ?_; rintro e w3 ⟨rfl, rfl⟩
  go_wp2_with fail
  refine (HAW.out _).mono ?_; rintro e w4 ⟨rfl, hb⟩
  have HB4 := Lib.hid (bel_call HB2.out hb)
  clear hb
  go_wp2_with fail
  go_ret
  exact ⟨rfl, HB4.out⟩
end Go.Proofs.Ythhfgbfipogppaa
