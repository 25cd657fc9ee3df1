/-
  Acts that came in: names, places, whether these are places as they are.
-/
import Derived.Test.YthhfgbfipogppaaKf
import Derived.Deep.Slices
import Derived.Deep.LoopGhost
import Derived.Outline
namespace Go.Proofs.Ythhfgbfipogppaa
open Go.RowKit Go.Shelf
set_option linter.unusedVariables false

/-- A name, a number, whether it is a place as it is. -/
abbrev AV := List UInt8 × Int × Bool

/-- The slice v reads as these acts; what it leads to lies in blocks below hi. -/
def Ac (w : World) (hi : Nat) (v : Value) (l : List AV) : Prop :=
  ∃ a c, v = .slice a l.length c ∧ (0 < l.length → ∃ b off, a = some ⟨b, off, none⟩ ∧ b < hi ∧ ∀ j (h : j < l.length),
    w.cell? ⟨b, off + j * 3, none⟩ = some (.string (bs l[j].1)) ∧ w.cell? ⟨b, off + j * 3 + 1, none⟩ = some (.int .i64 l[j].2.1) ∧ w.cell? ⟨b, off + j * 3 + 2, none⟩ = some (.bool l[j].2.2))

theorem Ac.below {w w' : World} {hi B : Nat} {v : Value} {l : List AV} (h : Ac w hi v l) (hb : Below B w w') (hB : hi ≤ B) : Ac w' hi v l := by
  obtain ⟨a, c, rfl, hx⟩ := h
  refine ⟨a, c, rfl, fun h0 => ?_⟩
  obtain ⟨b, off, rfl, h1, h2⟩ := hx h0
  refine ⟨b, off, rfl, h1, fun j hj => ?_⟩
  obtain ⟨c0, c1, c2⟩ := h2 j hj
  exact ⟨(hb.cell (p := ⟨b, _, none⟩) (Nat.lt_of_lt_of_le h1 hB)).trans c0, (hb.cell (p := ⟨b, _, none⟩) (Nat.lt_of_lt_of_le h1 hB)).trans c1, (hb.cell (p := ⟨b, _, none⟩) (Nat.lt_of_lt_of_le h1 hB)).trans c2⟩

/-- Are there too many, or is one of the first ones too long? -/
def longA (l : List AV) : Bool := (l.take 61).any (fun x => decide (400 < x.1.length)) || decide (60 < l.length)

set_option maxHeartbeats 1000000 in
theorem long_any {w : World} {hi : Nat} {v : Value} {l : List AV} (h : Ac w hi v l) : Calls Try.prog 16 #[v] w fun e w' => e = .returned (.bool (longA l)) ∧ w = w' := by
  obtain ⟨a, c, rfl, hx⟩ := h
  obtain ⟨r, hr⟩ : ∃ r, longA l = r := ⟨_, rfl⟩
  rw [hr]
  have HR := Lib.hid hr
  have HX := Lib.hid hx
  clear hr hx
  go_enter Try.func16, Try.ntmps16
  go_wp2
  go_loopg [3] 62 (fun g v3 wr => ∃ k : Nat, k + g = 62 ∧ v3 = .int .i64 k ∧ k ≤ l.length ∧ k ≤ 61 ∧ Hid ((l.take k).any (fun x => decide (400 < x.1.length)) = false) ∧ w = wr)
  case atStart => exact ⟨0, by omega, rfl, Nat.zero_le _, by omega, by simp [Hid], rfl⟩
  case round =>
    obtain ⟨k, hk, rfl, hkl, hk61, HA, rfl⟩ := hrel
    by_cases h1 : k < l.length
    · by_cases h2 : k < 61
      · obtain ⟨b, off, rfl, _, hcc⟩ := HX.out (by omega)
        obtain ⟨c0, _, _⟩ := hcc k h1
        have hany := HA.out
        have htk : l.take (k + 1) = l.take k ++ [l[k]] := by rw [List.take_add_one, List.getElem?_eq_getElem h1]; rfl
        by_cases h4 : 400 < l[k].1.length
        · have HE := Lib.hid (show r = true by
            rw [← HR.out]
            unfold longA
            rw [Bool.or_eq_true]
            refine .inl (List.any_eq_true.mpr ⟨l[k], ?_, by simpa using h4⟩)
            exact List.mem_take_iff_getElem.mpr ⟨k, by omega, rfl⟩)
          obtain ⟨n, hn⟩ : ∃ n, l[k].1 = n := ⟨_, rfl⟩
          rw [hn] at c0 h4
          clear hany htk hcc hn HA
          go_wp2_with fail
          go_ret
          exact ⟨by rw [HE.out]; rfl, rfl⟩
        · have HA2 := Lib.hid (show (l.take (k + 1)).any (fun x => decide (400 < x.1.length)) = false by rw [htk, List.any_append, hany]; simpa using h4)
          obtain ⟨n, hn⟩ : ∃ n, l[k].1 = n := ⟨_, rfl⟩
          rw [hn] at c0 h4
          clear hany htk hcc hn HA
          go_wp2_with fail
          go_roundg (62 - (k + 1))
          case measure => omega
          case rel => exact ⟨k + 1, by omega, by go_num, by omega, by omega, HA2, rfl⟩
      · have hk : k = 61 := by omega
        subst hk
        have t60 : 60 < l.length := by omega
        have HE := Lib.hid (show r = true by rw [← HR.out]; unfold longA; rw [decide_eq_true t60, Bool.or_true])
        clear HA
        go_wp2_with fail
        go_ret
        exact ⟨by rw [HE.out]; simp; omega, rfl⟩
    · have hke : k = l.length := by omega
      have HE := Lib.hid (show r = decide (60 < l.length) by
        rw [← HR.out]
        unfold longA
        rw [List.take_of_length_le (by omega)]
        have := HA.out
        rw [List.take_of_length_le (by omega)] at this
        rw [this, Bool.false_or])
      clear HA
      have t1 : ¬ ((k : Int) < l.length) := by omega
      go_wp2_with fail
      go_ret
      exact ⟨by rw [HE.out]; simp; omega, rfl⟩
end Go.Proofs.Ythhfgbfipogppaa
