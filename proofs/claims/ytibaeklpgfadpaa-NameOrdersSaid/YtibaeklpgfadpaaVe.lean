/-
  The statement about the order of names, for all names.
-/
import Derived.Test.YtibaeklpgfadpaaVd
namespace Go.Proofs.Ytibaeklpgfadpaa
open Go.RowKit Go.Shelf
set_option linter.unusedVariables false
set_option linter.unusedSimpArgs false

theorem orders_any (a b c : List UInt8) (w : World) : Calls Try.prog 6 #[.string (bs a), .string (bs b), .string (bs c)] w (Tells w (.bool true)) := by
  by_cases h : 400 < a.length ∨ 400 < b.length ∨ 400 < c.length ∨ chk a ≠ 0 ∨ chk b ≠ 0 ∨ chk c ≠ 0
  · exact orders_early a b c w h
  · have h1 : a.length ≤ 400 ∧ b.length ≤ 400 ∧ c.length ≤ 400 := by omega
    obtain ⟨h1, h2, h3⟩ := h1
    have hc : chk a = 0 ∧ chk b = 0 ∧ chk c = 0 := by omega
    obtain ⟨ha, hb, hc⟩ := hc
    clear h
    have hpl : (par a).length ≤ 900000 := by unfold par; split <;> simp; omega
    have hk : cnt a ≤ 400 := by have := labs_len a; unfold cnt; split <;> omega
    have hz := ncmp_zero ha hb
    refine orders_core (a := a) (b := b) (c := c) (p := par a) (x := ncmp a b) (z1 := ncmp b c) (z2 := ncmp a c) (sm := same a b) (ha := hasP a) (la := low a) (lb := low b) (wac := wthn a c) (wca := wthn c a) (wab := wthn a b) (k := cnt a) (kp := cnt (par a)) (wap := wthn a (par a)) (wpa := wthn (par a) a)
      ?_ h1 h2 h3 (ncmp_cases a b) ?_ ?_ (fun u v => ncmp_trans ha hb hc u v) (fun u => wthn_ncmp u) hk ?_ ?_ w
    · exact {
        HA := fun w => ha ▸ check_any a (by omega) w
        HBB := fun w => hb ▸ check_any b (by omega) w
        HC := fun w => hc ▸ check_any c (by omega) w
        HXab := fun w => compare_any a b (by omega) (by omega) w
        HXba := fun w => ncmp_anti a b ▸ compare_any b a (by omega) (by omega) w
        HXbc := fun w => compare_any b c (by omega) (by omega) w
        HXac := fun w => compare_any a c (by omega) (by omega) w
        HS := fun w => same_name_any a b (by omega) (by omega) w
        HLa := fun w => lower_any a (by omega) w
        HLb := fun w => lower_any b (by omega) w
        HWac := fun w => within_any a c (by omega) (by omega) w
        HWbc := fun e w => (wthn_same ha hb (hz.1 e) c).1 ▸ within_any b c (by omega) (by omega) w
        HWca := fun w => within_any c a (by omega) (by omega) w
        HWcb := fun e w => (wthn_same ha hb (hz.1 e) c).2 ▸ within_any c b (by omega) (by omega) w
        HWaa := fun w => wthn_self ha ▸ within_any a a (by omega) (by omega) w
        HWar := fun w => wthn_root ha ▸ within_any a [0] (by omega) (by simp) w
        HWab := fun w => within_any a b (by omega) (by omega) w
        HWap := fun w => within_any a (par a) (by omega) hpl w
        HWpa := fun w => within_any (par a) a hpl (by omega) w
        HP := fun w => parent_any a (by omega) w
        HKa := fun w => count_any a (by omega) w
        HKp := fun w => count_any (par a) (by omega) w }
    · unfold same
      rw [decide_eq_decide, hz]
      simp [ha, hb]
    · rw [bs_eq]
      unfold same
      rw [decide_eq_decide]
      simp [ha, hb]
    · cases hp : hasP a with
      | false => rw [no_par ha hp]; rfl
      | true => obtain ⟨k, hk1, _⟩ := par_facts ha hp; rw [hk1]; simp
    · intro hp
      obtain ⟨k, hk1, hk2, _, hk3, hk4⟩ := par_facts ha hp
      exact ⟨by omega, hk3, hk4⟩
end Go.Proofs.Ytibaeklpgfadpaa
