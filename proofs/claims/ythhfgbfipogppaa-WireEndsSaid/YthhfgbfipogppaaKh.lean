/-
  The statement about what is read at each place.
-/
import Derived.Test.YthhfgbfipogppaaKg
import Derived.Test.YthhfgbfipogppaaBPick
namespace Go.Proofs.Ythhfgbfipogppaa
open Go.RowKit Go.Shelf
set_option linter.unusedVariables false

/-- From a place on. -/
theorem sl_from {w : World} {lo hi c p : Nat} {a : Option Addr} {b : List UInt8} (h : Sl w lo hi (.slice a b.length c) (iz b)) (hp : p ≤ b.length) :
    ∃ sv, (∀ wx, (Instr.slice 22 (.slice a b.length c) (some (.int .i64 p)) none none).run Try.prog wx = .ok sv wx) ∧ Sl w lo hi sv (iz (b.drop p)) := by
  obtain ⟨a', c', he, hc, hn, hq⟩ := h
  rw [iz_len] at he hc hq
  injection he with e1 e2 e3
  subst e1; subst e3
  refine ⟨sliced a p b.length c 1, fun wx => ?_, ?_⟩
  · rw [run_slice_l (P := Try.prog) wx 22 a b.length c Try.underlying22 .i64 p (by omega) (by omega), size5]
    simp only [Result.andThen, Int.toNat_natCast]
  · refine ⟨if c = p then a else a.map (·.add (p * 1)), c - p, ?_, ?_, ?_, ?_⟩
    · unfold sliced; rw [iz_len, List.length_drop]
    · rw [iz_len, List.length_drop]; omega
    · intro hnone
      have : a = none := by
        split at hnone
        · exact hnone
        · simpa using hnone
      have := hn this
      omega
    · intro h0
      rw [iz_len, List.length_drop] at h0
      obtain ⟨g, off, rfl, h1, h2, hx⟩ := hq (by omega)
      rw [if_neg (by omega)]
      refine ⟨g, off + p, ?_, h1, h2, fun j hj => ?_⟩
      · simp only [Option.map_some, Nat.mul_one]; rw [WideShapes.add_plain]
      · rw [iz_len, List.length_drop] at hj
        rw [show off + p + j = off + (p + j) by omega, hx (p + j) (by omega)]
        congr 2
        rw [iz_get _ _ (by omega), iz_get _ _ (by rw [List.length_drop]; omega), List.getElem_drop]

set_option maxRecDepth 100000 in
set_option maxHeartbeats 4000000 in
theorem ends_core {w : World} {lo hi : Nat} {v : Value} {b : List UInt8} (h : Sl w lo hi v (iz b)) (hhi : hi ≤ w.heap.size) (hl : b.length ≤ 2000) (a : Int) :
    Calls Try.prog 6 #[v, .int .i64 a] w (Tells w (.bool true)) := by
  have HS := Lib.hid h
  have HAW := Lib.hid awake_any
  have HP := Lib.hid (fun wx => pick_any a ((b.length + 1 : Nat) : Int) wx (by omega) (by omega))
  push_cast at HP
  obtain ⟨ad, c, rfl, _⟩ := h
  simp only [iz_len] at HS
  rw [iz_len]
  have t0 : ¬ 2000 < b.length := by omega
  have HB := Lib.hid (Below.refl w.heap.size w)
  go_enter Try.func6, Try.ntmps6
  go_wp2_with fail
  refine (tell_on HB (HAW.out _)).mono ?_; rintro e w1 ⟨rfl, HB⟩
  go_wp2_with fail
  refine (HP.out _).mono ?_; rintro e w2 ⟨k, hk, rfl, rfl⟩
  have hkl : k ≤ b.length := by omega
  have hf := rd_fine b k hkl k k 0 [] [] rfl ⟨by simp, by simp [wire]⟩
  have hR : ∀ (wx : World), Hid (Below w.heap.size w wx) → Calls Try.prog 11 #[.slice ad b.length c, .int .i64 k] wx (Tells wx (gotV (rd b k k k 0 []))) := fun wx hb => by
    have := read_any (HS.out.below hb.out hhi) (Nat.le_trans hhi hb.out.size) (by omega) k
    have e : rda b k = rd b k k k 0 [] := by unfold rda; rw [if_neg (by omega), Int.toNat_natCast]
    rw [e] at this
    exact this
  have hnx := rd_next b k k k [] (by simp)
  have hal := rd_alone b k k k k [] [] (Nat.le_refl _) hkl rfl ⟨by simp, by simp [wire]⟩
  obtain ⟨⟨n', x', e', a'⟩, hr⟩ : ∃ r, rd b k k k 0 [] = r := ⟨_, rfl⟩
  rw [hr] at hf hR hnx hal
  have HR := Lib.hid hR
  simp only [gotV] at HR
  clear hR hr
  rcases hf with ⟨r1, r2, ls, r3, r4⟩ | ⟨r1, r2, r3, r4⟩
  · obtain rfl : e' = 0 := r1
    obtain rfl : a' = 0 := r2
    replace r3 : n' = wire ls ++ [0] := by simpa using r3
    replace r4 : Shorts ls := by simpa using r4
    obtain ⟨n1, n2, n3⟩ := hnx rfl
    replace n1 : k < x' := n1
    replace n2 : x' ≤ b.length := n2
    replace n3 : x' + 0 ≤ k + 256 := n3
    replace hal : x' + 0 = k + n'.length → ∀ a2 p2, rd (b.drop k) a2 p2 (k - k) 0 [] = (n', x' - k, 0, 0) := fun h => hal rfl h
    have hnl : n'.length ≤ 255 := by rw [r3]; have := r4.2; simp; omega
    have HC := Lib.hid (fun wx => (check_any n' (by omega) wx))
    rw [show chk n' = 0 by rw [r3]; exact shorts_chk r4] at HC
    have ek : (x' : Int) - (k : Int) = ((x' - k : Nat) : Int) := by omega
    have em : (x' : Int) - 1 = ((x' - 1 : Nat) : Int) := by omega
    obtain ⟨m, hm⟩ : ∃ m, x' - 1 = m := ⟨_, rfl⟩
    obtain ⟨d, hd⟩ : ∃ d, x' - k = d := ⟨_, rfl⟩
    rw [hm] at em
    rw [hd] at ek hal
    have hml : m < b.length := by omega
    have t1 : ¬ x' ≤ k := by omega
    have t2 : ¬ b.length < x' := by omega
    have t3 : ¬ 256 < d := by omega
    have hdx : d = n'.length → x' + 0 = k + n'.length := by omega
    have hSF := fun (wx : World) (hb : Below w.heap.size w wx) => sl_from (HS.out.below hb hhi) hkl
    have hcc := fun (wx : World) (hb : Below w.heap.size w wx) => (HS.out.below hb hhi).spot m (by rw [iz_len]; exact hml)
    have HM := Lib.hid (show m + 1 = x' ∧ k + d = x' by omega)
    clear hnx n1 n2 n3 r3 r4 hm hd
    go_wp2_with fail
    refine (tell_on HB (HR.out _ HB)).mono ?_; rintro e w3 ⟨rfl, HB⟩
    replace HB := Lib.hid (HB.out.alloc HB.out.size (.cells #[.int .i64 0, .int .i64 0] 26))
    go_wp2_with fail
    refine (tell_on HB (HC.out _)).mono ?_; rintro e w4 ⟨rfl, HB⟩
    obtain ⟨g, off, c', hv, _, hc⟩ := hcc w4 HB.out
    injection hv with hv1 hv2 hv3
    subst hv1
    clear hv2 hv3
    rw [iz_get b m hml] at hc
    have hx8 : b[m].toNat < 256 := b[m].toNat_lt
    obtain ⟨z, hz⟩ : ∃ z, b[m].toNat = z := ⟨_, rfl⟩
    rw [hz] at hc hx8
    clear hz
    by_cases hz0 : z = 0
    · subst hz0
      by_cases hdn : d = n'.length
      · have hrd := hal (hdx hdn)
        obtain ⟨sv, hsv, hsl⟩ := hSF w4 HB.out
        have HR2 := Lib.hid (read_any hsl (Nat.le_trans hhi HB.out.size) (by rw [List.length_drop]; omega) 0)
        have e0 : rda (b.drop k) 0 = (n', d, 0, 0) := by
          unfold rda
          rw [if_neg (by rw [List.length_drop]; omega)]
          have := hrd 0 0
          rw [Nat.sub_self] at this
          exact this
        rw [e0] at HR2
        simp only [gotV] at HR2
        have ht : ((bs n').toList == (bs n').toList) = true := by simp
        have tdn : ((d : Int) != n'.length) = false := by simp [hdn]
        clear hal hdx hrd hSF hcc e0 hsl
        go_wp2_with fail
        refine (tell_on HB (HR2.out)).mono ?_; rintro e w5 ⟨rfl, HB⟩
        go_wp2_with fail
        go_ret
        exact ⟨rfl, HB.out.alloc HB.out.size _⟩
      · have tdn : ((d : Int) != n'.length) = true := by simp; omega
        clear hal hdx hSF hcc
        go_wp2_with fail
        go_ret
        exact ⟨rfl, HB.out⟩
    · have tz : ((z : Int) != 0) = true := by simp; omega
      clear hal hdx hSF hcc
      go_wp2_with fail
      go_ret
      exact ⟨rfl, HB.out⟩
  · have r1 : e' ≠ 0 := r1
    obtain rfl : n' = [] := r2
    obtain rfl : x' = 0 := r3
    have r4 : a' ≤ b.length := r4
    have te : (e' != 0) = true := by simpa using r1
    have tb : (bs ([] : List UInt8)) = ⟨#[]⟩ := rfl
    rw [tb] at HR
    clear hnx hal r1 tb
    go_wp2_with fail
    refine (tell_on HB (HR.out _ HB)).mono ?_; rintro e w3 ⟨rfl, HB⟩
    go_wp2_with fail
    go_ret
    exact ⟨rfl, HB.out.alloc HB.out.size _⟩

/-- The statement. -/
theorem ends_any {w : World} {lo hi : Nat} {v : Value} {b : List UInt8} (h : Sl w lo hi v (iz b)) (hhi : hi ≤ w.heap.size) (a : Int) :
    Calls Try.prog 6 #[v, .int .i64 a] w (Tells w (.bool true)) := by
  by_cases hl : b.length ≤ 2000
  · exact ends_core h hhi hl a
  · have HAW := Lib.hid awake_any
    obtain ⟨ad, c, rfl, _⟩ := h
    rw [iz_len]
    have t0 : 2000 < b.length := by omega
    have HB := Lib.hid (Below.refl w.heap.size w)
    go_enter Try.func6, Try.ntmps6
    go_wp2_with fail
    refine (tell_on HB (HAW.out _)).mono ?_; rintro e w1 ⟨rfl, HB⟩
    go_wp2_with fail
    go_ret
    exact ⟨rfl, HB.out⟩
end Go.Proofs.Ythhfgbfipogppaa
