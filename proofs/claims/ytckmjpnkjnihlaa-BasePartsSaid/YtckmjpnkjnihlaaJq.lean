/-
  The statement of bytes behind others.
-/
import Derived.Test.YtckmjpnkjnihlaaJn
import Derived.Test.YtckmjpnkjnihlaaBCopy
namespace Go.Proofs.Ytckmjpnkjnihlaa
open Go.RowKit Go.Shelf
set_option linter.unusedVariables false
set_option maxRecDepth 100000

/-- The first bytes of a slice. -/
theorem slice_pre {w : World} {lo hi c m : Nat} {a : Option Addr} {l : List Int} (h : Sl w lo hi (.slice a l.length c) l) (hm : m ≤ l.length) : Sl w lo hi (.slice a m c) (l.take m) := by
  have hlen : (l.take m).length = m := by rw [List.length_take]; omega
  obtain ⟨a', c', he, hc, hn, hq⟩ := h
  injection he with e1 e2 e3
  subst e1; subst e3
  refine ⟨a, c, by rw [hlen], by omega, hn, fun h0 => ?_⟩
  rw [hlen] at h0
  obtain ⟨b, off, rfl, h1, h2, hx⟩ := hq (by omega)
  refine ⟨b, off, rfl, h1, h2, fun j hj => ?_⟩
  rw [hlen] at hj
  rw [hx j (by omega), List.getD, List.getD, List.getElem?_take, if_pos hj]

theorem bs_app (a b : List UInt8) : bs a ++ bs b = bs (a ++ b) := by
  have e := bs_eta (bs a ++ bs b)
  rw [e, ByteArray.data_append]
  simp [bs]

theorem iz_take (b : List UInt8) (m : Nat) : (iz b).take m = iz (b.take m) := by unfold iz; rw [List.map_take]

theorem parts_big {w : World} (a a2 : Option Addr) (m c m2 c2 : Nat) (h : 1000 < m ∨ 1000 < m2) :
    Calls Try.prog 5 #[.slice a m c, .slice a2 m2 c2] w fun e w' => e = .returned (.bool true) ∧ Below w.heap.size w w' := by
  have HAW := Lib.hid (awake_any w)
  by_cases h1 : 1000 < m
  · go_enter Try.func5, Try.ntmps5
    go_wp2_with fail
    refine HAW.out.mono ?_; rintro e w1 ⟨rfl, hb⟩
    have HB := Lib.hid hb
    clear hb
    go_wp2_with fail
    go_ret
    exact ⟨rfl, HB.out⟩
  · have h2 : 1000 < m2 := by omega
    go_enter Try.func5, Try.ntmps5
    go_wp2_with fail
    refine HAW.out.mono ?_; rintro e w1 ⟨rfl, hb⟩
    have HB := Lib.hid hb
    clear hb
    go_wp2_with fail
    go_ret
    exact ⟨rfl, HB.out⟩

set_option maxHeartbeats 2000000 in
theorem parts_any {w : World} {v v2 : Value} (a b : List UInt8) (h : Sl w 0 w.heap.size v (iz a)) (h2 : Sl w 0 w.heap.size v2 (iz b)) (ha : a.length ≤ 1000) (hb : b.length ≤ 1000) :
    Calls Try.prog 5 #[v, v2] w fun e w' => e = .returned (.bool true) ∧ Below w.heap.size w w' := by
  have HAW := Lib.hid (awake_any w)
  have HY := Lib.hid h2
  obtain ⟨ax, cx, rfl, _⟩ := h
  obtain ⟨ay, cy, rfl, _⟩ := h2
  rename_i hx0 hy0
  have hsl : Sl w 0 w.heap.size (.slice ax (iz a).length cx) (iz a) := ⟨ax, cx, rfl, hx0⟩
  clear hx0 hy0
  obtain ⟨p, hp⟩ : ∃ p, a.length / 3 = p := ⟨_, rfl⟩
  obtain ⟨m, hm⟩ : ∃ m, p * 3 = m := ⟨_, rfl⟩
  have hml : m ≤ a.length := by omega
  have hs := slice_pre hsl (m := m) (by rw [iz_len]; exact hml)
  rw [iz_take] at hs
  have hcap : a.length ≤ cx := by
    obtain ⟨_, _, he, hc, _⟩ := hsl
    injection he with _ _ e3
    rw [iz_len] at hc
    omega
  have hp3 : p ≤ 400 := by omega
  have hml3 : p * 3 ≤ a.length := by omega
  rw [iz_len] at HY ⊢
  rw [iz_len]
  have HS := Lib.hid hs
  have hat : (a.take m).length = m := by rw [List.length_take]; omega
  have hq : ((a.length : Nat) : Int).tdiv 3 = (p : Nat) := by rw [Int.tdiv_eq_ediv_of_nonneg (by omega)]; omega
  have HEQ : Hid (bs (enc (a.take m ++ b)) = bs (enc (a.take m)) ++ bs (enc b)) := Lib.hid (by rw [enc_app _ _ p (by omega), bs_app])
  have hz1 : (bs (enc (a.take m))).size ≤ 4000 := by rw [bs_size, enc_len, hat]; unfold nl; omega
  have hz2 : (bs (enc b)).size ≤ 4000 := by rw [bs_size, enc_len]; unfold nl; omega
  subst hm
  clear hs hsl hp
  go_enter Try.func5, Try.ntmps5
  go_wp2_with fail
  refine HAW.out.mono ?_; rintro e w1 ⟨rfl, hb1⟩
  have HB1 := Lib.hid hb1
  clear hb1
  have HC := Lib.hid (copy_any (HS.out.below HB1.out (Nat.le_refl _)) (by rw [iz_len]; omega))
  go_wp2_with fail
  refine HC.out.mono ?_; rintro e w2 ⟨u, rfl, hu, hb2⟩
  have HU := Lib.hid hu
  have HB2 := Lib.hid (bel_call HB1.out hb2)
  have HW12 := Lib.hid hb2.size
  clear hu hb2
  go_wp2_with (at_builtin; refine wpList_app_g rfl (.tmp 25) (.tmp 26) rfl w1.heap.size 0 w.heap.size _ _ _ _ rfl rfl HU.out (HY.out.below HB2.out (Nat.le_refl _)) ?c1 HW12.out ?_)
  case c1 => simp only [iz_len]; omega
  intro u3 w3 HU3 HB3
  have hsu := HU3.out.sl
  rw [← iz_app] at hsu
  have HE1 := encode_any (a.take (p * 3) ++ b) hsu (Nat.le_refl _) (by rw [List.length_append, hat]; omega)
  rw [HEQ.out] at HE1
  obtain ⟨T1, hT1⟩ : ∃ T, bs (enc (a.take (p * 3))) = T := ⟨_, rfl⟩
  obtain ⟨T2, hT2⟩ : ∃ T, bs (enc b) = T := ⟨_, rfl⟩
  have HE2 := fun wx (hx : Below w.heap.size w wx) => encode_any (a.take (p * 3)) (HS.out.below hx (Nat.le_refl _)) hx.size (by rw [hat]; omega)
  have HE3 := fun wx (hx : Below w.heap.size w wx) => encode_any b (HY.out.below hx (Nat.le_refl _)) hx.size (by omega)
  rw [hT1, hT2] at HE1
  rw [hT1] at HE2 hz1
  rw [hT2] at HE3 hz2
  have HE1 := Lib.hid HE1
  have HE2 := Lib.hid HE2
  have HE3 := Lib.hid HE3
  have HB4 := Lib.hid (HB2.out.trans (HB3.out.mono HB1.out.size))
  clear hT1 hT2 hsu
  go_wp2_with fail
  refine HE1.out.mono ?_; rintro e w4 ⟨rfl, hb4⟩
  have HB5 := Lib.hid (bel_call HB4.out hb4)
  clear hb4
  go_wp2_with fail
  refine (HE2.out _ HB5.out).mono ?_; rintro e w5 ⟨rfl, hb5⟩
  have HB6 := Lib.hid (bel_call HB5.out hb5)
  clear hb5
  go_wp2_with fail
  refine (HE3.out _ HB6.out).mono ?_; rintro e w6 ⟨rfl, hb6⟩
  have HB7 := Lib.hid (bel_call HB6.out hb6)
  clear hb6
  go_wp2_with fail
  go_ret
  exact ⟨rfl, HB7.out⟩
end Go.Proofs.Ytckmjpnkjnihlaa
