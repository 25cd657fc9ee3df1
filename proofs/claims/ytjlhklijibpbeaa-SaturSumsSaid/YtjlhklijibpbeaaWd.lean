/-
  The walk over bits.Div64 (the library's own text), for a divisor of at most 2^53: it returns the quotient.
-/
import Derived.Test.YtjlhklijibpbeaaWc
import Derived.BigQuiet
import Derived.Deep.QuietTactic
namespace Go.Proofs.Ytjlhklijibpbeaa
open Go.RowKit
set_option linter.unusedVariables false

theorem lz_any (y : Int) (s : Nat) (w : World) (h0 : 0 ≤ y) (h1 : y ≤ 9007199254740992) (hs : s + Lib.bitLen y.toNat = 64) :
    Calls Try.prog 30 #[.int .u64 y] w fun e w' => e = .returned (.int .i64 (s : Int)) ∧ w = w' :=
  (Try.bits_LeadingZeros64 y w h0 (by omega)).mono fun e w' ⟨he, hw⟩ => ⟨by rw [he]; exact ret_i (by omega), hw.symm⟩

/-- What Div64 hands back: the quotient, and a word. -/
def Quo (q : Int) (w : World) (e : Ending) (w' : World) : Prop := ∃ r : Int, e = .returned (.tuple #[.int .u64 q, .int .u64 r]) ∧ w = w'

theorem quo_mk {Q q r : Int} {w : World} (h : Q = q) : Quo q w (.returned (.tuple #[.int .u64 Q, .int .u64 r])) w := ⟨r, by rw [h], rfl⟩

/-- A test of a loop's: is the estimate too great? -/
theorem too_great {q r Y0 u : Int} (h : ¬ (4294967296 ≤ q ∨ 4294967296 * r + u < q * Y0)) : q ≤ 4294967295 ∧ q * Y0 ≤ 4294967296 * r + u := by omega

/-- The digit that is the quotient's. -/
def digit (U Y1 Y0 u : Int) : Int := (U * 4294967296 + u) / (Y1 * 4294967296 + Y0)
def remnant (U Y1 Y0 u : Int) : Int := (U * 4294967296 + u) % (Y1 * 4294967296 + Y0)

/-- What a round of the second digit asks of the rest. -/
theorem second {U Y1 Y0 u v T : Int} (D : Digits U Y1 Y0 u) (hT : T = remnant U Y1 Y0 u) (h0 : 0 ≤ v) (h1 : v ≤ 4294967295) :
    Digits T Y1 Y0 v ∧ 0 ≤ T ∧ T ≤ 18446744073709551615 ∧ 0 ≤ T / Y1 ∧ T / Y1 ≤ 4294967297 ∧ 0 ≤ T / Y1 * Y1 ∧ T / Y1 * Y1 ≤ T ∧ Est T Y1 Y0 v (T / Y1) (T - T / Y1 * Y1) := by
  obtain ⟨_, _, a0, a1, b0, b1, _, _⟩ := D
  have m0 : 0 ≤ T := by rw [hT]; exact Int.emod_nonneg _ (by omega)
  have m1 : T < Y1 * 4294967296 + Y0 := by rw [hT]; exact Int.emod_lt_of_pos _ (by omega)
  have D2 : Digits T Y1 Y0 v := ⟨m0, m1, a0, a1, b0, b1, h0, h1⟩
  have he := est_start D2
  have hb := est_q D2 he
  exact ⟨D2, m0, by omega, hb.1, hb.2.1, Int.mul_nonneg hb.1 (by omega), by omega, he⟩

set_option maxHeartbeats 1000000 in
theorem div_core (hi lo y : Int) (s : Nat) (w : World) (a0 : 1 ≤ hi) (a1 : hi < y) (a2 : y ≤ 9007199254740992) (b0 : 0 ≤ lo) (b1 : lo ≤ 18446744073709551615)
    (s0 : 1 ≤ s) (s1 : s ≤ 63) (HS : Hid (s + Lib.bitLen y.toNat = 64)) (Y Y1 Y0 U V V1 V0 p0 : Int)
    (E1 : IntKind.u64.wrap (y * 2 ^ s) = Y) (E2 : Y / 4294967296 = Y1) (E3 : bits BinOp.and IntKind.u64 Y 4294967295 = Y0)
    (E4 : bits BinOp.or IntKind.u64 (IntKind.u64.wrap (hi * 2 ^ s)) (lo / 2 ^ (64 - s)) = U) (E5 : IntKind.u64.wrap (lo * 2 ^ s) = V)
    (E6 : V / 4294967296 = V1) (E7 : bits BinOp.and IntKind.u64 V 4294967295 = V0) (E9 : U / Y1 * Y1 = p0)
    (y0 : 9223372036854775808 ≤ Y) (y1 : Y ≤ 18446744073709551615) (v0 : 0 ≤ V) (v1 : V ≤ 18446744073709551615) (k0 : 0 ≤ V0) (k1 : V0 ≤ 4294967295)
    (u0 : 0 ≤ U) (u1 : U ≤ 18446744073709551615) (D1 : Digits U Y1 Y0 V1) (HY : Hid (Y = Y1 * 4294967296 + Y0))
    (c0 : 0 ≤ U / Y1) (c1 : U / Y1 ≤ 4294967297) (c2 : 0 ≤ p0) (c3 : p0 ≤ U) (HE : Est U Y1 Y0 V1 (U / Y1) (U - p0)) :
    Calls Try.prog 28 #[.int .u64 hi, .int .u64 lo, .int .u64 y] w (Quo (digit U Y1 Y0 V1 * 4294967296 + digit (remnant U Y1 Y0 V1) Y1 Y0 V0) w) := by
  have e1 : (y == 0) = false := by simp; omega
  have e2 : (hi == 0) = false := by simp; omega
  have d0 := D1.a0
  have d1 := D1.a1
  have d2 := D1.b0
  have d3 := D1.b1
  have d4 := D1.v0
  have d5 := D1.v1
  go_enter Try.func28, Try.ntmps28
  go_upto_block 0 with (go_at_call 30; refine (lz_any _ s _ (by omega) (by omega) HS.out).mono ?_; rintro e w' ⟨rfl, rfl⟩)
  go_cut [15, 16] (fun s15 _ wx => w = wx ∧ ∃ Q : Int, Hid (Q = (U * 4294967296 + V1) / (Y1 * 4294967296 + Y0)) ∧ s15 = .int .u64 Q)
  case first =>
    go_wp2_with fail
    go_loop [15, 16] (fun s15 s16 => ∃ q r : Int, Est U Y1 Y0 V1 q r ∧ s15 = .int .u64 q ∧ s16 = .int .u64 r) (fun s15 _ => (intOf s15).toNat)
    case atStart => exact ⟨U / Y1, U - p0, HE, rfl, rfl⟩
    case round =>
      obtain ⟨q, r, hq, rfl, rfl⟩ := hrel
      clear HE E1 E2 E3 E4 E5 E6 E7 E9 c0 c1 c2 c3
      obtain ⟨g0, g1, g2, g3⟩ := est_q D1 hq
      by_cases t : 4294967296 ≤ q ∨ 4294967296 * r + V1 < q * Y0
      · have hb := Lib.hid (est_break D1 hq t)
        have hg := Lib.hid (est_go D1 hq t)
        have hl := est_less D1 hq t
        have hn := D1.nonneg
        have q1 : 1 ≤ q := by omega
        clear hl hn
        by_cases tq : 4294967296 ≤ q
        · by_cases tr : 4294967296 ≤ r + Y1
          · clear hg t
            go_wp2_with fail
            go_meet
            exact ⟨rfl, q - 1, Lib.hid (hb.out tr), rfl⟩
          · clear hb t
            go_wp2_with fail
            go_round
            case rel => exact ⟨q - 1, r + Y1, hg.out (by omega), rfl, rfl⟩
            case measure => simp [intOf]; omega
        · have tp : 4294967296 * r + V1 < q * Y0 := by omega
          obtain ⟨z0, z1⟩ := prod_bd g0 (by omega : q ≤ 4294967295) d2 d3
          clear t
          obtain ⟨p, hp⟩ : ∃ p, q * Y0 = p := ⟨_, rfl⟩
          rw [hp] at tp z0 z1
          by_cases tr : 4294967296 ≤ r + Y1
          · clear hg
            go_wp2_with fail
            go_meet
            exact ⟨rfl, q - 1, Lib.hid (hb.out tr), rfl⟩
          · clear hb
            go_wp2_with fail
            go_round
            case rel => exact ⟨q - 1, r + Y1, hg.out (by omega), rfl, rfl⟩
            case measure => simp [intOf]; omega
      · obtain ⟨tq, tp⟩ := too_great t
        have hs := Lib.hid (est_stop D1 hq tp)
        obtain ⟨z0, z1⟩ := prod_bd g0 tq d2 d3
        clear t
        obtain ⟨p, hp⟩ : ∃ p, q * Y0 = p := ⟨_, rfl⟩
        rw [hp] at tp z0 z1
        go_wp2_with fail
        go_meet
        exact ⟨rfl, q, hs, rfl⟩
  case rest =>
    obtain ⟨rfl, Q, hQ, rfl⟩ := hcut
    clear HE E1 E2 E3 E4 E5 E6 E7 E9 c0 c1 c2 c3
    obtain ⟨T, hT0⟩ : ∃ T, T = remnant U Y1 Y0 V1 := ⟨_, rfl⟩
    have HT := Lib.hid hT0
    clear hT0
    have E10 : IntKind.u64.wrap (IntKind.u64.wrap (IntKind.u64.wrap (U * 4294967296) + V1) - IntKind.u64.wrap (Q * Y)) = T := by
      rw [HT.out, hQ.out, HY.out]; exact rest_wrap D1
    have q0 : 0 ≤ Q := by rw [hQ.out]; exact D1.nonneg
    have q1 : Q ≤ 4294967295 := by rw [hQ.out]; exact D1.small
    obtain ⟨D2, t0, t1, c0, c1, c2, c3, HE⟩ := second D1 HT.out k0 k1
    obtain ⟨p1, E11⟩ : ∃ p1, T / Y1 * Y1 = p1 := ⟨_, rfl⟩
    rw [E11] at c2 c3 HE
    go_upto_block 2 with (fail)
    go_cut [16, 18] (fun _ s18 wx => w = wx ∧ ∃ Q : Int, Hid (Q = (T * 4294967296 + V0) / (Y1 * 4294967296 + Y0)) ∧ s18 = .int .u64 Q)
    case first =>
      go_wp2_with fail
      go_loop [16, 18] (fun s16 s18 => ∃ q r : Int, Est T Y1 Y0 V0 q r ∧ s18 = .int .u64 q ∧ s16 = .int .u64 r) (fun _ s18 => (intOf s18).toNat)
      case atStart => exact ⟨T / Y1, T - p1, HE, rfl, rfl⟩
      case round =>
        obtain ⟨q, r, hq, rfl, rfl⟩ := hrel
        clear HE E10 E11 c0 c1 c2 c3
        obtain ⟨g0, g1, g2, g3⟩ := est_q D2 hq
        by_cases t : 4294967296 ≤ q ∨ 4294967296 * r + V0 < q * Y0
        · have hb := Lib.hid (est_break D2 hq t)
          have hg := Lib.hid (est_go D2 hq t)
          have hl := est_less D2 hq t
          have hn := D2.nonneg
          have q1 : 1 ≤ q := by omega
          clear hl hn
          by_cases tq : 4294967296 ≤ q
          · by_cases tr : 4294967296 ≤ r + Y1
            · clear hg t
              go_wp2_with fail
              go_meet
              exact ⟨rfl, q - 1, Lib.hid (hb.out tr), rfl⟩
            · clear hb t
              go_wp2_with fail
              go_round
              case rel => exact ⟨q - 1, r + Y1, hg.out (by omega), rfl, rfl⟩
              case measure => simp [intOf]; omega
          · have tp : 4294967296 * r + V0 < q * Y0 := by omega
            obtain ⟨z0, z1⟩ := prod_bd g0 (by omega : q ≤ 4294967295) d2 d3
            clear t
            obtain ⟨p, hp⟩ : ∃ p, q * Y0 = p := ⟨_, rfl⟩
            rw [hp] at tp z0 z1
            by_cases tr : 4294967296 ≤ r + Y1
            · clear hg
              go_wp2_with fail
              go_meet
              exact ⟨rfl, q - 1, Lib.hid (hb.out tr), rfl⟩
            · clear hb
              go_wp2_with fail
              go_round
              case rel => exact ⟨q - 1, r + Y1, hg.out (by omega), rfl, rfl⟩
              case measure => simp [intOf]; omega
        · obtain ⟨tq, tp⟩ := too_great t
          have hs := Lib.hid (est_stop D2 hq tp)
          obtain ⟨z0, z1⟩ := prod_bd g0 tq d2 d3
          clear t
          obtain ⟨p, hp⟩ : ∃ p, q * Y0 = p := ⟨_, rfl⟩
          rw [hp] at tp z0 z1
          go_wp2_with fail
          go_meet
          exact ⟨rfl, q, hs, rfl⟩
    case rest =>
      obtain ⟨rfl, R, hR, rfl⟩ := hcut
      clear HE E10 E11 c0 c1 c2 c3
      have r0 : 0 ≤ R := by rw [hR.out]; exact D2.nonneg
      have r1 : R ≤ 4294967295 := by rw [hR.out]; exact D2.small
      have hfin : Hid (Q * 4294967296 + R = digit U Y1 Y0 V1 * 4294967296 + digit (remnant U Y1 Y0 V1) Y1 Y0 V0) :=
        Lib.hid (by rw [show digit U Y1 Y0 V1 = Q from hQ.out.symm, ← HT.out, show digit T Y1 Y0 V0 = R from hR.out.symm])
      go_wp2_with fail
      go_ret2
      exact quo_mk hfin.out

end Go.Proofs.Ytjlhklijibpbeaa
