/-
  Walks over Mean, Spread, Ceil, Wait, Min and Max, the program's and the reference's: each tells what its plain function says; at most a NaN's bits have been drawn.
-/
import Derived.Test.YtonjjblifcgapaaWa
namespace Go.Proofs.Ytonjjblifcgapaa
open Go.RowKit
set_option linter.unusedVariables false

/-- A word is told, and at most draws have been made. -/
def TellsF (x : Nat) (w : World) (e : Ending) (w' : World) : Prop := ∃ n, e = .returned (.float .f64 x) ∧ w' = w.drewN n
theorem tellsF_mk {a x : Nat} {w : World} {n : Nat} (h : a = x) : TellsF x w (.returned (.float .f64 a)) (w.drewN n) := ⟨n, by rw [h], rfl⟩
theorem tellsF_mk0 {a x : Nat} {w : World} (h : a = x) : TellsF x w (.returned (.float .f64 a)) w := ⟨0, by rw [h], rfl⟩

set_option maxHeartbeats 1000000 in
theorem mean_any (old now part : Nat) (w : World) : Calls Try.prog 11 #[.float .f64 old, .float .f64 now, .float .f64 part] w (TellsF (meanF old now part) w) := by
  by_cases ho : isN old = true
  · have HF := Lib.hid (mean_old (now := now) (part := part) ho).symm
    go_enter Try.func11, Try.ntmps11
    go_wp2_with (go_at_call 30; refine (sisnan_any _ _).mono ?_; rintro e w' ⟨rfl, rfl⟩)
    go_ret
    exact tellsF_mk0 HF.out
  · have ho' : isN old = false := by simpa using ho
    clear ho
    by_cases hn : isN now = true
    · have HF := Lib.hid (mean_now (part := part) ho' hn).symm
      go_enter Try.func11, Try.ntmps11
      go_wp2_with (go_at_call 30; refine (sisnan_any _ _).mono ?_; rintro e w' ⟨rfl, rfl⟩)
      go_ret
      exact tellsF_mk0 HF.out
    · have hn' : isN now = false := by simpa using hn
      clear hn
      obtain ⟨d, n1, hd, fd⟩ := arith_step (P := Try.prog) .sub (by simp) 22 now old w
      obtain ⟨p, n2, hp, fp⟩ := arith_step (P := Try.prog) .mul (by simp) 22 part d (w.drewN n1)
      obtain ⟨m, n3, hm, fm⟩ := arith_step (P := Try.prog) .add (by simp) 22 old p ((w.drewN n1).drewN n2)
      simp only [World.drewN_drewN] at hp hm
      obtain ⟨s1, s2⟩ := mean_steps ho' hn' fd fp fm
      clear fd fp fm
      by_cases hx : isN m = true
      · have HF := Lib.hid (s1 hx).symm
        clear s1 s2
        go_enter Try.func11, Try.ntmps11
        go_wp2_with (go_at_call 30; refine (sisnan_any _ _).mono ?_; rintro e w' ⟨rfl, rfl⟩)
        go_ret
        exact tellsF_mk HF.out
      · have hx' : isN m = false := by simpa using hx
        have HF := Lib.hid (s2 hx').symm
        clear s1 s2 hx
        go_enter Try.func11, Try.ntmps11
        go_wp2_with (go_at_call 30; refine (sisnan_any _ _).mono ?_; rintro e w' ⟨rfl, rfl⟩)
        go_ret
        exact tellsF_mk HF.out

set_option maxHeartbeats 1000000 in
theorem rmean_any (old now part : Nat) (w : World) : Calls Try.prog 12 #[.float .f64 old, .float .f64 now, .float .f64 part] w (TellsF (meanF old now part) w) := by
  by_cases ho : isN old = true
  · have HF := Lib.hid (mean_old (now := now) (part := part) ho).symm
    go_enter Try.func12, Try.ntmps12
    go_wp2_with (go_at_call 25; refine (isnan_any _ _).mono ?_; rintro e w' ⟨rfl, rfl⟩)
    go_ret
    exact tellsF_mk0 HF.out
  · have ho' : isN old = false := by simpa using ho
    clear ho
    by_cases hn : isN now = true
    · have HF := Lib.hid (mean_now (part := part) ho' hn).symm
      go_enter Try.func12, Try.ntmps12
      go_wp2_with (go_at_call 25; refine (isnan_any _ _).mono ?_; rintro e w' ⟨rfl, rfl⟩)
      go_ret
      exact tellsF_mk0 HF.out
    · have hn' : isN now = false := by simpa using hn
      clear hn
      obtain ⟨d, n1, hd, fd⟩ := arith_step (P := Try.prog) .sub (by simp) 22 now old w
      obtain ⟨p, n2, hp, fp⟩ := arith_step (P := Try.prog) .mul (by simp) 22 part d (w.drewN n1)
      obtain ⟨m, n3, hm, fm⟩ := arith_step (P := Try.prog) .add (by simp) 22 old p ((w.drewN n1).drewN n2)
      simp only [World.drewN_drewN] at hp hm
      obtain ⟨s1, s2⟩ := mean_steps ho' hn' fd fp fm
      clear fd fp fm
      by_cases hx : isN m = true
      · have HF := Lib.hid (s1 hx).symm
        clear s1 s2
        go_enter Try.func12, Try.ntmps12
        go_wp2_with (go_at_call 25; refine (isnan_any _ _).mono ?_; rintro e w' ⟨rfl, rfl⟩)
        go_ret
        exact tellsF_mk HF.out
      · have hx' : isN m = false := by simpa using hx
        have HF := Lib.hid (s2 hx').symm
        clear s1 s2 hx
        go_enter Try.func12, Try.ntmps12
        go_wp2_with (go_at_call 25; refine (isnan_any _ _).mono ?_; rintro e w' ⟨rfl, rfl⟩)
        go_ret
        exact tellsF_mk HF.out

/-! ### Spread -/

/-- What Spread tells: of a difference that is no number any NaN serves. -/
def SpreadR (old mean now part r : Nat) : Prop := ∃ d, FR (Ieee.double.sub now mean) d ∧ r = meanF old (absF d) part

def TellsS (old mean now part : Nat) (w : World) (e : Ending) (w' : World) : Prop := ∃ r n, SpreadR old mean now part r ∧ e = .returned (.float .f64 r) ∧ w' = w.drewN n

set_option maxHeartbeats 1000000 in
theorem spread_any (old mean now part : Nat) (w : World) : Calls Try.prog 13 #[.float .f64 old, .float .f64 mean, .float .f64 now, .float .f64 part] w (TellsS old mean now part w) := by
  obtain ⟨d, n1, hd, fd⟩ := arith_step (P := Try.prog) .sub (by simp) 22 now mean w
  have hb := fd.1
  have FD := Lib.hid fd
  clear fd
  go_enter Try.func13, Try.ntmps13
  go_wp2_with (first | (go_at_call 26; refine (abs_any _ hb _).mono ?_; rintro e w' ⟨rfl, rfl⟩) | (go_at_call 11; refine (mean_any _ _ _ _).mono ?_; rintro e w' ⟨k, rfl, rfl⟩))
  go_ret
  exact ⟨_, _, ⟨d, FD.out, rfl⟩, rfl, rfl⟩

set_option maxHeartbeats 1000000 in
theorem rspread_any (old mean now part : Nat) (w : World) : Calls Try.prog 14 #[.float .f64 old, .float .f64 mean, .float .f64 now, .float .f64 part] w (TellsS old mean now part w) := by
  obtain ⟨d, n1, hd, fd⟩ := arith_step (P := Try.prog) .sub (by simp) 22 now mean w
  have hb := fd.1
  have FD := Lib.hid fd
  clear fd
  go_enter Try.func14, Try.ntmps14
  go_wp2_with (first | (go_at_call 26; refine (abs_any _ hb _).mono ?_; rintro e w' ⟨rfl, rfl⟩) | (go_at_call 12; refine (rmean_any _ _ _ _).mono ?_; rintro e w' ⟨k, rfl, rfl⟩))
  go_ret
  exact ⟨_, _, ⟨d, FD.out, rfl⟩, rfl, rfl⟩

theorem spread_same {old mean now part r s : Nat} (h : SpreadR old mean now part r) (g : SpreadR old mean now part s) : sameB r s = true := by
  obtain ⟨d, hd, rfl⟩ := h
  obtain ⟨c, hc, rfl⟩ := g
  unfold sameB
  cases e : Ieee.double.sub now mean with
  | some b =>
    have h1 := FR_some hd e
    have h2 := FR_some hc e
    subst h1; subst h2
    simp
  | none =>
    have h1 : isN (absF d) = true := by rw [(abs_facts d).1]; exact FR_none hd e
    have h2 : isN (absF c) = true := by rw [(abs_facts c).1]; exact FR_none hc e
    cases ho : isN old with
    | true => rw [mean_old ho, mean_old ho, h1, h2]; simp
    | false => rw [mean_now ho h1, mean_now ho h2]; simp

end Go.Proofs.Ytonjjblifcgapaa
