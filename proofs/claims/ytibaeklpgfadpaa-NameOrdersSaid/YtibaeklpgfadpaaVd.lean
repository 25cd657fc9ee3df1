/-
  The statement about the order of names.
-/
import Derived.Test.YtibaeklpgfadpaaVc
namespace Go.Proofs.Ytibaeklpgfadpaa
open Go.RowKit Go.Shelf
set_option linter.unusedVariables false
set_option linter.unusedSimpArgs false

theorem tell_on {f : Nat} {args : Array Value} {v : Value} {w0 w : World} (h : Hid (Below w0.heap.size w0 w)) (hc : Calls Try.prog f args w (Tells w v)) : Calls Try.prog f args w fun e w' => e = .returned v ∧ Hid (Below w0.heap.size w0 w') :=
  hc.mono fun e w' hp => ⟨hp.1, bel_call h.out hp.2⟩

set_option maxRecDepth 100000 in
set_option maxHeartbeats 4000000 in
theorem orders_early (a b c : List UInt8) (w : World) (h : 400 < a.length ∨ 400 < b.length ∨ 400 < c.length ∨ chk a ≠ 0 ∨ chk b ≠ 0 ∨ chk c ≠ 0) :
    Calls Try.prog 6 #[.string (bs a), .string (bs b), .string (bs c)] w (Tells w (.bool true)) := by
  have HAW := Lib.hid awake_any
  have HB := Lib.hid (Below.refl w.heap.size w)
  by_cases h1 : 400 < a.length
  · have t1 : decide ((400 : Int) < a.length) = true := by simp; omega
    clear h
    go_enter Try.func6, Try.ntmps6
    go_wp2_with (go_at_call 21; refine (tell_on HB (HAW.out _)).mono ?_; rintro e w1 ⟨rfl, HB⟩)
    go_ret
    exact ⟨rfl, HB.out⟩
  have t1 : decide ((400 : Int) < a.length) = false := by simp; omega
  by_cases h2 : 400 < b.length
  · have t2 : decide ((400 : Int) < b.length) = true := by simp; omega
    clear h
    go_enter Try.func6, Try.ntmps6
    go_wp2_with (go_at_call 21; refine (tell_on HB (HAW.out _)).mono ?_; rintro e w1 ⟨rfl, HB⟩)
    go_ret
    exact ⟨rfl, HB.out⟩
  have t2 : decide ((400 : Int) < b.length) = false := by simp; omega
  by_cases h3 : 400 < c.length
  · have t3 : decide ((400 : Int) < c.length) = true := by simp; omega
    clear h
    go_enter Try.func6, Try.ntmps6
    go_wp2_with (go_at_call 21; refine (tell_on HB (HAW.out _)).mono ?_; rintro e w1 ⟨rfl, HB⟩)
    go_ret
    exact ⟨rfl, HB.out⟩
  have t3 : decide ((400 : Int) < c.length) = false := by simp; omega
  have HA := Lib.hid (fun w => check_any a (by omega) w)
  have HBB := Lib.hid (fun w => check_any b (by omega) w)
  have HC := Lib.hid (fun w => check_any c (by omega) w)
  obtain ⟨ca, hca⟩ : ∃ x, chk a = x := ⟨_, rfl⟩
  obtain ⟨cb, hcb⟩ : ∃ x, chk b = x := ⟨_, rfl⟩
  obtain ⟨cc, hcc⟩ : ∃ x, chk c = x := ⟨_, rfl⟩
  rw [hca] at HA h
  rw [hcb] at HBB h
  rw [hcc] at HC h
  clear hca hcb hcc
  by_cases h4 : ca = 0
  · subst h4
    by_cases h5 : cb = 0
    · subst h5
      have h6 : cc ≠ 0 := by omega
      have t6 : (cc == 0) = false := by simpa using h6
      clear h
      go_enter Try.func6, Try.ntmps6
      go_wp2_with fail
      refine (tell_on HB (HAW.out _)).mono ?_; rintro e w1 ⟨rfl, HB⟩
      go_wp2_with fail
      refine (tell_on HB (HA.out _)).mono ?_; rintro e w1 ⟨rfl, HB⟩
      go_wp2_with fail
      refine (tell_on HB (HBB.out _)).mono ?_; rintro e w1 ⟨rfl, HB⟩
      go_wp2_with fail
      refine (tell_on HB (HC.out _)).mono ?_; rintro e w1 ⟨rfl, HB⟩
      go_wp2_with fail
      go_ret
      exact ⟨rfl, HB.out⟩
    · have t5 : (cb == 0) = false := by simpa using h5
      clear h
      go_enter Try.func6, Try.ntmps6
      go_wp2_with fail
      refine (tell_on HB (HAW.out _)).mono ?_; rintro e w1 ⟨rfl, HB⟩
      go_wp2_with fail
      refine (tell_on HB (HA.out _)).mono ?_; rintro e w1 ⟨rfl, HB⟩
      go_wp2_with fail
      refine (tell_on HB (HBB.out _)).mono ?_; rintro e w1 ⟨rfl, HB⟩
      go_wp2_with fail
      go_ret
      exact ⟨rfl, HB.out⟩
  · have t4 : (ca == 0) = false := by simpa using h4
    clear h
    go_enter Try.func6, Try.ntmps6
    go_wp2_with fail
    refine (tell_on HB (HAW.out _)).mono ?_; rintro e w1 ⟨rfl, HB⟩
    go_wp2_with fail
    refine (tell_on HB (HA.out _)).mono ?_; rintro e w1 ⟨rfl, HB⟩
    go_wp2_with fail
    go_ret
    exact ⟨rfl, HB.out⟩

/-- What the program's functions answer of three names. -/
structure Asked (a b c p : List UInt8) (x z1 z2 : Int) (sm ha : Bool) (la lb : List UInt8) (wac wca wab : Bool) (k kp : Nat) (wap wpa : Bool) : Prop where
  HA : ∀ w, Calls Try.prog 16 #[.string (bs a)] w (Tells w (.int .i64 0))
  HBB : ∀ w, Calls Try.prog 16 #[.string (bs b)] w (Tells w (.int .i64 0))
  HC : ∀ w, Calls Try.prog 16 #[.string (bs c)] w (Tells w (.int .i64 0))
  HXab : ∀ w, Calls Try.prog 30 #[.string (bs a), .string (bs b)] w (Tells w (.int .i64 x))
  HXba : ∀ w, Calls Try.prog 30 #[.string (bs b), .string (bs a)] w (Tells w (.int .i64 (-x)))
  HXbc : ∀ w, Calls Try.prog 30 #[.string (bs b), .string (bs c)] w (Tells w (.int .i64 z1))
  HXac : ∀ w, Calls Try.prog 30 #[.string (bs a), .string (bs c)] w (Tells w (.int .i64 z2))
  HS : ∀ w, Calls Try.prog 26 #[.string (bs a), .string (bs b)] w (Tells w (.bool sm))
  HLa : ∀ w, Calls Try.prog 24 #[.string (bs a)] w (Tells w (.string (bs la)))
  HLb : ∀ w, Calls Try.prog 24 #[.string (bs b)] w (Tells w (.string (bs lb)))
  HWac : ∀ w, Calls Try.prog 28 #[.string (bs a), .string (bs c)] w (Tells w (.bool wac))
  HWbc : x = 0 → ∀ w, Calls Try.prog 28 #[.string (bs b), .string (bs c)] w (Tells w (.bool wac))
  HWca : ∀ w, Calls Try.prog 28 #[.string (bs c), .string (bs a)] w (Tells w (.bool wca))
  HWcb : x = 0 → ∀ w, Calls Try.prog 28 #[.string (bs c), .string (bs b)] w (Tells w (.bool wca))
  HWaa : ∀ w, Calls Try.prog 28 #[.string (bs a), .string (bs a)] w (Tells w (.bool true))
  HWar : ∀ w, Calls Try.prog 28 #[.string (bs a), .string (bs [0])] w (Tells w (.bool true))
  HWab : ∀ w, Calls Try.prog 28 #[.string (bs a), .string (bs b)] w (Tells w (.bool wab))
  HWap : ∀ w, Calls Try.prog 28 #[.string (bs a), .string (bs p)] w (Tells w (.bool wap))
  HWpa : ∀ w, Calls Try.prog 28 #[.string (bs p), .string (bs a)] w (Tells w (.bool wpa))
  HP : ∀ w, Calls Try.prog 22 #[.string (bs a)] w (Tells w (.tuple #[.string (bs p), .bool ha]))
  HKa : ∀ w, Calls Try.prog 18 #[.string (bs a)] w (Tells w (.int .i64 k))
  HKp : ∀ w, Calls Try.prog 18 #[.string (bs p)] w (Tells w (.int .i64 kp))

set_option maxRecDepth 100000 in
set_option maxHeartbeats 16000000 in
theorem orders_core {a b c p : List UInt8} {x z1 z2 : Int} {sm ha : Bool} {la lb : List UInt8} {wac wca wab : Bool} {k kp : Nat} {wap wpa : Bool} (h : Asked a b c p x z1 z2 sm ha la lb wac wca wab k kp wap wpa)
    (h1 : a.length ≤ 400) (h2 : b.length ≤ 400) (h3 : c.length ≤ 400)
    (hx : x = -1 ∨ x = 0 ∨ x = 1) (hsm : sm = decide (x = 0)) (hlo : ((bs la).toList == (bs lb).toList) = sm) (hz : x ≤ 0 → z1 ≤ 0 → z2 ≤ 0) (hab : wab = true → 0 ≤ x)
    (hk : k ≤ 400) (hka : ha = decide (0 < k)) (hkp : ha = true → k = kp + 1 ∧ wap = true ∧ wpa = false) (w : World) :
    Calls Try.prog 6 #[.string (bs a), .string (bs b), .string (bs c)] w (Tells w (.bool true)) := by
  have HAW := Lib.hid awake_any
  have HB := Lib.hid (Below.refl w.heap.size w)
  have t1 : decide ((400 : Int) < a.length) = false := by simp; omega
  have t2 : decide ((400 : Int) < b.length) = false := by simp; omega
  have t3 : decide ((400 : Int) < c.length) = false := by simp; omega
  have HA := Lib.hid h.HA
  have HBB := Lib.hid h.HBB
  have HC := Lib.hid h.HC
  have HXab := Lib.hid h.HXab
  have HXba := Lib.hid h.HXba
  have HXbc := Lib.hid h.HXbc
  have HXac := Lib.hid h.HXac
  have HS := Lib.hid h.HS
  have HLa := Lib.hid h.HLa
  have HLb := Lib.hid h.HLb
  have HWac := Lib.hid h.HWac
  have HWbc0 := Lib.hid h.HWbc
  have HWca := Lib.hid h.HWca
  have HWcb0 := Lib.hid h.HWcb
  have HWaa := Lib.hid h.HWaa
  have HWar := Lib.hid h.HWar
  have HWab := Lib.hid h.HWab
  have HWap := Lib.hid h.HWap
  have HWpa := Lib.hid h.HWpa
  have HP := Lib.hid h.HP
  have HKa := Lib.hid h.HKa
  have HKp := Lib.hid h.HKp
  clear h h1 h2 h3
  have HX : Hid (x = -1 ∨ x = 0 ∨ x = 1) := hx
  cases hha : ha with
  | false =>
    subst hha
    have hk0 : k = 0 := by have := hka.symm; simpa using this
    subst hk0
    clear hka hkp hk
    rcases hx with rfl | rfl | rfl
    · subst hsm
      have hwab : wab = false := by cases wab with | false => rfl | true => exact absurd (hab rfl) (by omega)
      subst hwab
      replace hlo : ((bs la).toList == (bs lb).toList) = false := hlo
      replace HS : Hid (∀ w, Calls Try.prog 26 #[.string (bs a), .string (bs b)] w (Tells w (.bool false))) := HS
      replace HXba : Hid (∀ w, Calls Try.prog 30 #[.string (bs b), .string (bs a)] w (Tells w (.int .i64 (1)))) := HXba
      by_cases hz1 : z1 ≤ 0
      · have u1 : decide (z1 ≤ 0) = true := by simpa using hz1
        have u2 : decide (0 < z2) = false := by have := hz (by omega) hz1; simpa using this
        clear hz1 hz hab HX HWbc0 HWcb0
        go_enter Try.func6, Try.ntmps6
        go_wp2_with fail
        refine (tell_on HB (HAW.out _)).mono ?_; rintro e w1 ⟨rfl, HB⟩
        go_wp2_with fail
        refine (tell_on HB (HA.out _)).mono ?_; rintro e w1 ⟨rfl, HB⟩
        go_wp2_with fail
        refine (tell_on HB (HBB.out _)).mono ?_; rintro e w1 ⟨rfl, HB⟩
        go_wp2_with fail
        refine (tell_on HB (HC.out _)).mono ?_; rintro e w1 ⟨rfl, HB⟩
        go_wp2_with fail
        refine (tell_on HB (HXab.out _)).mono ?_; rintro e w1 ⟨rfl, HB⟩
        go_wp2_with fail
        refine (tell_on HB (HXba.out _)).mono ?_; rintro e w1 ⟨rfl, HB⟩
        go_wp2_with fail
        refine (tell_on HB (HS.out _)).mono ?_; rintro e w1 ⟨rfl, HB⟩
        go_wp2_with fail
        refine (tell_on HB (HS.out _)).mono ?_; rintro e w1 ⟨rfl, HB⟩
        go_wp2_with fail
        refine (tell_on HB (HLa.out _)).mono ?_; rintro e w1 ⟨rfl, HB⟩
        go_wp2_with fail
        refine (tell_on HB (HLb.out _)).mono ?_; rintro e w1 ⟨rfl, HB⟩
        go_wp2_with fail
        refine (tell_on HB (HXbc.out _)).mono ?_; rintro e w1 ⟨rfl, HB⟩
        go_wp2_with fail
        refine (tell_on HB (HXac.out _)).mono ?_; rintro e w1 ⟨rfl, HB⟩
        go_wp2_with fail
        refine (tell_on HB (HP.out _)).mono ?_; rintro e w1 ⟨rfl, HB⟩
        go_wp2_with fail
        refine (tell_on HB (HKa.out _)).mono ?_; rintro e w1 ⟨rfl, HB⟩
        go_wp2_with fail
        refine (tell_on HB (HWaa.out _)).mono ?_; rintro e w1 ⟨rfl, HB⟩
        go_wp2_with fail
        refine (tell_on HB (HWar.out _)).mono ?_; rintro e w1 ⟨rfl, HB⟩
        go_wp2_with fail
        refine (tell_on HB (HWab.out _)).mono ?_; rintro e w1 ⟨rfl, HB⟩
        go_wp2_with fail
        go_ret
        exact ⟨rfl, HB.out⟩
      · have u1 : decide (z1 ≤ 0) = false := by simpa using hz1
        clear hz1 hz hab HX HWbc0 HWcb0
        go_enter Try.func6, Try.ntmps6
        go_wp2_with fail
        refine (tell_on HB (HAW.out _)).mono ?_; rintro e w1 ⟨rfl, HB⟩
        go_wp2_with fail
        refine (tell_on HB (HA.out _)).mono ?_; rintro e w1 ⟨rfl, HB⟩
        go_wp2_with fail
        refine (tell_on HB (HBB.out _)).mono ?_; rintro e w1 ⟨rfl, HB⟩
        go_wp2_with fail
        refine (tell_on HB (HC.out _)).mono ?_; rintro e w1 ⟨rfl, HB⟩
        go_wp2_with fail
        refine (tell_on HB (HXab.out _)).mono ?_; rintro e w1 ⟨rfl, HB⟩
        go_wp2_with fail
        refine (tell_on HB (HXba.out _)).mono ?_; rintro e w1 ⟨rfl, HB⟩
        go_wp2_with fail
        refine (tell_on HB (HS.out _)).mono ?_; rintro e w1 ⟨rfl, HB⟩
        go_wp2_with fail
        refine (tell_on HB (HS.out _)).mono ?_; rintro e w1 ⟨rfl, HB⟩
        go_wp2_with fail
        refine (tell_on HB (HLa.out _)).mono ?_; rintro e w1 ⟨rfl, HB⟩
        go_wp2_with fail
        refine (tell_on HB (HLb.out _)).mono ?_; rintro e w1 ⟨rfl, HB⟩
        go_wp2_with fail
        refine (tell_on HB (HXbc.out _)).mono ?_; rintro e w1 ⟨rfl, HB⟩
        go_wp2_with fail
        refine (tell_on HB (HP.out _)).mono ?_; rintro e w1 ⟨rfl, HB⟩
        go_wp2_with fail
        refine (tell_on HB (HKa.out _)).mono ?_; rintro e w1 ⟨rfl, HB⟩
        go_wp2_with fail
        refine (tell_on HB (HWaa.out _)).mono ?_; rintro e w1 ⟨rfl, HB⟩
        go_wp2_with fail
        refine (tell_on HB (HWar.out _)).mono ?_; rintro e w1 ⟨rfl, HB⟩
        go_wp2_with fail
        refine (tell_on HB (HWab.out _)).mono ?_; rintro e w1 ⟨rfl, HB⟩
        go_wp2_with fail
        go_ret
        exact ⟨rfl, HB.out⟩
    · subst hsm
      replace hlo : ((bs la).toList == (bs lb).toList) = true := hlo
      replace HS : Hid (∀ w, Calls Try.prog 26 #[.string (bs a), .string (bs b)] w (Tells w (.bool true))) := HS
      replace HXba : Hid (∀ w, Calls Try.prog 30 #[.string (bs b), .string (bs a)] w (Tells w (.int .i64 (0)))) := HXba
      have HWbc := Lib.hid (HWbc0.out rfl)
      have HWcb := Lib.hid (HWcb0.out rfl)
      by_cases hz1 : z1 ≤ 0
      · have u1 : decide (z1 ≤ 0) = true := by simpa using hz1
        have u2 : decide (0 < z2) = false := by have := hz (by omega) hz1; simpa using this
        clear hz1 hz hab HX HWbc0 HWcb0
        cases wab with
        | false =>
          go_enter Try.func6, Try.ntmps6
          go_wp2_with fail
          refine (tell_on HB (HAW.out _)).mono ?_; rintro e w1 ⟨rfl, HB⟩
          go_wp2_with fail
          refine (tell_on HB (HA.out _)).mono ?_; rintro e w1 ⟨rfl, HB⟩
          go_wp2_with fail
          refine (tell_on HB (HBB.out _)).mono ?_; rintro e w1 ⟨rfl, HB⟩
          go_wp2_with fail
          refine (tell_on HB (HC.out _)).mono ?_; rintro e w1 ⟨rfl, HB⟩
          go_wp2_with fail
          refine (tell_on HB (HXab.out _)).mono ?_; rintro e w1 ⟨rfl, HB⟩
          go_wp2_with fail
          refine (tell_on HB (HXba.out _)).mono ?_; rintro e w1 ⟨rfl, HB⟩
          go_wp2_with fail
          refine (tell_on HB (HS.out _)).mono ?_; rintro e w1 ⟨rfl, HB⟩
          go_wp2_with fail
          refine (tell_on HB (HS.out _)).mono ?_; rintro e w1 ⟨rfl, HB⟩
          go_wp2_with fail
          refine (tell_on HB (HLa.out _)).mono ?_; rintro e w1 ⟨rfl, HB⟩
          go_wp2_with fail
          refine (tell_on HB (HLb.out _)).mono ?_; rintro e w1 ⟨rfl, HB⟩
          go_wp2_with fail
          refine (tell_on HB (HXbc.out _)).mono ?_; rintro e w1 ⟨rfl, HB⟩
          go_wp2_with fail
          refine (tell_on HB (HXac.out _)).mono ?_; rintro e w1 ⟨rfl, HB⟩
          go_wp2_with fail
          refine (tell_on HB (HWac.out _)).mono ?_; rintro e w1 ⟨rfl, HB⟩
          go_wp2_with fail
          refine (tell_on HB (HWbc.out _)).mono ?_; rintro e w1 ⟨rfl, HB⟩
          go_wp2_with fail
          refine (tell_on HB (HWca.out _)).mono ?_; rintro e w1 ⟨rfl, HB⟩
          go_wp2_with fail
          refine (tell_on HB (HWcb.out _)).mono ?_; rintro e w1 ⟨rfl, HB⟩
          go_wp2_with fail
          refine (tell_on HB (HP.out _)).mono ?_; rintro e w1 ⟨rfl, HB⟩
          go_wp2_with fail
          refine (tell_on HB (HKa.out _)).mono ?_; rintro e w1 ⟨rfl, HB⟩
          go_wp2_with fail
          refine (tell_on HB (HWaa.out _)).mono ?_; rintro e w1 ⟨rfl, HB⟩
          go_wp2_with fail
          refine (tell_on HB (HWar.out _)).mono ?_; rintro e w1 ⟨rfl, HB⟩
          go_wp2_with fail
          refine (tell_on HB (HWab.out _)).mono ?_; rintro e w1 ⟨rfl, HB⟩
          go_wp2_with fail
          go_ret
          exact ⟨rfl, HB.out⟩
        | true =>
          go_enter Try.func6, Try.ntmps6
          go_wp2_with fail
          refine (tell_on HB (HAW.out _)).mono ?_; rintro e w1 ⟨rfl, HB⟩
          go_wp2_with fail
          refine (tell_on HB (HA.out _)).mono ?_; rintro e w1 ⟨rfl, HB⟩
          go_wp2_with fail
          refine (tell_on HB (HBB.out _)).mono ?_; rintro e w1 ⟨rfl, HB⟩
          go_wp2_with fail
          refine (tell_on HB (HC.out _)).mono ?_; rintro e w1 ⟨rfl, HB⟩
          go_wp2_with fail
          refine (tell_on HB (HXab.out _)).mono ?_; rintro e w1 ⟨rfl, HB⟩
          go_wp2_with fail
          refine (tell_on HB (HXba.out _)).mono ?_; rintro e w1 ⟨rfl, HB⟩
          go_wp2_with fail
          refine (tell_on HB (HS.out _)).mono ?_; rintro e w1 ⟨rfl, HB⟩
          go_wp2_with fail
          refine (tell_on HB (HS.out _)).mono ?_; rintro e w1 ⟨rfl, HB⟩
          go_wp2_with fail
          refine (tell_on HB (HLa.out _)).mono ?_; rintro e w1 ⟨rfl, HB⟩
          go_wp2_with fail
          refine (tell_on HB (HLb.out _)).mono ?_; rintro e w1 ⟨rfl, HB⟩
          go_wp2_with fail
          refine (tell_on HB (HXbc.out _)).mono ?_; rintro e w1 ⟨rfl, HB⟩
          go_wp2_with fail
          refine (tell_on HB (HXac.out _)).mono ?_; rintro e w1 ⟨rfl, HB⟩
          go_wp2_with fail
          refine (tell_on HB (HWac.out _)).mono ?_; rintro e w1 ⟨rfl, HB⟩
          go_wp2_with fail
          refine (tell_on HB (HWbc.out _)).mono ?_; rintro e w1 ⟨rfl, HB⟩
          go_wp2_with fail
          refine (tell_on HB (HWca.out _)).mono ?_; rintro e w1 ⟨rfl, HB⟩
          go_wp2_with fail
          refine (tell_on HB (HWcb.out _)).mono ?_; rintro e w1 ⟨rfl, HB⟩
          go_wp2_with fail
          refine (tell_on HB (HP.out _)).mono ?_; rintro e w1 ⟨rfl, HB⟩
          go_wp2_with fail
          refine (tell_on HB (HKa.out _)).mono ?_; rintro e w1 ⟨rfl, HB⟩
          go_wp2_with fail
          refine (tell_on HB (HWaa.out _)).mono ?_; rintro e w1 ⟨rfl, HB⟩
          go_wp2_with fail
          refine (tell_on HB (HWar.out _)).mono ?_; rintro e w1 ⟨rfl, HB⟩
          go_wp2_with fail
          refine (tell_on HB (HWab.out _)).mono ?_; rintro e w1 ⟨rfl, HB⟩
          go_wp2_with fail
          go_ret
          exact ⟨rfl, HB.out⟩
      · have u1 : decide (z1 ≤ 0) = false := by simpa using hz1
        clear hz1 hz hab HX HWbc0 HWcb0
        cases wab with
        | false =>
          go_enter Try.func6, Try.ntmps6
          go_wp2_with fail
          refine (tell_on HB (HAW.out _)).mono ?_; rintro e w1 ⟨rfl, HB⟩
          go_wp2_with fail
          refine (tell_on HB (HA.out _)).mono ?_; rintro e w1 ⟨rfl, HB⟩
          go_wp2_with fail
          refine (tell_on HB (HBB.out _)).mono ?_; rintro e w1 ⟨rfl, HB⟩
          go_wp2_with fail
          refine (tell_on HB (HC.out _)).mono ?_; rintro e w1 ⟨rfl, HB⟩
          go_wp2_with fail
          refine (tell_on HB (HXab.out _)).mono ?_; rintro e w1 ⟨rfl, HB⟩
          go_wp2_with fail
          refine (tell_on HB (HXba.out _)).mono ?_; rintro e w1 ⟨rfl, HB⟩
          go_wp2_with fail
          refine (tell_on HB (HS.out _)).mono ?_; rintro e w1 ⟨rfl, HB⟩
          go_wp2_with fail
          refine (tell_on HB (HS.out _)).mono ?_; rintro e w1 ⟨rfl, HB⟩
          go_wp2_with fail
          refine (tell_on HB (HLa.out _)).mono ?_; rintro e w1 ⟨rfl, HB⟩
          go_wp2_with fail
          refine (tell_on HB (HLb.out _)).mono ?_; rintro e w1 ⟨rfl, HB⟩
          go_wp2_with fail
          refine (tell_on HB (HXbc.out _)).mono ?_; rintro e w1 ⟨rfl, HB⟩
          go_wp2_with fail
          refine (tell_on HB (HWac.out _)).mono ?_; rintro e w1 ⟨rfl, HB⟩
          go_wp2_with fail
          refine (tell_on HB (HWbc.out _)).mono ?_; rintro e w1 ⟨rfl, HB⟩
          go_wp2_with fail
          refine (tell_on HB (HWca.out _)).mono ?_; rintro e w1 ⟨rfl, HB⟩
          go_wp2_with fail
          refine (tell_on HB (HWcb.out _)).mono ?_; rintro e w1 ⟨rfl, HB⟩
          go_wp2_with fail
          refine (tell_on HB (HP.out _)).mono ?_; rintro e w1 ⟨rfl, HB⟩
          go_wp2_with fail
          refine (tell_on HB (HKa.out _)).mono ?_; rintro e w1 ⟨rfl, HB⟩
          go_wp2_with fail
          refine (tell_on HB (HWaa.out _)).mono ?_; rintro e w1 ⟨rfl, HB⟩
          go_wp2_with fail
          refine (tell_on HB (HWar.out _)).mono ?_; rintro e w1 ⟨rfl, HB⟩
          go_wp2_with fail
          refine (tell_on HB (HWab.out _)).mono ?_; rintro e w1 ⟨rfl, HB⟩
          go_wp2_with fail
          go_ret
          exact ⟨rfl, HB.out⟩
        | true =>
          go_enter Try.func6, Try.ntmps6
          go_wp2_with fail
          refine (tell_on HB (HAW.out _)).mono ?_; rintro e w1 ⟨rfl, HB⟩
          go_wp2_with fail
          refine (tell_on HB (HA.out _)).mono ?_; rintro e w1 ⟨rfl, HB⟩
          go_wp2_with fail
          refine (tell_on HB (HBB.out _)).mono ?_; rintro e w1 ⟨rfl, HB⟩
          go_wp2_with fail
          refine (tell_on HB (HC.out _)).mono ?_; rintro e w1 ⟨rfl, HB⟩
          go_wp2_with fail
          refine (tell_on HB (HXab.out _)).mono ?_; rintro e w1 ⟨rfl, HB⟩
          go_wp2_with fail
          refine (tell_on HB (HXba.out _)).mono ?_; rintro e w1 ⟨rfl, HB⟩
          go_wp2_with fail
          refine (tell_on HB (HS.out _)).mono ?_; rintro e w1 ⟨rfl, HB⟩
          go_wp2_with fail
          refine (tell_on HB (HS.out _)).mono ?_; rintro e w1 ⟨rfl, HB⟩
          go_wp2_with fail
          refine (tell_on HB (HLa.out _)).mono ?_; rintro e w1 ⟨rfl, HB⟩
          go_wp2_with fail
          refine (tell_on HB (HLb.out _)).mono ?_; rintro e w1 ⟨rfl, HB⟩
          go_wp2_with fail
          refine (tell_on HB (HXbc.out _)).mono ?_; rintro e w1 ⟨rfl, HB⟩
          go_wp2_with fail
          refine (tell_on HB (HWac.out _)).mono ?_; rintro e w1 ⟨rfl, HB⟩
          go_wp2_with fail
          refine (tell_on HB (HWbc.out _)).mono ?_; rintro e w1 ⟨rfl, HB⟩
          go_wp2_with fail
          refine (tell_on HB (HWca.out _)).mono ?_; rintro e w1 ⟨rfl, HB⟩
          go_wp2_with fail
          refine (tell_on HB (HWcb.out _)).mono ?_; rintro e w1 ⟨rfl, HB⟩
          go_wp2_with fail
          refine (tell_on HB (HP.out _)).mono ?_; rintro e w1 ⟨rfl, HB⟩
          go_wp2_with fail
          refine (tell_on HB (HKa.out _)).mono ?_; rintro e w1 ⟨rfl, HB⟩
          go_wp2_with fail
          refine (tell_on HB (HWaa.out _)).mono ?_; rintro e w1 ⟨rfl, HB⟩
          go_wp2_with fail
          refine (tell_on HB (HWar.out _)).mono ?_; rintro e w1 ⟨rfl, HB⟩
          go_wp2_with fail
          refine (tell_on HB (HWab.out _)).mono ?_; rintro e w1 ⟨rfl, HB⟩
          go_wp2_with fail
          go_ret
          exact ⟨rfl, HB.out⟩
    · subst hsm
      replace hlo : ((bs la).toList == (bs lb).toList) = false := hlo
      replace HS : Hid (∀ w, Calls Try.prog 26 #[.string (bs a), .string (bs b)] w (Tells w (.bool false))) := HS
      replace HXba : Hid (∀ w, Calls Try.prog 30 #[.string (bs b), .string (bs a)] w (Tells w (.int .i64 (-1)))) := HXba
      clear hz hab HX HWbc0 HWcb0
      cases wab with
      | false =>
        go_enter Try.func6, Try.ntmps6
        go_wp2_with fail
        refine (tell_on HB (HAW.out _)).mono ?_; rintro e w1 ⟨rfl, HB⟩
        go_wp2_with fail
        refine (tell_on HB (HA.out _)).mono ?_; rintro e w1 ⟨rfl, HB⟩
        go_wp2_with fail
        refine (tell_on HB (HBB.out _)).mono ?_; rintro e w1 ⟨rfl, HB⟩
        go_wp2_with fail
        refine (tell_on HB (HC.out _)).mono ?_; rintro e w1 ⟨rfl, HB⟩
        go_wp2_with fail
        refine (tell_on HB (HXab.out _)).mono ?_; rintro e w1 ⟨rfl, HB⟩
        go_wp2_with fail
        refine (tell_on HB (HXba.out _)).mono ?_; rintro e w1 ⟨rfl, HB⟩
        go_wp2_with fail
        refine (tell_on HB (HS.out _)).mono ?_; rintro e w1 ⟨rfl, HB⟩
        go_wp2_with fail
        refine (tell_on HB (HS.out _)).mono ?_; rintro e w1 ⟨rfl, HB⟩
        go_wp2_with fail
        refine (tell_on HB (HLa.out _)).mono ?_; rintro e w1 ⟨rfl, HB⟩
        go_wp2_with fail
        refine (tell_on HB (HLb.out _)).mono ?_; rintro e w1 ⟨rfl, HB⟩
        go_wp2_with fail
        refine (tell_on HB (HP.out _)).mono ?_; rintro e w1 ⟨rfl, HB⟩
        go_wp2_with fail
        refine (tell_on HB (HKa.out _)).mono ?_; rintro e w1 ⟨rfl, HB⟩
        go_wp2_with fail
        refine (tell_on HB (HWaa.out _)).mono ?_; rintro e w1 ⟨rfl, HB⟩
        go_wp2_with fail
        refine (tell_on HB (HWar.out _)).mono ?_; rintro e w1 ⟨rfl, HB⟩
        go_wp2_with fail
        refine (tell_on HB (HWab.out _)).mono ?_; rintro e w1 ⟨rfl, HB⟩
        go_wp2_with fail
        go_ret
        exact ⟨rfl, HB.out⟩
      | true =>
        go_enter Try.func6, Try.ntmps6
        go_wp2_with fail
        refine (tell_on HB (HAW.out _)).mono ?_; rintro e w1 ⟨rfl, HB⟩
        go_wp2_with fail
        refine (tell_on HB (HA.out _)).mono ?_; rintro e w1 ⟨rfl, HB⟩
        go_wp2_with fail
        refine (tell_on HB (HBB.out _)).mono ?_; rintro e w1 ⟨rfl, HB⟩
        go_wp2_with fail
        refine (tell_on HB (HC.out _)).mono ?_; rintro e w1 ⟨rfl, HB⟩
        go_wp2_with fail
        refine (tell_on HB (HXab.out _)).mono ?_; rintro e w1 ⟨rfl, HB⟩
        go_wp2_with fail
        refine (tell_on HB (HXba.out _)).mono ?_; rintro e w1 ⟨rfl, HB⟩
        go_wp2_with fail
        refine (tell_on HB (HS.out _)).mono ?_; rintro e w1 ⟨rfl, HB⟩
        go_wp2_with fail
        refine (tell_on HB (HS.out _)).mono ?_; rintro e w1 ⟨rfl, HB⟩
        go_wp2_with fail
        refine (tell_on HB (HLa.out _)).mono ?_; rintro e w1 ⟨rfl, HB⟩
        go_wp2_with fail
        refine (tell_on HB (HLb.out _)).mono ?_; rintro e w1 ⟨rfl, HB⟩
        go_wp2_with fail
        refine (tell_on HB (HP.out _)).mono ?_; rintro e w1 ⟨rfl, HB⟩
        go_wp2_with fail
        refine (tell_on HB (HKa.out _)).mono ?_; rintro e w1 ⟨rfl, HB⟩
        go_wp2_with fail
        refine (tell_on HB (HWaa.out _)).mono ?_; rintro e w1 ⟨rfl, HB⟩
        go_wp2_with fail
        refine (tell_on HB (HWar.out _)).mono ?_; rintro e w1 ⟨rfl, HB⟩
        go_wp2_with fail
        refine (tell_on HB (HWab.out _)).mono ?_; rintro e w1 ⟨rfl, HB⟩
        go_wp2_with fail
        go_ret
        exact ⟨rfl, HB.out⟩
  | true =>
    subst hha
    obtain ⟨rfl, rfl, rfl⟩ := hkp rfl
    obtain ⟨m, hm⟩ : ∃ m : Int, ((kp + 1 : Nat) : Int) = m := ⟨_, rfl⟩
    rw [hm] at HKa
    have n1 : decide ((0 : Int) < m) = true := by simp; omega
    have n2 : m - 1 = (kp : Int) := by omega
    have n3 : IntKind.i64.wrap (m - 1) = (kp : Int) := by rw [n2]; exact IntWalk.i64_in _ (by omega)
    have n4 : ((kp : Int) == (kp : Int)) = true := by simp
    clear hm n2
    clear hka hkp hk
    rcases hx with rfl | rfl | rfl
    · subst hsm
      have hwab : wab = false := by cases wab with | false => rfl | true => exact absurd (hab rfl) (by omega)
      subst hwab
      replace hlo : ((bs la).toList == (bs lb).toList) = false := hlo
      replace HS : Hid (∀ w, Calls Try.prog 26 #[.string (bs a), .string (bs b)] w (Tells w (.bool false))) := HS
      replace HXba : Hid (∀ w, Calls Try.prog 30 #[.string (bs b), .string (bs a)] w (Tells w (.int .i64 (1)))) := HXba
      by_cases hz1 : z1 ≤ 0
      · have u1 : decide (z1 ≤ 0) = true := by simpa using hz1
        have u2 : decide (0 < z2) = false := by have := hz (by omega) hz1; simpa using this
        clear hz1 hz hab HX HWbc0 HWcb0
        go_enter Try.func6, Try.ntmps6
        go_wp2_with fail
        refine (tell_on HB (HAW.out _)).mono ?_; rintro e w1 ⟨rfl, HB⟩
        go_wp2_with fail
        refine (tell_on HB (HA.out _)).mono ?_; rintro e w1 ⟨rfl, HB⟩
        go_wp2_with fail
        refine (tell_on HB (HBB.out _)).mono ?_; rintro e w1 ⟨rfl, HB⟩
        go_wp2_with fail
        refine (tell_on HB (HC.out _)).mono ?_; rintro e w1 ⟨rfl, HB⟩
        go_wp2_with fail
        refine (tell_on HB (HXab.out _)).mono ?_; rintro e w1 ⟨rfl, HB⟩
        go_wp2_with fail
        refine (tell_on HB (HXba.out _)).mono ?_; rintro e w1 ⟨rfl, HB⟩
        go_wp2_with fail
        refine (tell_on HB (HS.out _)).mono ?_; rintro e w1 ⟨rfl, HB⟩
        go_wp2_with fail
        refine (tell_on HB (HS.out _)).mono ?_; rintro e w1 ⟨rfl, HB⟩
        go_wp2_with fail
        refine (tell_on HB (HLa.out _)).mono ?_; rintro e w1 ⟨rfl, HB⟩
        go_wp2_with fail
        refine (tell_on HB (HLb.out _)).mono ?_; rintro e w1 ⟨rfl, HB⟩
        go_wp2_with fail
        refine (tell_on HB (HXbc.out _)).mono ?_; rintro e w1 ⟨rfl, HB⟩
        go_wp2_with fail
        refine (tell_on HB (HXac.out _)).mono ?_; rintro e w1 ⟨rfl, HB⟩
        go_wp2_with fail
        refine (tell_on HB (HP.out _)).mono ?_; rintro e w1 ⟨rfl, HB⟩
        go_wp2_with fail
        refine (tell_on HB (HKa.out _)).mono ?_; rintro e w1 ⟨rfl, HB⟩
        go_wp2_with fail
        refine (tell_on HB (HWap.out _)).mono ?_; rintro e w1 ⟨rfl, HB⟩
        go_wp2_with fail
        refine (tell_on HB (HKp.out _)).mono ?_; rintro e w1 ⟨rfl, HB⟩
        go_wp2_with fail
        refine (tell_on HB (HKa.out _)).mono ?_; rintro e w1 ⟨rfl, HB⟩
        go_wp2_with fail
        refine (tell_on HB (HWpa.out _)).mono ?_; rintro e w1 ⟨rfl, HB⟩
        go_wp2_with fail
        refine (tell_on HB (HWaa.out _)).mono ?_; rintro e w1 ⟨rfl, HB⟩
        go_wp2_with fail
        refine (tell_on HB (HWar.out _)).mono ?_; rintro e w1 ⟨rfl, HB⟩
        go_wp2_with fail
        refine (tell_on HB (HWab.out _)).mono ?_; rintro e w1 ⟨rfl, HB⟩
        go_wp2_with fail
        go_ret
        exact ⟨rfl, HB.out⟩
      · have u1 : decide (z1 ≤ 0) = false := by simpa using hz1
        clear hz1 hz hab HX HWbc0 HWcb0
        go_enter Try.func6, Try.ntmps6
        go_wp2_with fail
        refine (tell_on HB (HAW.out _)).mono ?_; rintro e w1 ⟨rfl, HB⟩
        go_wp2_with fail
        refine (tell_on HB (HA.out _)).mono ?_; rintro e w1 ⟨rfl, HB⟩
        go_wp2_with fail
        refine (tell_on HB (HBB.out _)).mono ?_; rintro e w1 ⟨rfl, HB⟩
        go_wp2_with fail
        refine (tell_on HB (HC.out _)).mono ?_; rintro e w1 ⟨rfl, HB⟩
        go_wp2_with fail
        refine (tell_on HB (HXab.out _)).mono ?_; rintro e w1 ⟨rfl, HB⟩
        go_wp2_with fail
        refine (tell_on HB (HXba.out _)).mono ?_; rintro e w1 ⟨rfl, HB⟩
        go_wp2_with fail
        refine (tell_on HB (HS.out _)).mono ?_; rintro e w1 ⟨rfl, HB⟩
        go_wp2_with fail
        refine (tell_on HB (HS.out _)).mono ?_; rintro e w1 ⟨rfl, HB⟩
        go_wp2_with fail
        refine (tell_on HB (HLa.out _)).mono ?_; rintro e w1 ⟨rfl, HB⟩
        go_wp2_with fail
        refine (tell_on HB (HLb.out _)).mono ?_; rintro e w1 ⟨rfl, HB⟩
        go_wp2_with fail
        refine (tell_on HB (HXbc.out _)).mono ?_; rintro e w1 ⟨rfl, HB⟩
        go_wp2_with fail
        refine (tell_on HB (HP.out _)).mono ?_; rintro e w1 ⟨rfl, HB⟩
        go_wp2_with fail
        refine (tell_on HB (HKa.out _)).mono ?_; rintro e w1 ⟨rfl, HB⟩
        go_wp2_with fail
        refine (tell_on HB (HWap.out _)).mono ?_; rintro e w1 ⟨rfl, HB⟩
        go_wp2_with fail
        refine (tell_on HB (HKp.out _)).mono ?_; rintro e w1 ⟨rfl, HB⟩
        go_wp2_with fail
        refine (tell_on HB (HKa.out _)).mono ?_; rintro e w1 ⟨rfl, HB⟩
        go_wp2_with fail
        refine (tell_on HB (HWpa.out _)).mono ?_; rintro e w1 ⟨rfl, HB⟩
        go_wp2_with fail
        refine (tell_on HB (HWaa.out _)).mono ?_; rintro e w1 ⟨rfl, HB⟩
        go_wp2_with fail
        refine (tell_on HB (HWar.out _)).mono ?_; rintro e w1 ⟨rfl, HB⟩
        go_wp2_with fail
        refine (tell_on HB (HWab.out _)).mono ?_; rintro e w1 ⟨rfl, HB⟩
        go_wp2_with fail
        go_ret
        exact ⟨rfl, HB.out⟩
    · subst hsm
      replace hlo : ((bs la).toList == (bs lb).toList) = true := hlo
      replace HS : Hid (∀ w, Calls Try.prog 26 #[.string (bs a), .string (bs b)] w (Tells w (.bool true))) := HS
      replace HXba : Hid (∀ w, Calls Try.prog 30 #[.string (bs b), .string (bs a)] w (Tells w (.int .i64 (0)))) := HXba
      have HWbc := Lib.hid (HWbc0.out rfl)
      have HWcb := Lib.hid (HWcb0.out rfl)
      by_cases hz1 : z1 ≤ 0
      · have u1 : decide (z1 ≤ 0) = true := by simpa using hz1
        have u2 : decide (0 < z2) = false := by have := hz (by omega) hz1; simpa using this
        clear hz1 hz hab HX HWbc0 HWcb0
        cases wab with
        | false =>
          go_enter Try.func6, Try.ntmps6
          go_wp2_with fail
          refine (tell_on HB (HAW.out _)).mono ?_; rintro e w1 ⟨rfl, HB⟩
          go_wp2_with fail
          refine (tell_on HB (HA.out _)).mono ?_; rintro e w1 ⟨rfl, HB⟩
          go_wp2_with fail
          refine (tell_on HB (HBB.out _)).mono ?_; rintro e w1 ⟨rfl, HB⟩
          go_wp2_with fail
          refine (tell_on HB (HC.out _)).mono ?_; rintro e w1 ⟨rfl, HB⟩
          go_wp2_with fail
          refine (tell_on HB (HXab.out _)).mono ?_; rintro e w1 ⟨rfl, HB⟩
          go_wp2_with fail
          refine (tell_on HB (HXba.out _)).mono ?_; rintro e w1 ⟨rfl, HB⟩
          go_wp2_with fail
          refine (tell_on HB (HS.out _)).mono ?_; rintro e w1 ⟨rfl, HB⟩
          go_wp2_with fail
          refine (tell_on HB (HS.out _)).mono ?_; rintro e w1 ⟨rfl, HB⟩
          go_wp2_with fail
          refine (tell_on HB (HLa.out _)).mono ?_; rintro e w1 ⟨rfl, HB⟩
          go_wp2_with fail
          refine (tell_on HB (HLb.out _)).mono ?_; rintro e w1 ⟨rfl, HB⟩
          go_wp2_with fail
          refine (tell_on HB (HXbc.out _)).mono ?_; rintro e w1 ⟨rfl, HB⟩
          go_wp2_with fail
          refine (tell_on HB (HXac.out _)).mono ?_; rintro e w1 ⟨rfl, HB⟩
          go_wp2_with fail
          refine (tell_on HB (HWac.out _)).mono ?_; rintro e w1 ⟨rfl, HB⟩
          go_wp2_with fail
          refine (tell_on HB (HWbc.out _)).mono ?_; rintro e w1 ⟨rfl, HB⟩
          go_wp2_with fail
          refine (tell_on HB (HWca.out _)).mono ?_; rintro e w1 ⟨rfl, HB⟩
          go_wp2_with fail
          refine (tell_on HB (HWcb.out _)).mono ?_; rintro e w1 ⟨rfl, HB⟩
          go_wp2_with fail
          refine (tell_on HB (HP.out _)).mono ?_; rintro e w1 ⟨rfl, HB⟩
          go_wp2_with fail
          refine (tell_on HB (HKa.out _)).mono ?_; rintro e w1 ⟨rfl, HB⟩
          go_wp2_with fail
          refine (tell_on HB (HWap.out _)).mono ?_; rintro e w1 ⟨rfl, HB⟩
          go_wp2_with fail
          refine (tell_on HB (HKp.out _)).mono ?_; rintro e w1 ⟨rfl, HB⟩
          go_wp2_with fail
          refine (tell_on HB (HKa.out _)).mono ?_; rintro e w1 ⟨rfl, HB⟩
          go_wp2_with fail
          refine (tell_on HB (HWpa.out _)).mono ?_; rintro e w1 ⟨rfl, HB⟩
          go_wp2_with fail
          refine (tell_on HB (HWaa.out _)).mono ?_; rintro e w1 ⟨rfl, HB⟩
          go_wp2_with fail
          refine (tell_on HB (HWar.out _)).mono ?_; rintro e w1 ⟨rfl, HB⟩
          go_wp2_with fail
          refine (tell_on HB (HWab.out _)).mono ?_; rintro e w1 ⟨rfl, HB⟩
          go_wp2_with fail
          go_ret
          exact ⟨rfl, HB.out⟩
        | true =>
          go_enter Try.func6, Try.ntmps6
          go_wp2_with fail
          refine (tell_on HB (HAW.out _)).mono ?_; rintro e w1 ⟨rfl, HB⟩
          go_wp2_with fail
          refine (tell_on HB (HA.out _)).mono ?_; rintro e w1 ⟨rfl, HB⟩
          go_wp2_with fail
          refine (tell_on HB (HBB.out _)).mono ?_; rintro e w1 ⟨rfl, HB⟩
          go_wp2_with fail
          refine (tell_on HB (HC.out _)).mono ?_; rintro e w1 ⟨rfl, HB⟩
          go_wp2_with fail
          refine (tell_on HB (HXab.out _)).mono ?_; rintro e w1 ⟨rfl, HB⟩
          go_wp2_with fail
          refine (tell_on HB (HXba.out _)).mono ?_; rintro e w1 ⟨rfl, HB⟩
          go_wp2_with fail
          refine (tell_on HB (HS.out _)).mono ?_; rintro e w1 ⟨rfl, HB⟩
          go_wp2_with fail
          refine (tell_on HB (HS.out _)).mono ?_; rintro e w1 ⟨rfl, HB⟩
          go_wp2_with fail
          refine (tell_on HB (HLa.out _)).mono ?_; rintro e w1 ⟨rfl, HB⟩
          go_wp2_with fail
          refine (tell_on HB (HLb.out _)).mono ?_; rintro e w1 ⟨rfl, HB⟩
          go_wp2_with fail
          refine (tell_on HB (HXbc.out _)).mono ?_; rintro e w1 ⟨rfl, HB⟩
          go_wp2_with fail
          refine (tell_on HB (HXac.out _)).mono ?_; rintro e w1 ⟨rfl, HB⟩
          go_wp2_with fail
          refine (tell_on HB (HWac.out _)).mono ?_; rintro e w1 ⟨rfl, HB⟩
          go_wp2_with fail
          refine (tell_on HB (HWbc.out _)).mono ?_; rintro e w1 ⟨rfl, HB⟩
          go_wp2_with fail
          refine (tell_on HB (HWca.out _)).mono ?_; rintro e w1 ⟨rfl, HB⟩
          go_wp2_with fail
          refine (tell_on HB (HWcb.out _)).mono ?_; rintro e w1 ⟨rfl, HB⟩
          go_wp2_with fail
          refine (tell_on HB (HP.out _)).mono ?_; rintro e w1 ⟨rfl, HB⟩
          go_wp2_with fail
          refine (tell_on HB (HKa.out _)).mono ?_; rintro e w1 ⟨rfl, HB⟩
          go_wp2_with fail
          refine (tell_on HB (HWap.out _)).mono ?_; rintro e w1 ⟨rfl, HB⟩
          go_wp2_with fail
          refine (tell_on HB (HKp.out _)).mono ?_; rintro e w1 ⟨rfl, HB⟩
          go_wp2_with fail
          refine (tell_on HB (HKa.out _)).mono ?_; rintro e w1 ⟨rfl, HB⟩
          go_wp2_with fail
          refine (tell_on HB (HWpa.out _)).mono ?_; rintro e w1 ⟨rfl, HB⟩
          go_wp2_with fail
          refine (tell_on HB (HWaa.out _)).mono ?_; rintro e w1 ⟨rfl, HB⟩
          go_wp2_with fail
          refine (tell_on HB (HWar.out _)).mono ?_; rintro e w1 ⟨rfl, HB⟩
          go_wp2_with fail
          refine (tell_on HB (HWab.out _)).mono ?_; rintro e w1 ⟨rfl, HB⟩
          go_wp2_with fail
          go_ret
          exact ⟨rfl, HB.out⟩
      · have u1 : decide (z1 ≤ 0) = false := by simpa using hz1
        clear hz1 hz hab HX HWbc0 HWcb0
        cases wab with
        | false =>
          go_enter Try.func6, Try.ntmps6
          go_wp2_with fail
          refine (tell_on HB (HAW.out _)).mono ?_; rintro e w1 ⟨rfl, HB⟩
          go_wp2_with fail
          refine (tell_on HB (HA.out _)).mono ?_; rintro e w1 ⟨rfl, HB⟩
          go_wp2_with fail
          refine (tell_on HB (HBB.out _)).mono ?_; rintro e w1 ⟨rfl, HB⟩
          go_wp2_with fail
          refine (tell_on HB (HC.out _)).mono ?_; rintro e w1 ⟨rfl, HB⟩
          go_wp2_with fail
          refine (tell_on HB (HXab.out _)).mono ?_; rintro e w1 ⟨rfl, HB⟩
          go_wp2_with fail
          refine (tell_on HB (HXba.out _)).mono ?_; rintro e w1 ⟨rfl, HB⟩
          go_wp2_with fail
          refine (tell_on HB (HS.out _)).mono ?_; rintro e w1 ⟨rfl, HB⟩
          go_wp2_with fail
          refine (tell_on HB (HS.out _)).mono ?_; rintro e w1 ⟨rfl, HB⟩
          go_wp2_with fail
          refine (tell_on HB (HLa.out _)).mono ?_; rintro e w1 ⟨rfl, HB⟩
          go_wp2_with fail
          refine (tell_on HB (HLb.out _)).mono ?_; rintro e w1 ⟨rfl, HB⟩
          go_wp2_with fail
          refine (tell_on HB (HXbc.out _)).mono ?_; rintro e w1 ⟨rfl, HB⟩
          go_wp2_with fail
          refine (tell_on HB (HWac.out _)).mono ?_; rintro e w1 ⟨rfl, HB⟩
          go_wp2_with fail
          refine (tell_on HB (HWbc.out _)).mono ?_; rintro e w1 ⟨rfl, HB⟩
          go_wp2_with fail
          refine (tell_on HB (HWca.out _)).mono ?_; rintro e w1 ⟨rfl, HB⟩
          go_wp2_with fail
          refine (tell_on HB (HWcb.out _)).mono ?_; rintro e w1 ⟨rfl, HB⟩
          go_wp2_with fail
          refine (tell_on HB (HP.out _)).mono ?_; rintro e w1 ⟨rfl, HB⟩
          go_wp2_with fail
          refine (tell_on HB (HKa.out _)).mono ?_; rintro e w1 ⟨rfl, HB⟩
          go_wp2_with fail
          refine (tell_on HB (HWap.out _)).mono ?_; rintro e w1 ⟨rfl, HB⟩
          go_wp2_with fail
          refine (tell_on HB (HKp.out _)).mono ?_; rintro e w1 ⟨rfl, HB⟩
          go_wp2_with fail
          refine (tell_on HB (HKa.out _)).mono ?_; rintro e w1 ⟨rfl, HB⟩
          go_wp2_with fail
          refine (tell_on HB (HWpa.out _)).mono ?_; rintro e w1 ⟨rfl, HB⟩
          go_wp2_with fail
          refine (tell_on HB (HWaa.out _)).mono ?_; rintro e w1 ⟨rfl, HB⟩
          go_wp2_with fail
          refine (tell_on HB (HWar.out _)).mono ?_; rintro e w1 ⟨rfl, HB⟩
          go_wp2_with fail
          refine (tell_on HB (HWab.out _)).mono ?_; rintro e w1 ⟨rfl, HB⟩
          go_wp2_with fail
          go_ret
          exact ⟨rfl, HB.out⟩
        | true =>
          go_enter Try.func6, Try.ntmps6
          go_wp2_with fail
          refine (tell_on HB (HAW.out _)).mono ?_; rintro e w1 ⟨rfl, HB⟩
          go_wp2_with fail
          refine (tell_on HB (HA.out _)).mono ?_; rintro e w1 ⟨rfl, HB⟩
          go_wp2_with fail
          refine (tell_on HB (HBB.out _)).mono ?_; rintro e w1 ⟨rfl, HB⟩
          go_wp2_with fail
          refine (tell_on HB (HC.out _)).mono ?_; rintro e w1 ⟨rfl, HB⟩
          go_wp2_with fail
          refine (tell_on HB (HXab.out _)).mono ?_; rintro e w1 ⟨rfl, HB⟩
          go_wp2_with fail
          refine (tell_on HB (HXba.out _)).mono ?_; rintro e w1 ⟨rfl, HB⟩
          go_wp2_with fail
          refine (tell_on HB (HS.out _)).mono ?_; rintro e w1 ⟨rfl, HB⟩
          go_wp2_with fail
          refine (tell_on HB (HS.out _)).mono ?_; rintro e w1 ⟨rfl, HB⟩
          go_wp2_with fail
          refine (tell_on HB (HLa.out _)).mono ?_; rintro e w1 ⟨rfl, HB⟩
          go_wp2_with fail
          refine (tell_on HB (HLb.out _)).mono ?_; rintro e w1 ⟨rfl, HB⟩
          go_wp2_with fail
          refine (tell_on HB (HXbc.out _)).mono ?_; rintro e w1 ⟨rfl, HB⟩
          go_wp2_with fail
          refine (tell_on HB (HWac.out _)).mono ?_; rintro e w1 ⟨rfl, HB⟩
          go_wp2_with fail
          refine (tell_on HB (HWbc.out _)).mono ?_; rintro e w1 ⟨rfl, HB⟩
          go_wp2_with fail
          refine (tell_on HB (HWca.out _)).mono ?_; rintro e w1 ⟨rfl, HB⟩
          go_wp2_with fail
          refine (tell_on HB (HWcb.out _)).mono ?_; rintro e w1 ⟨rfl, HB⟩
          go_wp2_with fail
          refine (tell_on HB (HP.out _)).mono ?_; rintro e w1 ⟨rfl, HB⟩
          go_wp2_with fail
          refine (tell_on HB (HKa.out _)).mono ?_; rintro e w1 ⟨rfl, HB⟩
          go_wp2_with fail
          refine (tell_on HB (HWap.out _)).mono ?_; rintro e w1 ⟨rfl, HB⟩
          go_wp2_with fail
          refine (tell_on HB (HKp.out _)).mono ?_; rintro e w1 ⟨rfl, HB⟩
          go_wp2_with fail
          refine (tell_on HB (HKa.out _)).mono ?_; rintro e w1 ⟨rfl, HB⟩
          go_wp2_with fail
          refine (tell_on HB (HWpa.out _)).mono ?_; rintro e w1 ⟨rfl, HB⟩
          go_wp2_with fail
          refine (tell_on HB (HWaa.out _)).mono ?_; rintro e w1 ⟨rfl, HB⟩
          go_wp2_with fail
          refine (tell_on HB (HWar.out _)).mono ?_; rintro e w1 ⟨rfl, HB⟩
          go_wp2_with fail
          refine (tell_on HB (HWab.out _)).mono ?_; rintro e w1 ⟨rfl, HB⟩
          go_wp2_with fail
          go_ret
          exact ⟨rfl, HB.out⟩
    · subst hsm
      replace hlo : ((bs la).toList == (bs lb).toList) = false := hlo
      replace HS : Hid (∀ w, Calls Try.prog 26 #[.string (bs a), .string (bs b)] w (Tells w (.bool false))) := HS
      replace HXba : Hid (∀ w, Calls Try.prog 30 #[.string (bs b), .string (bs a)] w (Tells w (.int .i64 (-1)))) := HXba
      clear hz hab HX HWbc0 HWcb0
      cases wab with
      | false =>
        go_enter Try.func6, Try.ntmps6
        go_wp2_with fail
        refine (tell_on HB (HAW.out _)).mono ?_; rintro e w1 ⟨rfl, HB⟩
        go_wp2_with fail
        refine (tell_on HB (HA.out _)).mono ?_; rintro e w1 ⟨rfl, HB⟩
        go_wp2_with fail
        refine (tell_on HB (HBB.out _)).mono ?_; rintro e w1 ⟨rfl, HB⟩
        go_wp2_with fail
        refine (tell_on HB (HC.out _)).mono ?_; rintro e w1 ⟨rfl, HB⟩
        go_wp2_with fail
        refine (tell_on HB (HXab.out _)).mono ?_; rintro e w1 ⟨rfl, HB⟩
        go_wp2_with fail
        refine (tell_on HB (HXba.out _)).mono ?_; rintro e w1 ⟨rfl, HB⟩
        go_wp2_with fail
        refine (tell_on HB (HS.out _)).mono ?_; rintro e w1 ⟨rfl, HB⟩
        go_wp2_with fail
        refine (tell_on HB (HS.out _)).mono ?_; rintro e w1 ⟨rfl, HB⟩
        go_wp2_with fail
        refine (tell_on HB (HLa.out _)).mono ?_; rintro e w1 ⟨rfl, HB⟩
        go_wp2_with fail
        refine (tell_on HB (HLb.out _)).mono ?_; rintro e w1 ⟨rfl, HB⟩
        go_wp2_with fail
        refine (tell_on HB (HP.out _)).mono ?_; rintro e w1 ⟨rfl, HB⟩
        go_wp2_with fail
        refine (tell_on HB (HKa.out _)).mono ?_; rintro e w1 ⟨rfl, HB⟩
        go_wp2_with fail
        refine (tell_on HB (HWap.out _)).mono ?_; rintro e w1 ⟨rfl, HB⟩
        go_wp2_with fail
        refine (tell_on HB (HKp.out _)).mono ?_; rintro e w1 ⟨rfl, HB⟩
        go_wp2_with fail
        refine (tell_on HB (HKa.out _)).mono ?_; rintro e w1 ⟨rfl, HB⟩
        go_wp2_with fail
        refine (tell_on HB (HWpa.out _)).mono ?_; rintro e w1 ⟨rfl, HB⟩
        go_wp2_with fail
        refine (tell_on HB (HWaa.out _)).mono ?_; rintro e w1 ⟨rfl, HB⟩
        go_wp2_with fail
        refine (tell_on HB (HWar.out _)).mono ?_; rintro e w1 ⟨rfl, HB⟩
        go_wp2_with fail
        refine (tell_on HB (HWab.out _)).mono ?_; rintro e w1 ⟨rfl, HB⟩
        go_wp2_with fail
        go_ret
        exact ⟨rfl, HB.out⟩
      | true =>
        go_enter Try.func6, Try.ntmps6
        go_wp2_with fail
        refine (tell_on HB (HAW.out _)).mono ?_; rintro e w1 ⟨rfl, HB⟩
        go_wp2_with fail
        refine (tell_on HB (HA.out _)).mono ?_; rintro e w1 ⟨rfl, HB⟩
        go_wp2_with fail
        refine (tell_on HB (HBB.out _)).mono ?_; rintro e w1 ⟨rfl, HB⟩
        go_wp2_with fail
        refine (tell_on HB (HC.out _)).mono ?_; rintro e w1 ⟨rfl, HB⟩
        go_wp2_with fail
        refine (tell_on HB (HXab.out _)).mono ?_; rintro e w1 ⟨rfl, HB⟩
        go_wp2_with fail
        refine (tell_on HB (HXba.out _)).mono ?_; rintro e w1 ⟨rfl, HB⟩
        go_wp2_with fail
        refine (tell_on HB (HS.out _)).mono ?_; rintro e w1 ⟨rfl, HB⟩
        go_wp2_with fail
        refine (tell_on HB (HS.out _)).mono ?_; rintro e w1 ⟨rfl, HB⟩
        go_wp2_with fail
        refine (tell_on HB (HLa.out _)).mono ?_; rintro e w1 ⟨rfl, HB⟩
        go_wp2_with fail
        refine (tell_on HB (HLb.out _)).mono ?_; rintro e w1 ⟨rfl, HB⟩
        go_wp2_with fail
        refine (tell_on HB (HP.out _)).mono ?_; rintro e w1 ⟨rfl, HB⟩
        go_wp2_with fail
        refine (tell_on HB (HKa.out _)).mono ?_; rintro e w1 ⟨rfl, HB⟩
        go_wp2_with fail
        refine (tell_on HB (HWap.out _)).mono ?_; rintro e w1 ⟨rfl, HB⟩
        go_wp2_with fail
        refine (tell_on HB (HKp.out _)).mono ?_; rintro e w1 ⟨rfl, HB⟩
        go_wp2_with fail
        refine (tell_on HB (HKa.out _)).mono ?_; rintro e w1 ⟨rfl, HB⟩
        go_wp2_with fail
        refine (tell_on HB (HWpa.out _)).mono ?_; rintro e w1 ⟨rfl, HB⟩
        go_wp2_with fail
        refine (tell_on HB (HWaa.out _)).mono ?_; rintro e w1 ⟨rfl, HB⟩
        go_wp2_with fail
        refine (tell_on HB (HWar.out _)).mono ?_; rintro e w1 ⟨rfl, HB⟩
        go_wp2_with fail
        refine (tell_on HB (HWab.out _)).mono ?_; rintro e w1 ⟨rfl, HB⟩
        go_wp2_with fail
        go_ret
        exact ⟨rfl, HB.out⟩
end Go.Proofs.Ytibaeklpgfadpaa
