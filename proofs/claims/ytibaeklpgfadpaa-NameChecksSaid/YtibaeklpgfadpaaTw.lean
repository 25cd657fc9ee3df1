/-
  A text's reader: plain, number, letter, label.
-/
import Derived.Test.YtibaeklpgfadpaaTv
namespace Go.Proofs.Ytibaeklpgfadpaa
open Go.RowKit Go.Shelf
set_option linter.unusedVariables false
set_option linter.unusedSimpArgs false

def std (c : UInt8) : Bool := decide (33 ≤ c.toNat ∧ c.toNat ≤ 126)

/-- A fault, with which the reader panics. -/
def Fails (w : World) (r : Nat) (e : Int) (a : Nat) (en : Ending) (w' : World) : Prop := en = .panicked (ch e a) ∧ Aside (fun b => b = r) w w'

set_option maxHeartbeats 1000000 in
theorem plain_yes {w : World} {r p : Nat} {t : List UInt8} (h : Rd w r t p) (ht : t.length ≤ 1000000) (c : UInt8) (hn : t[p]? = some c) (hs : std c = true) : Calls Try.prog 67 #[.pointer (some ⟨r, 0, none⟩)] w (Moved w r t (p + 1) (.int .u8 (c.toNat : Nat))) := by
  have HN := Lib.hid (next_any h ht c hn)
  have HS := Lib.hid (fun w => (show Calls Try.prog 56 #[.int .u8 (c.toNat : Nat)] w fun en w' => en = .returned (.bool true) ∧ w = w' from hs ▸ stands_any c w))
  obtain ⟨m, hm⟩ : ∃ m, c.toNat = m := ⟨_, rfl⟩
  rw [hm] at HN HS ⊢
  clear h hn hs hm
  go_enter Try.func67, Try.ntmps67
  go_wp2_with fail
  refine HN.out.mono ?_; rintro e w1 ⟨rfl, hr, ha⟩; have HR := Lib.hid hr; have HA := Lib.hid ha; clear hr ha
  go_wp2_with fail
  refine (HS.out _).mono ?_; rintro e w2 ⟨rfl, rfl⟩
  go_wp2_with fail
  go_ret
  exact ⟨rfl, HR.out, HA.out⟩

set_option maxHeartbeats 1000000 in
theorem plain_no {w : World} {r p : Nat} {t : List UInt8} (h : Rd w r t p) (ht : t.length ≤ 1000000) (c : UInt8) (hn : t[p]? = some c) (hs : std c = false) : Calls Try.prog 67 #[.pointer (some ⟨r, 0, none⟩)] w (Fails w r 4 p) := by
  have hlt : p < t.length := (List.getElem?_eq_some_iff.mp hn).1
  have HN := Lib.hid (next_any h ht c hn)
  have HS := Lib.hid (fun w => (show Calls Try.prog 56 #[.int .u8 (c.toNat : Nat)] w fun en w' => en = .returned (.bool false) ∧ w = w' from hs ▸ stands_any c w))
  have HF := Lib.hid (fail_any 4 p)
  obtain ⟨m, hm⟩ : ∃ m, c.toNat = m := ⟨_, rfl⟩
  rw [hm] at HN HS
  clear h hn hs hm
  go_enter Try.func67, Try.ntmps67
  go_wp2_with fail
  refine HN.out.mono ?_; rintro e w1 ⟨rfl, hr, ha⟩; have HA := Lib.hid ha; obtain ⟨h0, h1, hf⟩ := hr; clear ha hf
  have h1' : w1.cell? ⟨r, 1, none⟩ = some (.int .i64 ((p : Int) + 1)) := by rw [h1]; congr 2
  clear h1
  go_wp2_with fail
  refine (HS.out _).mono ?_; rintro e w2 ⟨rfl, rfl⟩
  go_wp2_with fail
  refine (HF.out _).mono ?_; rintro e w3 ⟨rfl, rfl⟩
  exact ⟨rfl, rfl, HA.out⟩

/-- The number that k digits from q on are. -/
def numV (t : List UInt8) (q : Nat) : Nat → Nat
  | 0 => 0
  | k + 1 => numV t q k * 10 + ((t.getD (q + k) 0).toNat - 48)

theorem digAt_some {t : List UInt8} {p : Nat} (h : digAt t p = true) : ∃ c, t[p]? = some c ∧ 48 ≤ c.toNat ∧ c.toNat ≤ 57 := by
  unfold digAt at h
  split at h
  · exact ⟨_, ‹_›, by simpa [isDig] using h⟩
  · simp at h

theorem numV_le (t : List UInt8) (q k : Nat) (hk : k ≤ 3) (h : ∀ j, j < k → digAt t (q + j) = true) : numV t q k ≤ 999 ∧ (k ≤ 2 → numV t q k ≤ 99) ∧ (k ≤ 1 → numV t q k ≤ 9) ∧ (k = 0 → numV t q k = 0) := by
  have dig : ∀ j, j < k → (t.getD (q + j) 0).toNat - 48 ≤ 9 := fun j hj => by
    obtain ⟨c, hc, h1, h2⟩ := digAt_some (h j hj)
    rw [List.getD, hc]
    show c.toNat - 48 ≤ 9
    omega
  obtain rfl | rfl | rfl | rfl : k = 0 ∨ k = 1 ∨ k = 2 ∨ k = 3 := by omega
  · simp [numV]
  · have := dig 0 (by omega)
    simp only [numV] at this ⊢; omega
  · have := dig 0 (by omega); have := dig 1 (by omega)
    simp only [numV] at *; omega
  · have := dig 0 (by omega); have := dig 1 (by omega); have := dig 2 (by omega)
    simp only [numV] at *; omega

/-- How number ends: a byte, or a fault at the backslash. -/
def NumPost (w : World) (r : Nat) (t : List UInt8) (q s : Nat) (en : Ending) (w' : World) : Prop :=
  if digAt t q = true ∧ digAt t (q + 1) = true ∧ digAt t (q + 2) = true then
    (if numV t q 3 ≤ 255 then Moved w r t (q + 3) (.int .u8 (numV t q 3 : Nat)) en w' else Fails w r 5 s en w')
  else Fails w r 4 s en w'

set_option maxHeartbeats 2000000 in
theorem number_any {w : World} {r q s : Nat} {t : List UInt8} (h : Rd w r t q) (hq : q ≤ t.length) (ht : t.length ≤ 1000000) : Calls Try.prog 69 #[.pointer (some ⟨r, 0, none⟩), .int .i64 s] w (NumPost w r t q s) := by
  have H := Lib.hid h
  clear h
  go_enter Try.func69, Try.ntmps69
  go_wp2
  go_loopw [5, 6] (fun n i wr => ∃ k : Nat, k ≤ 3 ∧ i = .int .i64 k ∧ n = .int .i64 (numV t q k : Nat) ∧ Hid (∀ j, j < k → digAt t (q + j) = true) ∧ Hid (Rd wr r t (q + k) ∧ q + k ≤ t.length) ∧ Hid (Aside (fun b => b = r) w wr)) (fun _ i _ => 3 - (intOf i).toNat)
  case atStart => exact ⟨0, by omega, rfl, rfl, by intro j hj; omega, ⟨H.out, by omega⟩, Aside.refl _ _⟩
  case round =>
    obtain ⟨k, hk, rfl, rfl, HD, HR, HA⟩ := hrel
    have hle := numV_le t q k hk HD.out
    by_cases hlt : k < 3
    · have HG := Lib.hid (digit_any HR.out.1 HR.out.2 ht)
      by_cases hdg : digAt t (q + k) = true
      · obtain ⟨c, hc, hc1, hc2⟩ := digAt_some hdg
        have hc0 : (t.getD (q + k) 0).toNat = c.toNat := by rw [List.getD, hc]; rfl
        have hs : numV t q (k + 1) = numV t q k * 10 + (c.toNat - 48) := by rw [numV, hc0]
        have hD2 : ∀ j, j < k + 1 → digAt t (q + j) = true := fun j hj => by
          by_cases e : j = k
          · rw [e]; exact hdg
          · exact HD.out j (by omega)
        have hlen : q + k < t.length := (List.getElem?_eq_some_iff.mp hc).1
        have HD2 := Lib.hid hD2
        rw [hdg] at HG
        obtain ⟨m, hm⟩ : ∃ m, c.toNat = m := ⟨_, rfl⟩
        have HNX := Lib.hid (fun (w1 : World) (hd : Drawn wr w1) => next_any (HR.out.1.drawn hd) ht c hc)
        obtain ⟨v, hv⟩ : ∃ v, numV t q k = v := ⟨_, rfl⟩
        rw [hm] at hs hc1 hc2 HNX
        rw [hv] at hs hle ⊢
        have hv100 : v ≤ 99 := hle.2.1 (by omega)
        have HS := Lib.hid hs
        clear hle hdg hc hc0 hm hv hs hD2
        go_wp2_with fail
        refine HG.out.mono ?_; rintro e w1 ⟨rfl, hd⟩; have HDR := Lib.hid hd; clear hd
        go_wp2_with fail
        refine (HNX.out _ HDR.out).mono ?_; rintro e w2 ⟨rfl, hr, ha⟩; have HR2 := Lib.hid hr; have HA2 := Lib.hid ((HA.out.trans (HDR.out.aside _)).trans ha); clear hr ha
        go_wp2_with fail
        refine ⟨⟨k + 1, by omega, by go_num, by rw [HS.out]; exact congrArg (Value.int .i64) (by omega), HD2, ⟨HR2.out, by omega⟩, HA2⟩, ?_⟩
        simp [intOf]; omega
      · have hdf : digAt t (q + k) = false := by simpa using hdg
        have HE := Lib.hid (show ∀ en w', Fails w r 4 s en w' → NumPost w r t q s en w' from fun en w' hf => by
          unfold NumPost
          rw [if_neg]
          · exact hf
          · rintro ⟨e1, e2, e3⟩
            obtain rfl | rfl | rfl : k = 0 ∨ k = 1 ∨ k = 2 := by omega
            · rw [Nat.add_zero] at hdf; rw [hdf] at e1; simp at e1
            · rw [hdf] at e2; simp at e2
            · rw [hdf] at e3; simp at e3)
        have HF := Lib.hid (fail_any 4 s)
        rw [hdf] at HG
        obtain ⟨v, hv⟩ : ∃ v, numV t q k = v := ⟨_, rfl⟩
        rw [hv] at hle ⊢
        clear hle hdf hdg hv
        go_wp2_with fail
        refine HG.out.mono ?_; rintro e w1 ⟨rfl, hd⟩; have HDR := Lib.hid hd; clear hd
        go_wp2_with fail
        refine (HF.out _).mono ?_; rintro e w2 ⟨rfl, rfl⟩
        exact ⟨rfl, HE.out _ _ ⟨rfl, HA.out.trans (HDR.out.aside _)⟩⟩
    · obtain rfl : k = 3 := by omega
      have hd0 := HD.out 0 (by omega)
      have hd1 := HD.out 1 (by omega)
      have hd2 := HD.out 2 (by omega)
      rw [Nat.add_zero] at hd0
      obtain ⟨v, hv⟩ : ∃ v, numV t q 3 = v := ⟨_, rfl⟩
      rw [hv] at hle ⊢
      by_cases hbig : v ≤ 255
      · have HE := Lib.hid (show ∀ en w', Moved w r t (q + 3) (.int .u8 (v : Nat)) en w' → NumPost w r t q s en w' from fun en w' hf => by
          unfold NumPost
          rw [if_pos ⟨hd0, hd1, hd2⟩, hv, if_pos hbig]
          exact hf)
        have t1 : decide ((255 : Int) < v) = false := by simp; omega
        clear hd0 hd1 hd2 hv
        go_wp2_with fail
        go_ret
        exact HE.out _ _ ⟨rfl, HR.out.1, HA.out⟩
      · have HE := Lib.hid (show ∀ en w', Fails w r 5 s en w' → NumPost w r t q s en w' from fun en w' hf => by
          unfold NumPost
          rw [if_pos ⟨hd0, hd1, hd2⟩, hv, if_neg hbig]
          exact hf)
        have t1 : decide ((255 : Int) < v) = true := by simp; omega
        have HF := Lib.hid (fail_any 5 s)
        clear hd0 hd1 hd2 hv
        go_wp2_with fail
        refine (HF.out _).mono ?_; rintro e w2 ⟨rfl, rfl⟩
        exact ⟨rfl, HE.out _ _ ⟨rfl, HA.out⟩⟩
end Go.Proofs.Ytibaeklpgfadpaa
