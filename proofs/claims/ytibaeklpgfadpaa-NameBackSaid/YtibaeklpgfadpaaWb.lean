/-
  A label's byte, as it stands in a text.
-/
import Derived.Test.YtibaeklpgfadpaaWa
import Derived.Test.YtibaeklpgfadpaaTv
namespace Go.Proofs.Ytibaeklpgfadpaa
open Go.RowKit Go.Shelf
set_option linter.unusedVariables false
set_option linter.unusedSimpArgs false

/-- A byte as it is written. -/
def esc (c : UInt8) : List UInt8 :=
  if 33 ≤ c.toNat ∧ c.toNat ≤ 126 then (if c = 46 ∨ c = 92 then [92, c] else [c]) else [92, UInt8.ofNat (48 + c.toNat / 100), UInt8.ofNat (48 + c.toNat / 10 % 10), UInt8.ofNat (48 + c.toNat % 10)]

theorem esc_len (c : UInt8) : 1 ≤ (esc c).length ∧ (esc c).length ≤ 4 := by
  unfold esc
  split
  · split <;> simp
  · simp

set_option maxHeartbeats 1000000 in
theorem tell_any {w : World} {B b : Nat} {l : List UInt8} (c : UInt8) (h : Bd w B b l) (hl : l.length + 4 ≤ 1000000) (hB : B ≤ w.heap.size) :
    Calls Try.prog 44 #[.pointer (some ⟨b, 0, none⟩), .int .u8 (c.toNat : Nat)] w (BdPost w (fun k => k = b ∨ B ≤ k) B b (.tuple #[]) (l ++ esc c)) := by
  have HS := Lib.hid (fun w => stands_any c w)
  have HH := Lib.hid h
  have hc8 : c.toNat < 256 := c.toNat_lt
  by_cases hst : 33 ≤ c.toNat ∧ c.toNat ≤ 126
  · have he : esc c = if c = 46 ∨ c = 92 then [92, c] else [c] := by unfold esc; rw [if_pos hst]
    rw [decide_eq_true hst] at HS
    by_cases h46 : c = 46 ∨ c = 92
    · have he2 : esc c = [92, c] := by rw [he, if_pos h46]
      rw [he2]
      have HW1 := Lib.hid (writeByte_any 92 h (by omega) hB)
      have HW2 := Lib.hid (fun (w : World) (h : Bd w B b (l ++ [92])) (hB : B ≤ w.heap.size) => writeByte_any c h (by simp; omega) hB)
      obtain ⟨n, hn⟩ : ∃ n, c.toNat = n := ⟨_, rfl⟩
      rw [hn] at HS hc8 HW2 ⊢
      have hn2 : n = 46 ∨ n = 92 := by rcases h46 with e | e <;> rw [e] at hn <;> simp at hn <;> omega
      have HW2' := Lib.hid HW2
      clear he he2 hst h46 h
      rcases hn2 with rfl | rfl
      all_goals
        go_enter Try.func44, Try.ntmps44
        go_wp2_with fail
        refine (HS.out _).mono ?_; rintro e w1 ⟨rfl, rfl⟩
        go_wp2_with fail
        refine HW1.out.mono ?_; rintro e w2 ⟨rfl, hp, ha2⟩
        have HR := Lib.hid (And.intro hp ha2)
        have HX := Lib.hid (HW2'.out.out w2 (.inr hp) (by have := ha2.size; omega))
        clear hp ha2
        go_wp2_with fail
        refine HX.out.mono ?_; rintro e w3 ⟨rfl, hp, ha3⟩
        have HR3 := Lib.hid (And.intro hp ha3)
        clear hp ha3
        go_wp2_with fail
        go_end0
        exact ⟨rfl, by simpa using HR3.out.1, HR.out.2.trans HR3.out.2⟩
    · have he2 : esc c = [c] := by rw [he, if_neg h46]
      rw [he2]
      have HW1 := Lib.hid (writeByte_any c h (by omega) hB)
      obtain ⟨n, hn⟩ : ∃ n, c.toNat = n := ⟨_, rfl⟩
      rw [hn] at HS hc8 HW1 ⊢
      have hn2 : ¬ n = 46 ∧ ¬ n = 92 := ⟨fun e => h46 (.inl (by apply UInt8.toNat_inj.mp; rw [hn, e]; rfl)), fun e => h46 (.inr (by apply UInt8.toNat_inj.mp; rw [hn, e]; rfl))⟩
      have t1 : ((n : Int) == 46) = false := by simp; omega
      have t2 : ((n : Int) == 92) = false := by simp; omega
      clear he he2 hst h46 h hn2
      go_enter Try.func44, Try.ntmps44
      go_wp2_with fail
      refine (HS.out _).mono ?_; rintro e w1 ⟨rfl, rfl⟩
      go_wp2_with fail
      refine HW1.out.mono ?_; rintro e w2 ⟨rfl, hp, ha2⟩
      have HR := Lib.hid (And.intro hp ha2)
      clear hp ha2
      go_wp2_with fail
      go_end0
      exact ⟨rfl, HR.out⟩
  · have he : esc c = [92, UInt8.ofNat (48 + c.toNat / 100), UInt8.ofNat (48 + c.toNat / 10 % 10), UInt8.ofNat (48 + c.toNat % 10)] := by unfold esc; rw [if_neg hst]
    rw [decide_eq_false hst] at HS
    rw [he]
    obtain ⟨n, hn⟩ : ∃ n, c.toNat = n := ⟨_, rfl⟩
    rw [hn] at HS hc8 ⊢
    clear hst he hn h
    go_enter Try.func44, Try.ntmps44
    go_wp2_with fail
    refine (HS.out _).mono ?_; rintro e w1 ⟨rfl, rfl⟩
    go_wp2_with fail
    obtain ⟨W, hW⟩ : ∃ W, w.alloc (.cells #[.int .u8 92, .int .u8 (48 + (n : Int) / 100), .int .u8 (48 + (n : Int) / 10 % 10), .int .u8 (48 + (n : Int) % 10)] 5) = W := ⟨_, rfl⟩
    have hx : ∀ j, j < [92, UInt8.ofNat (48 + n / 100), UInt8.ofNat (48 + n / 10 % 10), UInt8.ofNat (48 + n % 10)].length → W.cell? ⟨w.heap.size, j, none⟩ = some (.int .u8 (([92, UInt8.ofNat (48 + n / 100), UInt8.ofNat (48 + n / 10 % 10), UInt8.ofNat (48 + n % 10)].getD j 0).toNat : Nat)) := by
      intro j hj
      simp only [List.length_cons, List.length_nil] at hj
      have m0 : (48 + n / 100) % 256 = 48 + n / 100 := by omega
      have m1 : (48 + n / 10 % 10) % 256 = 48 + n / 10 % 10 := by omega
      have m2 : (48 + n % 10) % 256 = 48 + n % 10 := by omega
      rw [← hW]
      match j, hj with
      | 0, _ => simp [go_sem]
      | 1, _ => simp [go_sem, UInt8.toNat_ofNat', m0]
      | 2, _ => simp [go_sem, UInt8.toNat_ofNat', m1]
      | 3, _ => simp [go_sem, UInt8.toNat_ofNat', m2]
    have hlt := HH.out.lt
    have ha : Aside (fun k => k = b ∨ B ≤ k) w W := by rw [← hW]; exact Aside.alloc _ _
    have hbd : Bd W B b l := HH.out.aside (G := fun _ => False) (by rw [← hW]; exact Aside.alloc _ _) (fun h => h) fun _ _ h => h
    have HW := Lib.hid (writeB_any (g := w.heap.size) (c := 4) hbd hx (by simp) (by omega) (by simp; omega) (by have := ha.size; omega))
    have HA := Lib.hid ha
    rw [hW]
    clear hW hx hbd ha HS
    refine HW.out.mono ?_; rintro e w2 ⟨rfl, hp, ha2⟩
    have HR := Lib.hid (And.intro hp (HA.out.trans ha2))
    clear hp ha2
    go_wp2_with fail
    go_end0
    exact ⟨rfl, HR.out⟩
end Go.Proofs.Ytibaeklpgfadpaa
