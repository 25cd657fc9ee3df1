/-
  Lower, the program's and the document's.
-/
import Derived.Test.YtaikpgcmcmkdcaaTf
import Derived.Laws.IdiomStrings
namespace Go.Proofs.Ytaikpgcmcmkdcaa
open Go.RowKit
set_option linter.unusedVariables false
set_option maxRecDepth 100000

/-- A byte in lower form; bytes in lower form. -/
def lw (c : UInt8) : UInt8 := if 65 ≤ c.toNat ∧ c.toNat ≤ 90 then c + 32 else c
def low (l : List UInt8) : List UInt8 := l.map lw

theorem lw_up {c : UInt8} (h : 65 ≤ c.toNat ∧ c.toNat ≤ 90) : (lw c).toNat = c.toNat + 32 := by
  unfold lw
  rw [if_pos h, UInt8.toNat_add]
  have : (32 : UInt8).toNat = 32 := rfl
  omega
theorem lw_as {c : UInt8} (h : ¬ (65 ≤ c.toNat ∧ c.toNat ≤ 90)) : lw c = c := by unfold lw; rw [if_neg h]

/-- Block g begins with these bytes, which may be written. -/
def Buf (w : World) (g : Nat) (l : List UInt8) : Prop := ∀ j, j < l.length → w.cell? ⟨g, j, none⟩ = some (.int .u8 ((l.getD j 0).toNat : Nat)) ∧ w.frozen? ⟨g, j, none⟩ = false

theorem Buf.set {w : World} {g : Nat} {l : List UInt8} (h : Buf w g l) (k : Nat) (hk : k < l.length) (c : UInt8) : Buf (w.setCell ⟨g, k, none⟩ (.int .u8 (c.toNat : Nat))) g (l.set k c) := by
  intro j hj
  rw [List.length_set] at hj
  rw [World.frozen?_setCell]
  refine ⟨?_, (h j hj).2⟩
  by_cases e : j = k
  · subst e
    rw [World.cell?_setCell_same _ _ _ (h j hj).1]
    simp [hj]
  · rw [World.cell?_setCell_other _ _ _ _ (by first | (simp; done) | (simp; omega)), (h j hj).1]
    simp [List.getElem?_set_ne (Ne.symm e)]

theorem Buf.row {w : World} {s : List UInt8} {cap : Nat} {t : TypeId} (hcap : s.length ≤ cap) : Buf (w.drew.alloc (.cells (bytesRow (bs s) cap) t ((bytesRow (bs s) cap).size, (bytesRow (bs s) cap).size + 1))) w.heap.size s := by
  intro j hj
  have h1 := World.cell?_alloc_mark w.drew (bytesRow (bs s) cap) t ((bytesRow (bs s) cap).size, (bytesRow (bs s) cap).size + 1) j
  have h2 := World.frozen?_alloc_mark w.drew (bytesRow (bs s) cap) t (bytesRow (bs s) cap).size ((bytesRow (bs s) cap).size + 1) j
  have hsz : j < (bytesRow (bs s) cap).size := by simp [bytesRow, bs]; omega
  refine ⟨h1.trans ?_, h2.trans ?_⟩
  · rw [bytesRow_at (bs s) cap j (by simpa [bs] using hj)]
    simp [bs, hj]
  · simp; omega

/-- After k bytes. -/
def lowK (s : List UInt8) (k : Nat) : List UInt8 := low (s.take k) ++ s.drop k
theorem lowK_len (s : List UInt8) (k : Nat) : (lowK s k).length = s.length := by simp [lowK, low]; omega
theorem lowK_get (s : List UInt8) (k : Nat) (hk : k < s.length) : (lowK s k).getD k 0 = s[k] := by
  have h : (low (s.take k)).length = k := by simp [low]; omega
  unfold lowK
  rw [List.getD, List.getElem?_append_right (by omega), h, Nat.sub_self, List.getElem?_drop, Nat.add_zero, List.getElem?_eq_getElem hk]; rfl
theorem lowK_step (s : List UInt8) (k : Nat) (hk : k < s.length) : (lowK s k).set k (lw s[k]) = lowK s (k + 1) := by
  have h : (low (s.take k)).length = k := by simp [low]; omega
  unfold lowK
  rw [List.set_append_right _ _ (by omega), h, Nat.sub_self, List.drop_eq_getElem_cons hk, List.set_cons_zero, List.take_add_one, List.getElem?_eq_getElem hk]
  unfold low
  rw [List.map_append, List.append_assoc]
  rfl
theorem lowK_same (s : List UInt8) (k : Nat) (hk : k < s.length) (h : lw s[k] = s[k]) : lowK s k = lowK s (k + 1) := by
  rw [← lowK_step s k hk, h]
  apply List.ext_getElem?
  intro j
  by_cases e : k = j
  · subst e
    have := lowK_get s k hk
    rw [List.getD] at this
    have hl := lowK_len s k
    rw [List.getElem?_set_self (by omega)]
    rw [List.getElem?_eq_getElem (by omega)] at this ⊢
    exact congrArg some this
  · rw [List.getElem?_set_ne e]
theorem lowK_end (s : List UInt8) : lowK s s.length = low s := by simp [lowK]

theorem to_bytes (w : World) (s : List UInt8) : ∃ cap W, (convert 9 43 (.string (bs s))).run Try.prog w = .ok (.slice (some ⟨w.heap.size, 0, none⟩) s.length cap) W ∧ Buf W w.heap.size s ∧ Below w.heap.size w W := by
  have h := run_bytes_of_string (P := Try.prog) w 9 43 5 (bs s) Try.underlying9 Try.underlying43 Try.underlying5
  rw [bs_size] at h
  refine ⟨_, _, h, Buf.row ?_, ?_⟩
  · exact grownCap_ge _ _ _ _
  · exact (Below.refl _ w).drew.alloc (Nat.le_refl _) _

theorem back_bytes {w : World} {g : Nat} {l : List UInt8} (h : Buf w g l) (cap : Nat) : (convert 43 9 (.slice (some ⟨g, 0, none⟩) l.length cap)).run Try.prog w = .ok (.string (bs l)) w :=
  run_convert_bytes_back w 43 9 5 ⟨g, 0, none⟩ cap l Try.underlying43 Try.underlying5 Try.underlying9 (fun j hj => by
    have := (h j hj).1
    rw [WideShapes.add_plain, Nat.zero_add, this, List.getD, List.getElem?_eq_getElem hj]; rfl)

set_option maxHeartbeats 1000000 in
theorem lower_any (s : List UInt8) (hs : s.length ≤ 1000000) (w : World) : Calls Try.prog 56 #[.string (bs s)] w (Tells w (.string (bs (low s)))) := by
  obtain ⟨cap, W, hcv, hbuf, hb⟩ := to_bytes w s
  obtain ⟨g, hg⟩ : ∃ g, w.heap.size = g := ⟨_, rfl⟩
  rw [hg] at hcv hbuf hb
  have HB := Lib.hid hb
  have HBUF := Lib.hid hbuf
  have HG := Lib.hid hg
  clear hb hbuf hg
  go_enter Try.func56, Try.ntmps56
  go_wp2
  go_loopw [10] (fun i wr => ∃ k : Nat, k ≤ s.length ∧ i = .int .i64 k ∧ Hid (Buf wr g (lowK s k)) ∧ Hid (Below g w wr)) (fun i _ => s.length - (intOf i).toNat)
  case atStart => exact ⟨0, Nat.zero_le _, rfl, HBUF, HB⟩
  case round =>
    obtain ⟨k, hk, rfl, HR, HW⟩ := hrel
    clear HBUF HB
    by_cases hlt : k < s.length
    · obtain ⟨hc, hf⟩ := HR.out k (by rw [lowK_len]; exact hlt)
      rw [lowK_get s k hlt] at hc
      have hc8 : s[k].toNat < 256 := s[k].toNat_lt
      by_cases hup : 65 ≤ s[k].toNat ∧ s[k].toNat ≤ 90
      · have hst := HR.out.set k (by rw [lowK_len]; exact hlt) (lw s[k])
        rw [lowK_step s k hlt, lw_up hup] at hst
        obtain ⟨c, hcn⟩ : ∃ c, s[k].toNat = c := ⟨_, rfl⟩
        rw [hcn] at hc hc8 hup hst
        clear hcn
        have t1 : decide ((65 : Int) ≤ c) = true := by simp; omega
        have t2 : decide ((c : Int) ≤ 90) = true := by simp; omega
        rw [show ((c + 32 : Nat) : Int) = c - 65 + 97 by omega] at hst
        have HS := Lib.hid hst
        clear hst
        go_wp2
        refine ⟨⟨k + 1, by omega, by go_num, HS, HW.out.setCell (Nat.le_refl _) _⟩, ?_⟩
        simp [intOf]; omega
      · have hst := HR.out
        rw [lowK_same s k hlt (lw_as hup)] at hst
        obtain ⟨c, hcn⟩ : ∃ c, s[k].toNat = c := ⟨_, rfl⟩
        rw [hcn] at hc hc8 hup
        clear hcn
        have HS := Lib.hid hst
        clear hst
        have hor : decide ((65 : Int) ≤ c) = false ∨ (decide ((65 : Int) ≤ c) = true ∧ decide ((c : Int) ≤ 90) = false) := by
          by_cases h : 65 ≤ c
          · exact .inr ⟨by simp; omega, by simp; omega⟩
          · exact .inl (by simp; omega)
        clear hup
        rcases hor with t1 | ⟨t1, t2⟩
        all_goals
          go_wp2
          refine ⟨⟨k + 1, by omega, by go_num, HS, HW⟩, ?_⟩
          simp [intOf]; omega
    · obtain rfl : s.length = k := by omega
      have hbk := back_bytes HR.out cap
      rw [lowK_end] at hbk
      have hl : (low s).length = s.length := by simp [low]
      rw [hl] at hbk
      clear hl
      go_wp2
      go_ret
      exact ⟨rfl, HG.out ▸ HW.out⟩

set_option maxHeartbeats 1000000 in
theorem rlower_any (s : List UInt8) (hs : s.length ≤ 1000000) (w : World) : Calls Try.prog 58 #[.string (bs s)] w (Tells w (.string (bs (low s)))) := by
  obtain ⟨cap, W, hcv, hbuf, hb⟩ := to_bytes w s
  obtain ⟨g, hg⟩ : ∃ g, w.heap.size = g := ⟨_, rfl⟩
  rw [hg] at hcv hbuf hb
  have HB := Lib.hid hb
  have HBUF := Lib.hid hbuf
  have HG := Lib.hid hg
  clear hb hbuf hg
  go_enter Try.func58, Try.ntmps58
  go_wp2
  go_loopw [4] (fun i wr => ∃ k : Nat, k ≤ s.length ∧ i = .int .i64 k ∧ Hid (Buf wr g (lowK s k)) ∧ Hid (Below g w wr)) (fun i _ => s.length - (intOf i).toNat)
  case atStart => exact ⟨0, Nat.zero_le _, rfl, HBUF, HB⟩
  case round =>
    obtain ⟨k, hk, rfl, HR, HW⟩ := hrel
    clear HBUF HB
    by_cases hlt : k < s.length
    · obtain ⟨hc, hf⟩ := HR.out k (by rw [lowK_len]; exact hlt)
      rw [lowK_get s k hlt] at hc
      have hc8 : s[k].toNat < 256 := s[k].toNat_lt
      by_cases hup : 65 ≤ s[k].toNat ∧ s[k].toNat ≤ 90
      · have hst := HR.out.set k (by rw [lowK_len]; exact hlt) (lw s[k])
        rw [lowK_step s k hlt, lw_up hup] at hst
        obtain ⟨c, hcn⟩ : ∃ c, s[k].toNat = c := ⟨_, rfl⟩
        rw [hcn] at hc hc8 hup hst
        clear hcn
        have t1 : decide ((65 : Int) ≤ c) = true := by simp; omega
        have t2 : decide ((c : Int) ≤ 90) = true := by simp; omega
        rw [show ((c + 32 : Nat) : Int) = c + 32 by omega] at hst
        have HS := Lib.hid hst
        clear hst
        go_wp2
        refine ⟨⟨k + 1, by omega, by go_num, HS, HW.out.setCell (Nat.le_refl _) _⟩, ?_⟩
        simp [intOf]; omega
      · have hst := HR.out
        rw [lowK_same s k hlt (lw_as hup)] at hst
        obtain ⟨c, hcn⟩ : ∃ c, s[k].toNat = c := ⟨_, rfl⟩
        rw [hcn] at hc hc8 hup
        clear hcn
        have HS := Lib.hid hst
        clear hst
        have hor : decide ((65 : Int) ≤ c) = false ∨ (decide ((65 : Int) ≤ c) = true ∧ decide ((c : Int) ≤ 90) = false) := by
          by_cases h : 65 ≤ c
          · exact .inr ⟨by simp; omega, by simp; omega⟩
          · exact .inl (by simp; omega)
        clear hup
        rcases hor with t1 | ⟨t1, t2⟩
        all_goals
          go_wp2
          refine ⟨⟨k + 1, by omega, by go_num, HS, HW⟩, ?_⟩
          simp [intOf]; omega
    · obtain rfl : s.length = k := by omega
      have hbk := back_bytes HR.out cap
      rw [lowK_end] at hbk
      have hl : (low s).length = s.length := by simp [low]
      rw [hl] at hbk
      clear hl
      go_wp2
      go_ret
      exact ⟨rfl, HG.out ▸ HW.out⟩

end Go.Proofs.Ytaikpgcmcmkdcaa
