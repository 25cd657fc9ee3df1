/-
  All whole letters of what is carried, written.
-/
import Derived.Test.YtckmjpnkjnihlaaJb
import Derived.Test.YtckmjpnkjnihlaaWa
namespace Go.Proofs.Ytckmjpnkjnihlaa
open Go.RowKit Go.Shelf
set_option linter.unusedVariables false
set_option maxRecDepth 100000

theorem ix_alph (n : Nat) (h : n < 64) (w : World) : (Instr.index 9 (.string ⟨#[65, 66, 67, 68, 69, 70, 71, 72, 73, 74, 75, 76, 77, 78, 79, 80, 81, 82, 83, 84, 85, 86, 87, 88, 89, 90, 97, 98, 99, 100, 101, 102, 103, 104, 105, 106, 107, 108, 109, 110, 111, 112, 113, 114, 115, 116, 117, 118, 119, 120, 121, 122, 48, 49, 50, 51, 52, 53, 54, 55, 56, 57, 45, 95]⟩) (.int .u64 n)).run Try.prog w = .ok (.int .u8 ((ltr n).toNat : Nat)) w := by
  show (Instr.index 9 (.string (bs alph)) (.int .u64 n)).run Try.prog w = _
  have hl : n < alph.length := h
  rw [run_index_string w 9 _ _ _ Try.underlying9, dif_pos (by rw [bs_size]; omega)]
  unfold ltr
  rw [List.getD, List.getElem?_eq_getElem hl]
  congr 3

/-- How the two are behind a call that tells letters. -/
def TlPost (w : World) (B b g : Nat) (l : List UInt8) (v n : Nat) (e : Ending) (w' : World) : Prop := e = .returned (.tuple #[]) ∧ Bd w' B b l ∧ Cy w' g v n ∧ Aside (fun k => k = g ∨ k = b ∨ B ≤ k) w w'

set_option maxHeartbeats 1000000 in
theorem tell6 {w : World} {g b B v : Nat} {l : List UInt8} (h : Cy w g v 6) (hv : v < 64) (hb : Bd w B b l) (hl : l.length + 2 ≤ 1000000) (hB : B ≤ w.heap.size) (hg : g < b) (hbB : b < B) :
    Calls Try.prog 25 #[.pointer (some ⟨g, 0, none⟩), .pointer (some ⟨b, 0, none⟩)] w (TlPost w B b g (l ++ [ltr v]) 0 0) := by
  have HT := take6_yes6 h hv
  obtain ⟨n, hn⟩ : ∃ n, v = n := ⟨_, rfl⟩
  have hn64 : n < 64 := by omega
  rw [hn] at HT ⊢
  have hr0 : True := trivial
  have HT := Lib.hid HT
  have hx := ix_alph n hn64
  have HB := Lib.hid hb
  clear h hb hn hr0
  go_enter Try.func25, Try.ntmps25
  go_wp2_with fail
  refine HT.out.mono ?_; rintro e w1 ⟨rfl, hc, ha⟩
  have hb1 : Bd w1 B b l := HB.out.aside ha (by omega) fun k hk => by omega
  have HW := Lib.hid (writeByte_any (ltr n) hb1 (by omega) (Nat.le_trans hB ha.size))
  have HC := Lib.hid hc
  have HA := Lib.hid (ha.mono (G' := fun k => k = g ∨ k = b ∨ B ≤ k) fun _ _ h => .inl h)
  clear hc ha hb1
  go_wp2_with fail
  refine wp_loop_rounds 2 ?_
  rw [rounds_succ]
  go_wp2_with fail
  refine HW.out.mono ?_; rintro e w2 ⟨rfl, hp, ha⟩
  have HC2 := Lib.hid (HC.out.aside ha (by omega))
  have HA2 := Lib.hid (HA.out.trans (ha.mono (G' := fun k => k = g ∨ k = b ∨ B ≤ k) fun _ _ h => .inr h))
  have HB2 := Lib.hid (show Bd w2 B b (l ++ [ltr n]) from .inr hp)
  have hs2 := HA2.out.size
  clear ha hp
  have HT2 := Lib.hid (take6_no0 HC2.out)
  go_wp2_with fail
  refine HT2.out.mono ?_; rintro e w3 ⟨rfl, hc, ha⟩
  have HF := Lib.hid (show TlPost w B b g (l ++ [ltr n]) 0 0 (.returned (.tuple #[])) w3 from
    ⟨rfl, HB2.out.aside ha (by omega) (fun k hk => by omega), hc, HA2.out.trans (ha.mono (G' := fun k => k = g ∨ k = b ∨ B ≤ k) fun _ _ h => .inl h)⟩)
  clear hc ha
  go_wp2_with fail
  rw [rounds_succ]
  go_wp2_with fail
  go_end0
  exact HF.out

set_option maxHeartbeats 1000000 in
theorem tell8 {w : World} {g b B v : Nat} {l : List UInt8} (h : Cy w g v 8) (hv : v < 256) (hb : Bd w B b l) (hl : l.length + 2 ≤ 1000000) (hB : B ≤ w.heap.size) (hg : g < b) (hbB : b < B) :
    Calls Try.prog 25 #[.pointer (some ⟨g, 0, none⟩), .pointer (some ⟨b, 0, none⟩)] w (TlPost w B b g (l ++ [ltr (v / 4)]) (v % 4) 2) := by
  have HT := take6_yes8 h hv
  have hr : v % 4 < 64 := by omega
  obtain ⟨n, hn⟩ : ∃ n, (v / 4) = n := ⟨_, rfl⟩
  have hn64 : n < 64 := by omega
  rw [hn] at HT ⊢
  obtain ⟨r, hr0⟩ : ∃ r, (v % 4) = r := ⟨_, rfl⟩
  rw [hr0] at HT hr ⊢
  have HT := Lib.hid HT
  have hx := ix_alph n hn64
  have HB := Lib.hid hb
  clear h hb hn hr0
  go_enter Try.func25, Try.ntmps25
  go_wp2_with fail
  refine HT.out.mono ?_; rintro e w1 ⟨rfl, hc, ha⟩
  have hb1 : Bd w1 B b l := HB.out.aside ha (by omega) fun k hk => by omega
  have HW := Lib.hid (writeByte_any (ltr n) hb1 (by omega) (Nat.le_trans hB ha.size))
  have HC := Lib.hid hc
  have HA := Lib.hid (ha.mono (G' := fun k => k = g ∨ k = b ∨ B ≤ k) fun _ _ h => .inl h)
  clear hc ha hb1
  go_wp2_with fail
  refine wp_loop_rounds 2 ?_
  rw [rounds_succ]
  go_wp2_with fail
  refine HW.out.mono ?_; rintro e w2 ⟨rfl, hp, ha⟩
  have HC2 := Lib.hid (HC.out.aside ha (by omega))
  have HA2 := Lib.hid (HA.out.trans (ha.mono (G' := fun k => k = g ∨ k = b ∨ B ≤ k) fun _ _ h => .inr h))
  have HB2 := Lib.hid (show Bd w2 B b (l ++ [ltr n]) from .inr hp)
  have hs2 := HA2.out.size
  clear ha hp
  have HT2 := Lib.hid (take6_no2 HC2.out)
  go_wp2_with fail
  refine HT2.out.mono ?_; rintro e w3 ⟨rfl, hc, ha⟩
  have HF := Lib.hid (show TlPost w B b g (l ++ [ltr n]) r 2 (.returned (.tuple #[])) w3 from
    ⟨rfl, HB2.out.aside ha (by omega) (fun k hk => by omega), hc, HA2.out.trans (ha.mono (G' := fun k => k = g ∨ k = b ∨ B ≤ k) fun _ _ h => .inl h)⟩)
  clear hc ha
  go_wp2_with fail
  rw [rounds_succ]
  go_wp2_with fail
  go_end0
  exact HF.out

set_option maxHeartbeats 1000000 in
theorem tell10 {w : World} {g b B v : Nat} {l : List UInt8} (h : Cy w g v 10) (hv : v < 1024) (hb : Bd w B b l) (hl : l.length + 2 ≤ 1000000) (hB : B ≤ w.heap.size) (hg : g < b) (hbB : b < B) :
    Calls Try.prog 25 #[.pointer (some ⟨g, 0, none⟩), .pointer (some ⟨b, 0, none⟩)] w (TlPost w B b g (l ++ [ltr (v / 16)]) (v % 16) 4) := by
  have HT := take6_yes10 h hv
  have hr : v % 16 < 64 := by omega
  obtain ⟨n, hn⟩ : ∃ n, (v / 16) = n := ⟨_, rfl⟩
  have hn64 : n < 64 := by omega
  rw [hn] at HT ⊢
  obtain ⟨r, hr0⟩ : ∃ r, (v % 16) = r := ⟨_, rfl⟩
  rw [hr0] at HT hr ⊢
  have HT := Lib.hid HT
  have hx := ix_alph n hn64
  have HB := Lib.hid hb
  clear h hb hn hr0
  go_enter Try.func25, Try.ntmps25
  go_wp2_with fail
  refine HT.out.mono ?_; rintro e w1 ⟨rfl, hc, ha⟩
  have hb1 : Bd w1 B b l := HB.out.aside ha (by omega) fun k hk => by omega
  have HW := Lib.hid (writeByte_any (ltr n) hb1 (by omega) (Nat.le_trans hB ha.size))
  have HC := Lib.hid hc
  have HA := Lib.hid (ha.mono (G' := fun k => k = g ∨ k = b ∨ B ≤ k) fun _ _ h => .inl h)
  clear hc ha hb1
  go_wp2_with fail
  refine wp_loop_rounds 2 ?_
  rw [rounds_succ]
  go_wp2_with fail
  refine HW.out.mono ?_; rintro e w2 ⟨rfl, hp, ha⟩
  have HC2 := Lib.hid (HC.out.aside ha (by omega))
  have HA2 := Lib.hid (HA.out.trans (ha.mono (G' := fun k => k = g ∨ k = b ∨ B ≤ k) fun _ _ h => .inr h))
  have HB2 := Lib.hid (show Bd w2 B b (l ++ [ltr n]) from .inr hp)
  have hs2 := HA2.out.size
  clear ha hp
  have HT2 := Lib.hid (take6_no4 HC2.out)
  go_wp2_with fail
  refine HT2.out.mono ?_; rintro e w3 ⟨rfl, hc, ha⟩
  have HF := Lib.hid (show TlPost w B b g (l ++ [ltr n]) r 4 (.returned (.tuple #[])) w3 from
    ⟨rfl, HB2.out.aside ha (by omega) (fun k hk => by omega), hc, HA2.out.trans (ha.mono (G' := fun k => k = g ∨ k = b ∨ B ≤ k) fun _ _ h => .inl h)⟩)
  clear hc ha
  go_wp2_with fail
  rw [rounds_succ]
  go_wp2_with fail
  go_end0
  exact HF.out

set_option maxHeartbeats 1000000 in
theorem tell12 {w : World} {g b B v : Nat} {l : List UInt8} (h : Cy w g v 12) (hv : v < 4096) (hb : Bd w B b l) (hl : l.length + 2 ≤ 1000000) (hB : B ≤ w.heap.size) (hg : g < b) (hbB : b < B) :
    Calls Try.prog 25 #[.pointer (some ⟨g, 0, none⟩), .pointer (some ⟨b, 0, none⟩)] w (TlPost w B b g (l ++ [ltr (v / 64), ltr (v % 64)]) 0 0) := by
  have HT := take6_yes12 h hv
  have hr : v % 64 < 64 := by omega
  obtain ⟨n, hn⟩ : ∃ n, (v / 64) = n := ⟨_, rfl⟩
  have hn64 : n < 64 := by omega
  rw [hn] at HT ⊢
  obtain ⟨r, hr0⟩ : ∃ r, (v % 64) = r := ⟨_, rfl⟩
  rw [hr0] at HT hr ⊢
  have HT := Lib.hid HT
  have hx := ix_alph n hn64
  have hx2 := ix_alph r hr
  have HB := Lib.hid hb
  clear h hb hn hr0
  go_enter Try.func25, Try.ntmps25
  go_wp2_with fail
  refine HT.out.mono ?_; rintro e w1 ⟨rfl, hc, ha⟩
  have hb1 : Bd w1 B b l := HB.out.aside ha (by omega) fun k hk => by omega
  have HW := Lib.hid (writeByte_any (ltr n) hb1 (by omega) (Nat.le_trans hB ha.size))
  have HC := Lib.hid hc
  have HA := Lib.hid (ha.mono (G' := fun k => k = g ∨ k = b ∨ B ≤ k) fun _ _ h => .inl h)
  clear hc ha hb1
  go_wp2_with fail
  refine wp_loop_rounds 3 ?_
  rw [rounds_succ]
  go_wp2_with fail
  refine HW.out.mono ?_; rintro e w2 ⟨rfl, hp, ha⟩
  have HC2 := Lib.hid (HC.out.aside ha (by omega))
  have HA2 := Lib.hid (HA.out.trans (ha.mono (G' := fun k => k = g ∨ k = b ∨ B ≤ k) fun _ _ h => .inr h))
  have HB2 := Lib.hid (show Bd w2 B b (l ++ [ltr n]) from .inr hp)
  have hs2 := HA2.out.size
  clear ha hp
  have HT2 := Lib.hid (take6_yes6 HC2.out hr)
  go_wp2_with fail
  refine HT2.out.mono ?_; rintro e w3 ⟨rfl, hc, ha⟩
  have hb1 : Bd w3 B b (l ++ [ltr n]) := HB2.out.aside ha (by omega) fun k hk => by omega
  have HW3 := Lib.hid (writeByte_any (ltr r) hb1 (by simp; omega) (Nat.le_trans (Nat.le_trans hB hs2) ha.size))
  have HC3 := Lib.hid hc
  have HA3 := Lib.hid (HA2.out.trans (ha.mono (G' := fun k => k = g ∨ k = b ∨ B ≤ k) fun _ _ h => .inl h))
  clear hc ha hb1
  go_wp2_with fail
  rw [rounds_succ]
  go_wp2_with fail
  refine HW3.out.mono ?_; rintro e w4 ⟨rfl, hp, ha⟩
  have HC4 := Lib.hid (HC3.out.aside ha (by omega))
  have HA4 := Lib.hid (HA3.out.trans (ha.mono (G' := fun k => k = g ∨ k = b ∨ B ≤ k) fun _ _ h => .inr h))
  have HB4 := Lib.hid (show Bd w4 B b (l ++ [ltr n] ++ [ltr r]) from .inr hp)
  clear ha hp
  have HT4 := Lib.hid (take6_no0 HC4.out)
  go_wp2_with fail
  refine HT4.out.mono ?_; rintro e w5 ⟨rfl, hc, ha⟩
  have HF := Lib.hid (show TlPost w B b g (l ++ [ltr n, ltr r]) 0 0 (.returned (.tuple #[])) w5 from
    ⟨rfl, by have := HB4.out.aside ha (by omega) (fun k hk => by omega); rwa [List.append_assoc] at this, hc, HA4.out.trans (ha.mono (G' := fun k => k = g ∨ k = b ∨ B ≤ k) fun _ _ h => .inl h)⟩)
  clear hc ha
  go_wp2_with fail
  rw [rounds_succ]
  go_wp2_with fail
  go_end0
  exact HF.out

end Go.Proofs.Ytckmjpnkjnihlaa
