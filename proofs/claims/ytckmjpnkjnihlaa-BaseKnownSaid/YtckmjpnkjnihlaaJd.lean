/-
  Encode, the program's.
-/
import Derived.Test.YtckmjpnkjnihlaaJc
import Derived.Test.YtckmjpnkjnihlaaShelf
import Derived.Deep.LoopGhost
namespace Go.Proofs.Ytckmjpnkjnihlaa
open Go.RowKit Go.Shelf
set_option linter.unusedVariables false
set_option maxRecDepth 100000

/-- What a builder tells. -/
theorem string_any {w : World} {B b : Nat} {l : List UInt8} (h : Bd w B b l) : Calls Try.prog 26 #[.pointer (some ⟨b, 0, none⟩)] w fun e w' => e = .returned (.string (bs l)) ∧ Below b w w' := by
  have hlt := h.lt
  have hb : Lib.IsBuilderF 50 5 b b (Lib.byteCells l) w := by
    have key : ∀ p, Bp w B b p l → Lib.BuilderAtF 50 5 b b p (Lib.byteCells l) w := fun p hp => by
      obtain ⟨v, h1, h2, h3⟩ := hp
      refine ⟨Nat.le_refl _, v, h1, ?_, fun e => by have := h2.row b e; omega⟩
      rw [Lib.byteCells_length]
      exact h2.mono (Nat.le_of_lt h3)
    exact h.elim (fun h => .inl (key _ h)) (fun h => .inr (key _ h))
  exact (Try.Builder_String_any_f b b l w hb (Nat.le_of_lt hlt)).mono fun e w' hp => ⟨hp.1, hp.2.2⟩

theorem enc_at0 (b : List UInt8) (q : Nat) (h : 3 * q < b.length) : encN b (8 * (3 * q + 1) / 6) = encN b (8 * (3 * q) / 6) ++ [ltr (b[3 * q].toNat / 4)] ∧ cy b (3 * q + 1) = b[3 * q].toNat % 4 ∧ cy b (3 * q) = 0 := by
  rw [show 8 * (3 * q + 1) / 6 = 4 * q + 1 by omega, show 8 * (3 * q) / 6 = 4 * q by omega, encN_succ, lt0, gb_at b _ h]
  refine ⟨rfl, ?_, ?_⟩
  · unfold cy; rw [if_neg (by omega), if_pos (by omega), Nat.add_sub_cancel, gb_at b _ h]
  · unfold cy; rw [if_pos (by omega)]
theorem enc_at1 (b : List UInt8) (q : Nat) (h : 3 * q + 1 < b.length) : encN b (8 * (3 * q + 2) / 6) = encN b (8 * (3 * q + 1) / 6) ++ [ltr ((cy b (3 * q + 1) * 256 + b[3 * q + 1].toNat) / 16)] ∧ cy b (3 * q + 2) = (cy b (3 * q + 1) * 256 + b[3 * q + 1].toNat) % 16 ∧ cy b (3 * q + 1) < 4 := by
  have hx := gb_lt b (3 * q + 1)
  have hc : cy b (3 * q + 1) = gb b (3 * q) % 4 := by unfold cy; rw [if_neg (by omega), if_pos (by omega), Nat.add_sub_cancel]
  rw [show 8 * (3 * q + 2) / 6 = 4 * q + 1 + 1 by omega, show 8 * (3 * q + 1) / 6 = 4 * q + 1 by omega, encN_succ, lt1, hc, ← gb_at b _ h]
  refine ⟨by congr 3; omega, ?_, by omega⟩
  · unfold cy; rw [if_neg (by omega), if_neg (by omega), show 3 * q + 2 - 1 = 3 * q + 1 by omega]; omega
theorem enc_at2 (b : List UInt8) (q : Nat) (h : 3 * q + 2 < b.length) : encN b (8 * (3 * q + 3) / 6) = encN b (8 * (3 * q + 2) / 6) ++ [ltr ((cy b (3 * q + 2) * 256 + b[3 * q + 2].toNat) / 64), ltr ((cy b (3 * q + 2) * 256 + b[3 * q + 2].toNat) % 64)] ∧ cy b (3 * q + 3) = 0 ∧ cy b (3 * q + 2) < 16 := by
  have hx := gb_lt b (3 * q + 2)
  have hc : cy b (3 * q + 2) = gb b (3 * q + 1) % 16 := by unfold cy; rw [if_neg (by omega), if_neg (by omega), show 3 * q + 2 - 1 = 3 * q + 1 by omega]
  rw [show 8 * (3 * q + 3) / 6 = 4 * q + 2 + 1 + 1 by omega, show 8 * (3 * q + 2) / 6 = 4 * q + 2 by omega, encN_succ, encN_succ, show 4 * q + 2 + 1 = 4 * q + 3 by omega, lt2, lt3, hc, ← gb_at b _ h, List.append_assoc]
  refine ⟨?_, ?_, by omega⟩
  · congr 1
    show [ltr _, ltr _] = _
    rw [show (gb b (3 * q + 1) % 16 * 256 + gb b (3 * q + 2)) / 64 = gb b (3 * q + 1) % 16 * 4 + gb b (3 * q + 2) / 64 by omega, show (gb b (3 * q + 1) % 16 * 256 + gb b (3 * q + 2)) % 64 = gb b (3 * q + 2) % 64 by omega]
  · unfold cy; rw [if_pos (by omega)]
theorem enc_end0 (b : List UInt8) (q : Nat) (h : b.length = 3 * q) : enc b = encN b (8 * (3 * q) / 6) := by
  unfold enc; congr 1; unfold nl; omega
theorem enc_end1 (b : List UInt8) (q : Nat) (h : b.length = 3 * q + 1) : enc b = encN b (8 * (3 * q + 1) / 6) ++ [ltr (cy b (3 * q + 1) * 16)] ∧ cy b (3 * q + 1) < 4 := by
  have hc : cy b (3 * q + 1) = gb b (3 * q) % 4 := by unfold cy; rw [if_neg (by omega), if_pos (by omega), Nat.add_sub_cancel]
  have he : nl b.length = 4 * q + 1 + 1 := by unfold nl; omega
  unfold enc
  rw [he, show 8 * (3 * q + 1) / 6 = 4 * q + 1 by omega, encN_succ, lt1, hc, gb_end b (3 * q + 1) (by omega)]
  exact ⟨rfl, by omega⟩
theorem enc_end2 (b : List UInt8) (q : Nat) (h : b.length = 3 * q + 2) : enc b = encN b (8 * (3 * q + 2) / 6) ++ [ltr (cy b (3 * q + 2) * 4)] ∧ cy b (3 * q + 2) < 16 := by
  have hc : cy b (3 * q + 2) = gb b (3 * q + 1) % 16 := by unfold cy; rw [if_neg (by omega), if_neg (by omega), show 3 * q + 2 - 1 = 3 * q + 1 by omega]
  have he : nl b.length = 4 * q + 2 + 1 := by unfold nl; omega
  unfold enc
  rw [he, show 8 * (3 * q + 2) / 6 = 4 * q + 2 by omega, encN_succ, lt2, hc, gb_end b (3 * q + 2) (by omega)]
  exact ⟨rfl, by omega⟩

/-- How the two are when so many bytes have gone. -/
structure EnI (w wr : World) (b : List UInt8) (k n : Nat) : Prop where
  cy : Cy wr w.heap.size (cy b k) n
  bd : Bd wr (w.heap.size + 2) (w.heap.size + 1) (encN b (8 * k / 6))
  bel : Below w.heap.size w wr
  sz : w.heap.size + 2 ≤ wr.heap.size

set_option maxHeartbeats 2000000 in
theorem encode_any {w : World} {lo hi : Nat} {v : Value} (b : List UInt8) (h : Sl w lo hi v (iz b)) (hhi : hi ≤ w.heap.size) (hl : b.length ≤ 300000) :
    Calls Try.prog 12 #[v] w fun e w' => e = .returned (.string (bs (enc b))) ∧ Below w.heap.size w w' := by
  have HX := Lib.hid h
  have HI0 := Lib.hid (show EnI w ((w.alloc (.cells #[.int .u64 0, .int .u64 0] 41)).alloc (.cells #[.pointer none, .slice none 0 0] 50)) b 0 0 from
    ⟨by unfold Cy Go.Proofs.Ytckmjpnkjnihlaa.cy; rw [if_pos (by omega)]; exact (Lib.alloc_old _ _ _ (by simp)).trans (heap_alloc_new w _), .inl ⟨.slice none 0 0, two_alloc w _ _, by simpa [encN] using OwnU.nil _ _, by omega⟩, ((Below.refl _ _).alloc (Nat.le_refl _) _).alloc (by simp) _, by simp⟩)
  obtain ⟨a, c, rfl, _⟩ := h
  rw [iz_len]
  rw [iz_len] at HX
  go_enter Try.func12, Try.ntmps12
  go_wp2_with fail
  go_loopg [9] b.length (fun g v9 wr => ∃ k n : Nat, k + g = b.length ∧ v9 = .int .i64 k ∧ n = 8 * k % 6 ∧ Hid (EnI w wr b k n))
  case atStart => exact ⟨0, 0, by omega, rfl, rfl, HI0⟩
  case round =>
    clear HI0
    obtain ⟨k, n, hk, rfl, hn, HI⟩ := hrel
    have HXr := HX.out.below HI.out.bel hhi
    have hbL := HI.out.bel
    by_cases hlt : k < b.length
    · obtain ⟨bb, off, ha, hcell⟩ : ∃ bb off, a = some ⟨bb, off, none⟩ ∧ wr.cell? ⟨bb, off + k, none⟩ = some (.int .u8 (b[k].toNat : Nat)) := by
        obtain ⟨a', c', he, _, _, hp⟩ := HXr
        injection he with e1 e2 e3
        obtain ⟨bb, off, h1, _, _, h4⟩ := hp (by rw [iz_len]; omega)
        refine ⟨bb, off, by rw [e1, h1], ?_⟩
        rw [h4 k (by rw [iz_len]; exact hlt), iz_get b k hlt]
      subst ha
      have hx8 : b[k].toNat < 256 := b[k].toNat_lt
      obtain ⟨x, hx⟩ : ∃ x, b[k].toNat = x := ⟨_, rfl⟩
      have hx8' : x < 256 := by omega
      have STEP : ∃ n', n' = 8 * (k + 1) % 6 ∧ ∀ (w1 : World), CyPost wr w.heap.size (.tuple #[]) (cy b k * 256 + x) (n + 8) (.returned (.tuple #[])) w1 →
          Calls Try.prog 25 #[.pointer (some ⟨w.heap.size, 0, none⟩), .pointer (some ⟨w.heap.size + 1, 0, none⟩)] w1 fun e w2 => e = .returned (.tuple #[]) ∧ EnI w w2 b (k + 1) n' := by
        have hlen : (encN b (8 * k / 6)).length + 2 ≤ 1000000 := by rw [encN_len]; omega
        have fin : ∀ {w1 w2 : World} {l : List UInt8} {v n' : Nat} {e : Ending}, Aside (fun k => k = w.heap.size) wr w1 → TlPost w1 (w.heap.size + 2) (w.heap.size + 1) w.heap.size l v n' e w2 → l = encN b (8 * (k + 1) / 6) → v = cy b (k + 1) → e = .returned (.tuple #[]) ∧ EnI w w2 b (k + 1) n' := fun {w1 w2 l v n' e} h1 h2 h3 h4 => by
          obtain ⟨g1, g2, g3, g4⟩ := h2
          subst h3; subst h4
          have hs1 := h1.size
          have hs2 := g4.size
          refine ⟨g1, g3, g2, ?_, by have := HI.out.sz; omega⟩
          exact below_aside (below_aside hbL h1 fun j hj => ⟨by have := HI.out.sz; omega, by omega⟩) g4 fun j hj => ⟨by have := HI.out.sz; omega, by omega⟩
        obtain ⟨q, rfl | rfl | rfl⟩ := three k
        · obtain ⟨e1, e2, e3⟩ := enc_at0 b q hlt
          obtain rfl : n = 0 := by omega
          refine ⟨2, by omega, fun w1 h1 => ?_⟩
          rw [e3, Nat.zero_mul, Nat.zero_add] at h1
          have hb1 := HI.out.bd.aside h1.2.2 (by omega) fun j hj => by omega
          exact (tell8 h1.2.1 hx8' hb1 hlen (by have := HI.out.sz; have := h1.2.2.size; omega) (by omega) (by omega)).mono fun e w2 h2 => fin h1.2.2 h2 (by rw [e1, hx]) (by rw [e2, hx])
        · obtain ⟨e1, e2, e3⟩ := enc_at1 b q hlt
          obtain rfl : n = 2 := by omega
          refine ⟨4, by omega, fun w1 h1 => ?_⟩
          have hb1 := HI.out.bd.aside h1.2.2 (by omega) fun j hj => by omega
          exact (tell10 h1.2.1 (by omega) hb1 hlen (by have := HI.out.sz; have := h1.2.2.size; omega) (by omega) (by omega)).mono fun e w2 h2 => fin h1.2.2 h2 (by rw [e1, hx]) (by rw [e2, hx])
        · obtain ⟨e1, e2, e3⟩ := enc_at2 b q hlt
          obtain rfl : n = 4 := by omega
          refine ⟨0, by omega, fun w1 h1 => ?_⟩
          have hb1 := HI.out.bd.aside h1.2.2 (by omega) fun j hj => by omega
          exact (tell12 h1.2.1 (by omega) hb1 hlen (by have := HI.out.sz; have := h1.2.2.size; omega) (by omega) (by omega)).mono fun e w2 h2 => fin h1.2.2 h2 (by rw [e1, hx]) (by rw [e2])
      have hcy : cy b k < 65536 := by
        unfold cy
        repeat' split
        all_goals omega
      obtain ⟨n', hn', HT⟩ := STEP
      have HP := Lib.hid (put8 x HI.out.cy hcy (by omega) hx8')
      have HT := Lib.hid HT
      rw [hx] at hcell
      clear hn hx HXr hbL HI
      go_wp2_with fail
      refine HP.out.mono ?_; rintro e w1 ⟨rfl, hq⟩
      have HQ := Lib.hid (HT.out w1 ⟨rfl, hq⟩)
      clear hq
      go_wp2_with fail
      refine HQ.out.mono ?_; rintro e w2 ⟨rfl, hi⟩
      have HI2 := Lib.hid hi
      clear hi
      go_wp2_with fail
      go_roundg (b.length - (k + 1))
      case rel => exact ⟨k + 1, n', by omega, by go_num, hn', HI2⟩
      case measure => omega
    · have hkb : k = b.length := by omega
      obtain ⟨q, rfl | rfl | rfl⟩ := three k
      · have e1 := enc_end0 b q hkb.symm
        obtain rfl : n = 0 := by omega
        have HS := Lib.hid (string_any HI.out.bd)
        obtain ⟨k0, k1, k2⟩ := HI.out.cy.cells
        rw [← e1] at HS
        have HE := Lib.hid hbL
        clear e1 hn HXr hbL HI hkb
        go_wp2_with fail
        refine HS.out.mono ?_; rintro e w3 ⟨rfl, hb3⟩
        have HE3 := Lib.hid (HE.out.trans (hb3.mono (Nat.le_succ _)))
        clear hb3
        go_wp2_with fail
        go_ret
        exact ⟨rfl, HE3.out⟩
      · obtain ⟨e1, e2⟩ := enc_end1 b q hkb.symm
        obtain rfl : n = 2 := by omega
        have HP := Lib.hid (put4 0 HI.out.cy (by omega) (by omega) (by omega))
        have HT : Hid (∀ (w1 : World), CyPost wr w.heap.size (.tuple #[]) (cy b (3 * q + 1) * 16 + 0) (2 + 4) (.returned (.tuple #[])) w1 →
          Calls Try.prog 25 #[.pointer (some ⟨w.heap.size, 0, none⟩), .pointer (some ⟨w.heap.size + 1, 0, none⟩)] w1 fun e w2 => e = .returned (.tuple #[]) ∧ Bd w2 (w.heap.size + 2) (w.heap.size + 1) (enc b) ∧ Below w.heap.size w w2) := Lib.hid fun w1 h1 => by
          have hb1 := HI.out.bd.aside h1.2.2 (by omega) fun j hj => by omega
          have hs := HI.out.sz
          have hs1 := h1.2.2.size
          refine (tell6 h1.2.1 (by omega) hb1 (by rw [encN_len]; omega) (by omega) (by omega) (by omega)).mono fun e w2 h2 => ?_
          obtain ⟨g1, g2, g3, g4⟩ := h2
          refine ⟨g1, by rw [e1]; exact g2, ?_⟩
          exact below_aside (below_aside hbL h1.2.2 fun j hj => ⟨by omega, by omega⟩) g4 fun j hj => ⟨by omega, by omega⟩
        obtain ⟨k0, k1, k2⟩ := HI.out.cy.cells
        clear e1 e2 hn HXr hbL HI hkb
        go_wp2_with fail
        refine HP.out.mono ?_; rintro e w1 ⟨rfl, hq⟩
        have HQ := Lib.hid (HT.out w1 ⟨rfl, hq⟩)
        clear hq
        go_wp2_with fail
        refine HQ.out.mono ?_; rintro e w2 ⟨rfl, hb2, hbel⟩
        have HS := Lib.hid (string_any hb2)
        have HE := Lib.hid hbel
        clear hb2 hbel
        go_wp2_with fail
        refine HS.out.mono ?_; rintro e w3 ⟨rfl, hb3⟩
        have HE3 := Lib.hid (HE.out.trans (hb3.mono (Nat.le_succ _)))
        clear hb3
        go_wp2_with fail
        go_ret
        exact ⟨rfl, HE3.out⟩
      · obtain ⟨e1, e2⟩ := enc_end2 b q hkb.symm
        obtain rfl : n = 4 := by omega
        have HP := Lib.hid (put2 0 HI.out.cy (by omega) (by omega) (by omega))
        have HT : Hid (∀ (w1 : World), CyPost wr w.heap.size (.tuple #[]) (cy b (3 * q + 2) * 4 + 0) (4 + 2) (.returned (.tuple #[])) w1 →
          Calls Try.prog 25 #[.pointer (some ⟨w.heap.size, 0, none⟩), .pointer (some ⟨w.heap.size + 1, 0, none⟩)] w1 fun e w2 => e = .returned (.tuple #[]) ∧ Bd w2 (w.heap.size + 2) (w.heap.size + 1) (enc b) ∧ Below w.heap.size w w2) := Lib.hid fun w1 h1 => by
          have hb1 := HI.out.bd.aside h1.2.2 (by omega) fun j hj => by omega
          have hs := HI.out.sz
          have hs1 := h1.2.2.size
          refine (tell6 h1.2.1 (by omega) hb1 (by rw [encN_len]; omega) (by omega) (by omega) (by omega)).mono fun e w2 h2 => ?_
          obtain ⟨g1, g2, g3, g4⟩ := h2
          refine ⟨g1, by rw [e1]; exact g2, ?_⟩
          exact below_aside (below_aside hbL h1.2.2 fun j hj => ⟨by omega, by omega⟩) g4 fun j hj => ⟨by omega, by omega⟩
        obtain ⟨k0, k1, k2⟩ := HI.out.cy.cells
        clear e1 e2 hn HXr hbL HI hkb
        go_wp2_with fail
        refine HP.out.mono ?_; rintro e w1 ⟨rfl, hq⟩
        have HQ := Lib.hid (HT.out w1 ⟨rfl, hq⟩)
        clear hq
        go_wp2_with fail
        refine HQ.out.mono ?_; rintro e w2 ⟨rfl, hb2, hbel⟩
        have HS := Lib.hid (string_any hb2)
        have HE := Lib.hid hbel
        clear hb2 hbel
        go_wp2_with fail
        refine HS.out.mono ?_; rintro e w3 ⟨rfl, hb3⟩
        have HE3 := Lib.hid (HE.out.trans (hb3.mono (Nat.le_succ _)))
        clear hb3
        go_wp2_with fail
        go_ret
        exact ⟨rfl, HE3.out⟩
end Go.Proofs.Ytckmjpnkjnihlaa
