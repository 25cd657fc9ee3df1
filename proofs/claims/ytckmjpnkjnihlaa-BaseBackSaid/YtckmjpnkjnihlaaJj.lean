/-
  The document's Encode.
-/
import Derived.Test.YtckmjpnkjnihlaaJi
namespace Go.Proofs.Ytckmjpnkjnihlaa
open Go.RowKit Go.Shelf
set_option linter.unusedVariables false
set_option maxRecDepth 100000

/-- So many bits from a place on, as a number. -/
def accN (b : List UInt8) (i : Nat) : Nat → Nat
  | 0 => 0
  | k + 1 => 2 * accN b i k + bitN b (i + k)

theorem bitN_lt (b : List UInt8) (i : Nat) : bitN b i < 2 := by unfold bitN; omega
theorem accN_lt (b : List UInt8) (i k : Nat) (h : k ≤ 6) : accN b i k < 64 := by
  have key : ∀ k, accN b i k < 2 ^ k := by
    intro k
    induction k with
    | zero => simp [accN]
    | succ k ih => have := bitN_lt b (i + k); rw [accN, Nat.pow_succ]; omega
  have h1 := key k
  have : 2 ^ k ≤ 2 ^ 6 := Nat.pow_le_pow_right (by omega) h
  omega
theorem bitN_at (b : List UInt8) (q r : Nat) (h : r < 8) : bitN b (8 * q + r) = gb b q / 2 ^ (7 - r) % 2 := by
  unfold bitN; rw [show (8 * q + r) / 8 = q by omega, show (8 * q + r) % 8 = r by omega]

theorem accN_six (b : List UInt8) (j : Nat) : accN b (6 * j) 6 = lt b j := by
  have e : accN b (6 * j) 6 = 2 * (2 * (2 * (2 * (2 * (2 * 0 + bitN b (6 * j + 0)) + bitN b (6 * j + 1)) + bitN b (6 * j + 2)) + bitN b (6 * j + 3)) + bitN b (6 * j + 4)) + bitN b (6 * j + 5) := rfl
  rw [e]
  obtain ⟨q, rfl | rfl | rfl | rfl⟩ := four j
  · rw [lt0, show 6 * (4 * q) = 8 * (3 * q) by omega]
    simp only [bitN_at b _ _ (show 0 < 8 by omega), bitN_at b _ _ (show 1 < 8 by omega), bitN_at b _ _ (show 2 < 8 by omega), bitN_at b _ _ (show 3 < 8 by omega), bitN_at b _ _ (show 4 < 8 by omega), bitN_at b _ _ (show 5 < 8 by omega)]
    have := gb_lt b (3 * q)
    omega
  · rw [lt1, show 6 * (4 * q + 1) + 0 = 8 * (3 * q) + 6 by omega, show 6 * (4 * q + 1) + 1 = 8 * (3 * q) + 7 by omega, show 6 * (4 * q + 1) + 2 = 8 * (3 * q + 1) + 0 by omega, show 6 * (4 * q + 1) + 3 = 8 * (3 * q + 1) + 1 by omega, show 6 * (4 * q + 1) + 4 = 8 * (3 * q + 1) + 2 by omega, show 6 * (4 * q + 1) + 5 = 8 * (3 * q + 1) + 3 by omega]
    rw [bitN_at b (3 * q) 6 (by omega), bitN_at b (3 * q) 7 (by omega), bitN_at b (3 * q + 1) 0 (by omega), bitN_at b (3 * q + 1) 1 (by omega), bitN_at b (3 * q + 1) 2 (by omega), bitN_at b (3 * q + 1) 3 (by omega)]
    have := gb_lt b (3 * q)
    have := gb_lt b (3 * q + 1)
    omega
  · rw [lt2, show 6 * (4 * q + 2) + 0 = 8 * (3 * q + 1) + 4 by omega, show 6 * (4 * q + 2) + 1 = 8 * (3 * q + 1) + 5 by omega, show 6 * (4 * q + 2) + 2 = 8 * (3 * q + 1) + 6 by omega, show 6 * (4 * q + 2) + 3 = 8 * (3 * q + 1) + 7 by omega, show 6 * (4 * q + 2) + 4 = 8 * (3 * q + 2) + 0 by omega, show 6 * (4 * q + 2) + 5 = 8 * (3 * q + 2) + 1 by omega]
    rw [bitN_at b (3 * q + 1) 4 (by omega), bitN_at b (3 * q + 1) 5 (by omega), bitN_at b (3 * q + 1) 6 (by omega), bitN_at b (3 * q + 1) 7 (by omega), bitN_at b (3 * q + 2) 0 (by omega), bitN_at b (3 * q + 2) 1 (by omega)]
    have := gb_lt b (3 * q + 1)
    have := gb_lt b (3 * q + 2)
    omega
  · rw [lt3, show 6 * (4 * q + 3) + 0 = 8 * (3 * q + 2) + 2 by omega, show 6 * (4 * q + 3) + 1 = 8 * (3 * q + 2) + 3 by omega, show 6 * (4 * q + 3) + 2 = 8 * (3 * q + 2) + 4 by omega, show 6 * (4 * q + 3) + 3 = 8 * (3 * q + 2) + 5 by omega, show 6 * (4 * q + 3) + 4 = 8 * (3 * q + 2) + 6 by omega, show 6 * (4 * q + 3) + 5 = 8 * (3 * q + 2) + 7 by omega]
    rw [bitN_at b (3 * q + 2) 2 (by omega), bitN_at b (3 * q + 2) 3 (by omega), bitN_at b (3 * q + 2) 4 (by omega), bitN_at b (3 * q + 2) 5 (by omega), bitN_at b (3 * q + 2) 6 (by omega), bitN_at b (3 * q + 2) 7 (by omega)]
    have := gb_lt b (3 * q + 2)
    omega

theorem str_iz (m : List UInt8) : strOfNums (iz m) = bs m := by
  unfold strOfNums iz bs
  rw [List.map_map]
  congr 2
  conv => rhs; rw [← List.map_id m]
  refine List.map_congr_left fun x _ => ?_
  simp

/-- A byte behind a row of the call's own, as it runs. -/
theorem app_one {w wr : World} {N : Nat} {v : Value} {l : List UInt8} (c : UInt8) (ho : OwnB wr N v l) (hb : Below N w wr) (hl : l.length ≤ 900000) (hN : N ≤ wr.heap.size) :
    ∃ v4 w4, (Builtin.append_ #[22, 22] 22 #[v, .slice (some ⟨wr.heap.size, 0, none⟩) 1 1]).run Try.prog (wr.alloc (.cells #[.int .u8 (c.toNat : Nat)] 5)) = .ok v4 w4 ∧ OwnB w4 N v4 (l ++ [c]) ∧ Below N w w4 ∧ N ≤ w4.heap.size := by
  have ha : Aside (fun _ => False) wr (wr.alloc (.cells #[.int .u8 (c.toNat : Nat)] 5)) := Aside.alloc _ _
  obtain ⟨v4, w4, h5, h6, h7, _⟩ := run_appB (w := wr.alloc (.cells #[.int .u8 (c.toNat : Nat)] 5)) N v (.slice (some ⟨wr.heap.size, 0, none⟩) 1 1) l [c] (ho.aside ha fun _ _ h => h) (sl_one wr (c.toNat : Nat)) (by simp) (by simp; omega) (by simp; omega)
  refine ⟨v4, w4, h5, h6, (hb.alloc hN _).grown h7 (by simp; omega) fun b hb => (ho.lt b hb).1, ?_⟩
  have := h7.size
  simp at this
  omega

set_option maxHeartbeats 2000000 in
theorem rencode_any {w : World} {lo hi : Nat} {v : Value} (b : List UInt8) (h : Sl w lo hi v (iz b)) (hhi : hi ≤ w.heap.size) (hl : b.length ≤ 300000) :
    Calls Try.prog 13 #[v] w fun e w' => e = .returned (.string (bs (enc b))) ∧ Below w.heap.size w w' := by
  have HX := Lib.hid h
  have HL := Lib.hid letters_any
  have HBIT := Lib.hid (fun (wr : World) (hb : Below w.heap.size w wr) (i : Nat) (hi2 : i ≤ 8000000) => bit_any b (h.below hb hhi) hl i hi2)
  have HO0 := Lib.hid (show OwnB w w.heap.size (.slice none 0 0) (encN b 0) from OwnB.nil _ _)
  obtain ⟨a, c, rfl, _⟩ := h
  rw [iz_len] at HBIT ⊢
  rw [iz_len] at HX
  obtain ⟨N, hN⟩ : ∃ N, w.heap.size = N := ⟨_, rfl⟩
  have HB0 := Lib.hid (show Below N w w from Below.refl _ _)
  have hN0 : N ≤ w.heap.size := by omega
  rw [hN] at HBIT HO0 hhi ⊢
  clear hN
  go_enter Try.func13, Try.ntmps13
  go_wp2_with fail
  refine (HL.out _).mono ?_; rintro e w1 ⟨rfl, rfl⟩
  go_wp2_with fail
  go_loopg [4, 5] (nl b.length) (fun g v4 v5 wr => ∃ j i : Nat, j + g = nl b.length ∧ v5 = .int .i64 i ∧ Hid (i = 6 * j) ∧ Hid (OwnB wr N v4 (encN b j)) ∧ Hid (Below N w wr) ∧ N ≤ wr.heap.size)
  case atStart => exact ⟨0, 0, by omega, rfl, Lib.hid rfl, HO0, HB0, hN0⟩
  case round =>
    clear HO0 HB0 hN0
    obtain ⟨j, i, hj, rfl, hi, HO, HB, hsz⟩ := hrel
    have hi0 := hi.out
    have hnl : nl b.length = (8 * b.length + 5) / 6 := rfl
    by_cases hlt : i < 8 * b.length
    · have hi8 : i ≤ 3000000 := by omega
      have hltI : decide ((i : Int) < 8 * (b.length : Int)) = true := by simp; omega
      have hj1 : j + 1 ≤ nl b.length := by omega
      have hjl : (encN b j).length ≤ 900000 := by rw [encN_len]; omega
      have hB64 : IntKind.i64.wrap ((i : Int) + 6) = (i : Int) + 6 := IntWalk.i64_in _ (by omega)
      clear hi0 hnl
      obtain ⟨p, hp⟩ : ∃ p, p = gk := ⟨_, rfl⟩
      go_wp2_with fail
      go_loopg [6, 7] 6 (fun g2 v6 v7 wy => ∃ k acc : Nat, k + g2 = 6 ∧ v7 = .int .i64 k ∧ v6 = .int .i64 acc ∧ Hid (accN b i k = acc) ∧ wr = wy)
      case atStart => exact ⟨0, 0, by omega, rfl, rfl, Lib.hid rfl, rfl⟩
      case round =>
        obtain ⟨k, acc, hk, rfl, rfl, hacc, rfl⟩ := hrel
        by_cases hk6 : k < 6
        · have HBT := HBIT.out wr HB.out (i + k) (by omega)
          have hbl := bitN_lt b (i + k)
          have hal := accN_lt b i k (by omega)
          have hnx : accN b i (k + 1) = 2 * acc + bitN b (i + k) := by rw [← hacc.out]; rfl
          rw [hacc.out] at hal
          obtain ⟨x, hx⟩ : ∃ x, bitN b (i + k) = x := ⟨_, rfl⟩
          rw [hx] at HBT hbl hnx
          rw [show ((i + k : Nat) : Int) = (i : Int) + k by push_cast; rfl] at HBT
          have HBT := Lib.hid HBT
          have HNX := Lib.hid hnx
          clear hx hnx
          go_wp2_with fail
          refine HBT.out.mono ?_; rintro e w1 ⟨rfl, rfl⟩
          go_wp2_with fail
          go_roundg (6 - (k + 1))
          case measure => omega
          case rel => exact ⟨k + 1, 2 * acc + x, by omega, by go_num, by go_num, HNX, rfl⟩
        · obtain rfl : k = 6 := by omega
          have hn64 := accN_lt b i 6 (by omega)
          have h6 := accN_six b j
          rw [← hi.out, hacc.out] at h6
          rw [hacc.out] at hn64
          have hix := ix_run alph acc hn64
          have el : alph[acc]'hn64 = ltr acc := by unfold ltr; rw [List.getD, List.getElem?_eq_getElem (show acc < alph.length from hn64)]; rfl
          rw [el] at hix
          obtain ⟨v4, w4, ha, ho4, hb4, hs4⟩ := app_one (ltr acc) HO.out HB.out hjl hsz
          rw [h6, ← encN_succ] at ho4
          have HR := Lib.hid ha
          have HO4 := Lib.hid ho4
          have HB4 := Lib.hid hb4
          obtain ⟨y, hy⟩ : ∃ y, (ltr acc).toNat = y := ⟨_, rfl⟩
          rw [hy] at HR hix
          have HI1 := Lib.hid (show i + 6 = 6 * (j + 1) by rw [hi.out]; omega)
          clear ha ho4 hb4 el h6 hy
          go_wp2_with (at_builtin; refine wpList_append_run (.tmp 28) (.tmp 32) 22 22 rfl rfl rfl rfl HR.out ?_)
          go_roundg (nl b.length - (j + 1))
          case measure => omega
          case rel => exact ⟨j + 1, i + 6, by omega, by go_num, HI1, HO4, HB4, hs4⟩
    · obtain rfl : j = nl b.length := by omega
      have hc := conv_sl HO.out.sl
      rw [str_iz] at hc
      have he : encN b (nl b.length) = enc b := rfl
      rw [he] at hc
      clear hi0 hnl
      go_wp2_with fail
      go_ret
      exact ⟨rfl, HB.out⟩
end Go.Proofs.Ytckmjpnkjnihlaa
