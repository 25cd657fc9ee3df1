/-
  The array of numbers.
-/
import Derived.Test.YtckmjpnkjnihlaaJe
import Derived.Lib.OthersKept
namespace Go.Proofs.Ytckmjpnkjnihlaa
open Go.RowKit Go.Shelf
set_option linter.unusedVariables false
set_option maxRecDepth 100000

/-- One more than a letter's number, of the letters below k; 0: none of them. -/
def ix (k : Nat) (c : Nat) : Nat := if nm (UInt8.ofNat c) < k then nm (UInt8.ofNat c) + 1 else 0
/-- The array, when k letters have gone. -/
def arr (k : Nat) : Array Value := ((List.range 256).map fun c => Value.int .u64 (ix k c)).toArray

theorem arr_size (k : Nat) : (arr k).size = 256 := by simp [arr]
theorem und42 : Try.prog.underlying 42 = some (.array 256 39) := by kernel_rfl
theorem siz42' : (Try.prog.info? 42).map (·.size) = some 256 := by kernel_rfl
theorem siz42 {k : Nat} : (Try.prog.info? 42).map (·.size) = some (arr k).size := by rw [arr_size]; exact siz42'
theorem arr_one (k : Nat) : (arr k).all (·.oneCell') = true := by
  unfold arr
  rw [List.all_toArray, List.all_map, List.all_eq_true]
  intro x _
  rfl
theorem arr_zero : arr 0 = (List.replicate 256 (Value.int .u64 0)).toArray := by
  have e : ∀ c, Value.int .u64 (ix 0 c : Nat) = Value.int .u64 0 := fun c => by unfold ix; rw [if_neg (by omega)]; rfl
  unfold arr
  simp only [e, List.map_const', List.length_range]
theorem zero42' (w : World) : (zeroValue 42).run Try.prog w = .ok (.agg (List.replicate 256 (Value.int .u64 0)).toArray) w := by kernel_rfl
theorem zero42 (w : World) : (zeroValue 42).run Try.prog w = .ok (.agg (arr 0)) w := by rw [arr_zero]; exact zero42' w

theorem arr_step (k : Nat) (hk : k < 64) : (arr k).setIfInBounds (ltr k).toNat (.int .u64 ((k : Int) + 1)) = arr (k + 1) := by
  apply Array.ext
  · simp [arr]
  · intro c h1 h2
    have h3 : c < 256 := by simpa [arr] using h2
    have hn := nm_ltr k hk
    rw [Array.getElem_setIfInBounds (hj := by rw [arr_size]; exact h3)]
    simp only [arr, List.getElem_toArray, List.getElem_map, List.getElem_range]
    by_cases hc : (ltr k).toNat = c
    · have : UInt8.ofNat c = ltr k := by rw [← hc]; simp
      rw [if_pos hc]
      unfold ix
      rw [this, hn, if_pos (by omega)]
      rfl
    · rw [if_neg hc]
      unfold ix
      have h4 : nm (UInt8.ofNat c) ≠ k := fun e => hc (by
        have := ltr_nm (UInt8.ofNat c) (by omega)
        rw [e] at this
        rw [this, UInt8.toNat_ofNat', Nat.mod_eq_of_lt (by omega)])
      by_cases h5 : nm (UInt8.ofNat c) < k
      · rw [if_pos h5, if_pos (by omega)]
      · rw [if_neg h5, if_neg (by omega)]

theorem arr_get (k c : Nat) (h : c < 256) : (arr k)[c]? = some (.int .u64 (ix k c)) := by
  simp [arr, h]

/-- The array's block. -/
def Ar (w : World) (g k : Nat) : Prop := w.heap[g]? = some (.cells (arr k) 42 (0, 0))

theorem Ar.cell {w : World} {g k : Nat} (h : Ar w g k) (c : Nat) (hc : c < 256) : w.cell? ⟨g, c, none⟩ = some (.int .u64 (ix k c)) ∧ w.frozen? ⟨g, c, none⟩ = false := by
  unfold Ar at h
  exact ⟨by rw [World.cell?, h]; exact arr_get k c hc, by simp [World.frozen?, h]⟩

theorem Ar.set {w : World} {g k : Nat} (h : Ar w g k) (hk : k < 64) : Ar (w.setCell ⟨g, (ltr k).toNat, none⟩ (.int .u64 ((k : Int) + 1))) g (k + 1) := by
  unfold Ar at h ⊢
  rw [← arr_step k hk]
  simp [World.setCell, Array.getElem?_modify, h]

theorem next_alph {w : World} {g k : Nat} (h : w.heap[g]? = some (.stringIter (bs alph) k)) (hk : k < 64) (ty : TypeId) :
    (Instr.next (.pointer (some ⟨g, 0, none⟩)) true ty).run Try.prog w = .ok (.tuple #[.bool true, .int .i64 k, .int .i32 ((ltr k).toNat : Nat)]) (w.iterAt g (bs alph) (k + 1)) := by
  have hl : k < alph.length := hk
  have e : (bs alph)[k]'(by rw [bs_size]; exact hl) = ltr k := by
    show alph.toArray[k] = ltr k
    unfold ltr; rw [List.getD, List.getElem?_eq_getElem hl]; simp
  have hlt : (ltr k).toNat < 128 := by
    have : ∀ k, k < 64 → (ltr k).toNat < 128 := by decide
    exact this k hk
  rw [Lib.run_next_ascii_at w g (bs alph) k ty h (by rw [bs_size]; exact hl) (by rw [e]; exact hlt), e]

/-- How it is when so many letters have gone. -/
structure NuI (w wr : World) (k : Nat) : Prop where
  it : wr.heap[w.heap.size + 1 + 1]? = some (.stringIter (bs alph) k)
  ar : Ar wr (w.heap.size + 1) k
  res : Ar wr w.heap.size 0
  bel : Below w.heap.size w wr
  sz : w.heap.size + 1 + 1 < wr.heap.size

theorem NuI.next {w wr : World} {k : Nat} (h : NuI w wr k) (hk : k < 64) : NuI w ((wr.iterAt (w.heap.size + 1 + 1) (bs alph) (k + 1)).setCell ⟨w.heap.size + 1, (ltr k).toNat, none⟩ (.int .u64 ((k : Int) + 1))) (k + 1) := by
  refine ⟨?_, ?_, ?_, ?_, ?_⟩
  · exact (Below.heap_setCell _ _ _ _ (by simp)).trans (Lib.iterAt_heap _ _ _ _ _ h.it)
  · exact Ar.set (show Ar (wr.iterAt _ _ _) _ _ from (Lib.iterAt_other _ _ _ _ _ (by omega)).trans h.ar) hk
  · exact (Below.heap_setCell _ _ _ _ (by simp)).trans ((Lib.iterAt_other _ _ _ _ _ (by omega)).trans h.res)
  · exact (Lib.below_iterAt h.bel (by omega) _ _).setCell (by simp) _
  · have := h.sz
    simp [World.setCell, Lib.iterAt_size]; omega

set_option maxHeartbeats 2000000 in
theorem numbers_any (w : World) : Calls Try.prog 21 #[] w fun e w' => e = .returned (.agg (arr 64)) ∧ Below w.heap.size w w' := by
  have hI0 : NuI w (((w.alloc (.cells (arr 0) 42)).alloc (.cells (arr 0) 42)).iter (bs alph) 0) 0 := by
    refine ⟨?_, ?_, ?_, ?_, ?_⟩
    · have := World.iter_heap ((w.alloc (.cells (arr 0) 42)).alloc (.cells (arr 0) 42)) (bs alph) 0
      simpa using this
    · exact (Lib.alloc_old _ _ _ (by simp)).trans (two_alloc _ _ _)
    · exact (Lib.alloc_old _ _ _ (by simp; omega)).trans ((Lib.alloc_old _ _ _ (by simp)).trans (heap_alloc_new w _))
    · exact (((Below.refl _ _).alloc (Nat.le_refl _) _).alloc (by simp) _).alloc (by simp; omega) _
    · simp [World.iter]
  obtain ⟨Z, hZ⟩ : ∃ Z, arr 0 = Z := ⟨_, rfl⟩
  have hz := zero42
  rw [hZ] at hz hI0
  have HI0 := Lib.hid hI0
  clear hI0
  go_enter Try.func21, Try.ntmps21
  go_wp2_with fail
  go_loopg [5] 64 (fun g v5 wr => ∃ k : Nat, k + g = 64 ∧ Hid (NuI w wr k))
  case atStart => exact ⟨0, by omega, HI0⟩
  case round =>
    clear HI0 hz
    obtain ⟨k, hk, HI⟩ := hrel
    by_cases hlt : k < 64
    · have hn := fun ty => next_alph HI.out.it hlt ty
      have hc : (ltr k).toNat < 256 := (ltr k).toNat_lt
      obtain ⟨a0, a1⟩ := Ar.cell (show Ar (wr.iterAt (w.heap.size + 1 + 1) (bs alph) (k + 1)) (w.heap.size + 1) k from (Lib.iterAt_other _ _ _ _ _ (by omega)).trans HI.out.ar) _ hc
      have HI2 := Lib.hid (HI.out.next hlt)
      obtain ⟨x, hx⟩ : ∃ x, (ltr k).toNat = x := ⟨_, rfl⟩
      rw [hx] at a0 a1 HI2 hc
      simp only [hx] at hn
      obtain ⟨W, hW⟩ : ∃ W, wr.iterAt (w.heap.size + 1 + 1) (bs alph) (k + 1) = W := ⟨_, rfl⟩
      rw [hW] at a0 a1 HI2
      simp only [hW] at hn
      clear hx hW HI
      go_wp2_with fail
      go_roundg (64 - (k + 1))
      case measure => omega
      case rel => exact ⟨k + 1, by omega, HI2⟩
    · have hn := fun ty => Lib.run_next_end_at (P := Try.prog) wr _ (bs alph) k ty HI.out.it (by simp [alph]; omega)
      obtain rfl : k = 64 := by omega
      have HR := Lib.hid (show Ar (wr.setRow w.heap.size (arr 64)) w.heap.size 64 from setRow_heap wr _ _ _ _ _ HI.out.res)
      have HB := Lib.hid (show Below w.heap.size w (wr.setRow w.heap.size (arr 64)) from HI.out.bel.trans ⟨rfl, rfl, rfl, by simp, fun j hj => setRow_other wr _ j _ (by omega)⟩)
      go_wp2_with fail
      refine wp_load_row 42 (.tmp 1) rfl (w.heap.size + 1) rfl 42 (arr 64) (0, 0) _ HI.out.ar und42 rfl siz42 ?_
      have hst : (storeCells ⟨w.heap.size, 0, none⟩ (arr 64).toList).run Try.prog wr = .ok () (wr.setRow w.heap.size (arr 64)) := by
        have := run_storeCells_from (P := Try.prog) w.heap.size 42 (arr 64).toList 0 (arr 0) wr HI.out.res (by simp [arr_size]) (fun v hv => (Array.all_eq_true_iff_forall_mem.1 (arr_one 64)) v (by simpa using hv))
        simpa using this
      clear HI
      go_wp2_with fail
      exact bodyPost_ret (results_cell_row Try.results21 _ _ w.heap.size 42 (arr 64) (0, 0) _ rfl HR.out und42 rfl siz42) rfl ⟨rfl, HB.out⟩
end Go.Proofs.Ytckmjpnkjnihlaa
