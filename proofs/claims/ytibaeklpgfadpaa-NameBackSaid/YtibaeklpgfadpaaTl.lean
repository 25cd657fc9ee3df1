/-
  The document's Join.
-/
import Derived.Test.YtibaeklpgfadpaaTk
import Derived.RegionTactic
import Derived.ChangeAlike
import Derived.BigRegion
import Derived.Laws.Concat
namespace Go.Proofs.Ytibaeklpgfadpaa
open Go.RowKit Go.Shelf
set_option linter.unusedVariables false

theorem add_run (a b : List UInt8) (ha : a.length ≤ 1000000) (hb : b.length ≤ 1000000) (w : World) : (Op.stringOp .add (bs a) (bs b)).run Try.prog w = .ok (.string (bs (a ++ b))) w := by
  rw [run_string_add_sum _ _ _ (by simp; omega)]
  congr 2

/-- What the document has of the first labels: all of them, or too many bytes. -/
def RJ (pre : List (List UInt8)) (o : List UInt8) : Prop := o = wire pre ∨ (255 < o.length ∧ o.length ≤ (wire pre).length)

theorem byte_back (w : World) (n : Nat) (hn : n ≤ 255) : (convert 54 9 (.slice (some ⟨w.heap.size, 0, none⟩) 1 1)).run Try.prog (w.alloc (.cells #[.int .u8 (n : Int)] 5)) = .ok (.string (bs [UInt8.ofNat n])) (w.alloc (.cells #[.int .u8 (n : Int)] 5)) := by
  have h8 : (UInt8.ofNat n).toNat = n := by rw [UInt8.toNat_ofNat']; omega
  exact run_convert_bytes_back (P := Try.prog) (w.alloc (.cells #[.int .u8 (n : Int)] 5)) 54 9 5 ⟨w.heap.size, 0, none⟩ 1 [UInt8.ofNat n] Try.underlying54 Try.underlying5 Try.underlying9 (fun j hj => by
    obtain rfl : j = 0 := by simpa using hj
    simp [go_sem, h8, Addr.add])

set_option maxHeartbeats 2000000 in
theorem rjoin_any (l : List (List UInt8)) (v : Value) (w : World) {lo hi : Nat} (hst : St w lo hi v l) (hl : (wire l).length ≤ 900000) : Calls Try.prog 14 #[v] w (Tells w (.tuple #[.string (bs (jname l)), .int .i64 (jcode l)])) := by
  have hlen : l.length ≤ 900000 := by
    have h2 : ∀ l : List (List UInt8), l.length ≤ (wire l).length := fun l => by
      induction l with
      | nil => simp
      | cons x r ih => simp [wire]; omega
    have := h2 l
    omega
  obtain ⟨a, c, rfl, hcc, hn, hp⟩ := id hst
  have HST := Lib.hid hst.top
  have HL := Lib.hid hl
  clear hst hn hp hl
  go_enter Try.func14, Try.ntmps14
  go_wp2
  go_loopw [4, 5] (fun s i wr => ∃ (k : Nat) (o : List UInt8), i = .int .i64 k ∧ k ≤ l.length ∧ s = .string (bs o) ∧ Hid (jerr (l.take k) = 0 ∧ RJ (l.take k) o) ∧ Hid (Below w.heap.size w wr)) (fun _ i _ => l.length - (intOf i).toNat)
  case atStart => exact ⟨0, [], rfl, by omega, rfl, ⟨rfl, .inl rfl⟩, Below.refl _ _⟩
  case round =>
    obtain ⟨k, o, rfl, hk, rfl, HR, HB⟩ := hrel
    by_cases hlt : k < l.length
    · obtain ⟨b, off, rfl, hb1, hb2, hcell⟩ := HST.out.cell (by omega)
      have hc1 := (HB.out.cell (p := ⟨b, off + k, none⟩) hb2).trans (hcell k hlt)
      have hget : l[k]? = some l[k] := List.getElem?_eq_getElem hlt
      have e : l.getD k [] = l[k] := by rw [List.getD, hget]; rfl
      rw [e] at hc1
      obtain ⟨y, hy⟩ : ∃ y, l[k] = y := ⟨_, rfl⟩
      rw [hy] at hc1 hget
      have et : l.take (k + 1) = l.take k ++ [y] := by rw [List.take_add_one, hget]; rfl
      have hspl : l = l.take k ++ (y :: l.drop (k + 1)) := by rw [← hy, ← List.drop_eq_getElem_cons, List.take_append_drop]
      have hjl : jerr l = jerr (y :: l.drop (k + 1)) := by
        conv => lhs; rw [hspl]
        rw [jerr_app, if_pos HR.out.1]
      have hle := wire_take_le l (k + 1)
      rw [et, wire_snoc] at hle
      have hle2 := HL.out
      clear hcell e hy hget hspl
      unfold tv at hc1
      have hend : ∀ c : Int, jerr l = c → c ≠ 0 → Hid (Tells w (.tuple #[.string (bs (jname l)), .int .i64 (jcode l)]) (.returned (.tuple #[.string ⟨#[]⟩, .int .i64 c])) wr) := by
        intro c hc hc0
        have h0 : jerr l ≠ 0 := by rw [hc]; exact hc0
        refine ⟨?_, HB.out⟩
        unfold jname jcode
        rw [if_neg (fun h => h0 h.1), if_neg h0, hc]
        rfl
      by_cases hy0 : y = []
      · have HE := hend 2 (by rw [hjl, jerr, if_pos hy0]) (by decide)
        subst hy0
        have ht : (bs []).toList = [] := bs_toList []
        clear hend hjl hle et hle2
        go_wp2
        go_ret2
        exact HE.out
      · by_cases hy3 : 63 < y.length
        · have HE := hend 3 (by rw [hjl, jerr, if_neg hy0, if_pos hy3]) (by decide)
          have ht : (bs y).toList.isEmpty = false := by rw [bs_toList]; simpa using hy0
          have t3 : decide ((63 : Int) < y.length) = true := by simp; omega
          clear hend hjl hle et hle2
          go_wp2
          go_ret2
          exact HE.out
        · have ht : (bs y).toList.isEmpty = false := by rw [bs_toList]; simpa using hy0
          have t3 : decide ((63 : Int) < y.length) = false := by simp; omega
          have hj2 : jerr (l.take (k + 1)) = 0 := by rw [et, jerr_app, if_pos HR.out.1, jerr, if_neg hy0, if_neg hy3]; rfl
          have ho : o.length ≤ (wire (l.take k)).length := by rcases HR.out.2 with h | h; rw [h]; exact Nat.le_refl _; exact h.2
          by_cases hbig : o.length ≤ 255
          · have t4 : decide ((o.length : Int) ≤ 255) = true := by simp; omega
            have HR2 : Hid (jerr (l.take (k + 1)) = 0 ∧ RJ (l.take (k + 1)) (o ++ UInt8.ofNat y.length :: y)) := ⟨hj2, .inl (by
              rcases HR.out.2 with h | h
              · rw [h, et, wire_app]; simp [wire]
              · omega)⟩
            have hr1 := fun w => add_run o [UInt8.ofNat y.length] (by omega) (by simp) w
            have hr2 := fun w => add_run (o ++ [UInt8.ofNat y.length]) y (by simp; omega) (by omega) w
            have hbk : (convert 54 9 (.slice (some ⟨wr.heap.size, 0, none⟩) 1 1)).run Try.prog (wr.alloc (.cells #[.int .u8 (y.length : Int)] 5)).drew = .ok (.string (bs [UInt8.ofNat y.length])) (wr.alloc (.cells #[.int .u8 (y.length : Int)] 5)).drew := byte_back wr.drew y.length (by omega)
            have hwr : IntKind.u8.wrap (y.length : Int) = y.length := by unfold IntKind.wrap; simp [IntKind.signed, IntKind.bits]; omega
            have hn255 : y.length ≤ 255 := by omega
            have hc2 : ∀ o, (wr.alloc o).drew.cell? ⟨b, off + k, none⟩ = some (.string (bs y)) := fun o => (((Below.refl wr.heap.size wr).drew.alloc (Nat.le_refl _) o).cell (p := ⟨b, off + k, none⟩) (World.block_lt_of_cell? wr _ hc1)).trans hc1
            clear hj2 ho hjl hle et hle2
            go_wp2
            go_region
            go_wp2
            refine ⟨⟨k + 1, _, by go_num, by omega, rfl, HR2, HB.out.trans (((Below.refl _ wr).alloc HB.out.size _).drew)⟩, ?_⟩
            simp [intOf]; omega
          · have t4 : decide ((o.length : Int) ≤ 255) = false := by simp; omega
            have HR2 : Hid (jerr (l.take (k + 1)) = 0 ∧ RJ (l.take (k + 1)) o) := ⟨hj2, .inr ⟨by omega, by rw [et, wire_snoc]; omega⟩⟩
            clear hj2 ho hjl hle et hle2
            go_wp2
            refine ⟨⟨k + 1, o, by go_num, by omega, rfl, HR2, HB⟩, ?_⟩
            simp [intOf]; omega
    · obtain rfl : l.length = k := by omega
      have hj : jerr l = 0 := by have := HR.out.1; rwa [List.take_length] at this
      have hr : RJ l o := by have := HR.out.2; rwa [List.take_length] at this
      have hr1 : ∀ w, (Op.stringOp .add (bs o) ⟨#[0]⟩).run Try.prog w = .ok (.string (bs (o ++ [0]))) w := fun w => add_run o [0] (by rcases hr with h | h; rw [h]; have := HL.out; omega; have := HL.out; omega) (by simp) w
      have ho : o.length ≤ (wire l).length := by rcases hr with h | h; rw [h]; exact Nat.le_refl _; exact h.2
      have hle2 := HL.out
      by_cases hbig : (wire l).length ≤ 254
      · have hw : o = wire l := by rcases hr with h | h; exact h; omega
        have t1 : decide ((255 : Int) < o.length + 1) = false := by simp; omega
        have HE := Lib.hid (show Tells w (.tuple #[.string (bs (jname l)), .int .i64 (jcode l)]) (.returned (.tuple #[.string (bs (o ++ [0])), .int .i64 0])) wr from ⟨by unfold jname jcode; rw [if_pos ⟨hj, hbig⟩, if_pos hj, if_pos hbig, hw], HB.out⟩)
        clear hw hr ho hj
        go_wp2
        go_ret2
        exact HE.out
      · have t1 : decide ((255 : Int) < o.length + 1) = true := by rcases hr with h | h; rw [h]; simp; omega; simp; omega
        have HE := Lib.hid (show Tells w (.tuple #[.string (bs (jname l)), .int .i64 (jcode l)]) (.returned (.tuple #[.string ⟨#[]⟩, .int .i64 3])) wr from ⟨by unfold jname jcode; rw [if_neg (fun h => hbig h.2), if_pos hj, if_neg hbig]; rfl, HB.out⟩)
        clear hr ho hj
        go_wp2
        go_ret2
        exact HE.out
end Go.Proofs.Ytibaeklpgfadpaa
