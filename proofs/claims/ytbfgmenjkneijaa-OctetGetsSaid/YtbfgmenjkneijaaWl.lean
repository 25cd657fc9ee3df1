/-
  The document's Bytes: bytes from a place on, or the fault.
-/
import Derived.Test.YtbfgmenjkneijaaWk
namespace Go.Proofs.Ytbfgmenjkneijaa
open Go.RowKit
set_option linter.unusedVariables false

theorem size5 (w : World) : (sizeOf (Try.prog.elem 22)).run Try.prog w = .ok 1 w := by kernel_rfl

/-- A cut of a slice. -/
theorem slice_cut {w : World} {lo hi c p m : Nat} {a : Option Addr} {l : List Int} (h : Sl w lo hi (.slice a l.length c) l) (hp : p + m ≤ l.length) :
    ∃ sv, (∀ wx, (Instr.slice 22 (.slice a l.length c) (some (.int .i64 p)) (some (.int .i64 (p + m))) none).run Try.prog wx = .ok sv wx) ∧ Sl w lo hi sv (cutL l p m) := by
  obtain ⟨a', c', he, hc, hn, hq⟩ := h
  injection he with e1 e2 e3
  subst e1; subst e3
  refine ⟨sliced a p (p + m) c 1, fun wx => ?_, ?_⟩
  · rw [run_slice_lh (P := Try.prog) wx 22 a l.length c Try.underlying22 .i64 .i64 p (p + m) (by omega) (by omega) (by omega), size5]
    simp only [Result.andThen, Int.toNat_natCast, show ((p : Int) + (m : Int)).toNat = p + m by omega]
  · refine ⟨if c = p then a else a.map (·.add (p * 1)), c - p, ?_, ?_, ?_, ?_⟩
    · unfold sliced; rw [cutL_len l p m hp, Nat.add_sub_cancel_left]
    · rw [cutL_len l p m hp]; omega
    · intro hnone
      have : a = none := by
        split at hnone
        · exact hnone
        · simpa using hnone
      have := hn this
      omega
    · intro h0
      rw [cutL_len l p m hp] at h0
      obtain ⟨b, off, rfl, h1, h2, hx⟩ := hq (by omega)
      rw [if_neg (by omega)]
      refine ⟨b, off + p, ?_, h1, h2, fun j hj => ?_⟩
      · simp only [Option.map_some, Nat.mul_one]; rw [WideShapes.add_plain]
      · rw [cutL_len l p m hp] at hj
        rw [show off + p + j = off + (p + j) by omega, hx (p + j) (by omega)]
        congr 2
        unfold cutL
        rw [List.getD, List.getD, List.getElem?_take, if_pos hj, List.getElem?_drop]

theorem OwnR.mono {w : World} {B B' : Nat} {v : Value} {l : List Int} (h : OwnR w B v l) (hB : B' ≤ B) : OwnR w B' v l := by
  refine ⟨h.1, ?_⟩
  rcases h.2 with h2 | ⟨g, cap, cur, hv, hg, r⟩
  · exact .inl h2
  · exact .inr ⟨g, cap, cur, hv, Nat.le_trans hB hg, r⟩

/-- Bytes that are told by the document. -/
def RBytesPost (w : World) (L : List Int) (E F A : Int) (e : Ending) (w' : World) : Prop :=
  ∃ v, e = .returned (.tuple #[v, .int .i64 E, .agg #[.int .i64 F, .int .i64 A]]) ∧ OwnR w' w.heap.size v L ∧ Below w.heap.size w w'

set_option maxHeartbeats 1000000 in
theorem rbytes_ok {w : World} {lo hi c p m : Nat} {a : Option Addr} {l : List Int} (h : Sl w lo hi (.slice a l.length c) l) (hl : l.length ≤ 1000000) (hhi : hi ≤ w.heap.size) (hp : p + m ≤ l.length) :
    Calls Try.prog 21 #[.slice a l.length c, .int .i64 p, .int .i64 m] w (RBytesPost w (cutL l p m) (p + m) 0 0) := by
  obtain ⟨sv, hrun, hsl⟩ := slice_cut h hp
  have hb0 : Below w.heap.size w ((w.alloc (.cells #[.int .i64 0, .int .i64 0] 32)).alloc (.cells #[] 5)) := ((Below.refl _ _).alloc (Nat.le_refl _) _).alloc (by simp) _
  have HB0 := Lib.hid hb0
  have HS := Lib.hid (hsl.below hb0 hhi)
  have HL := Lib.hid (cutL_len l p m hp)
  obtain ⟨len, hle⟩ : ∃ len, len = l.length := ⟨_, rfl⟩
  rw [← hle] at hp hl hrun ⊢
  clear h hsl hb0 hle
  obtain ⟨L, hL⟩ : ∃ L, L = cutL l p m := ⟨_, rfl⟩
  rw [← hL] at HS HL ⊢
  clear hL
  go_enter Try.func21, Try.ntmps21
  go_wp2_with (at_builtin; refine wpList_app rfl (.tmp 30) (.tmp 36) rfl (w.heap.size + 1) lo hi _ sv [] L rfl rfl ?c1 HS.out ?c2 ?c3 ?_)
  case c1 =>
    have := World.ownsRow_made (w.alloc (.cells #[.int .i64 0, .int .i64 0] 32)) (base := w.heap.size + 1) (e := 5) (size := 1) #[] 0 (by simp) (by decide) (by simp)
    simp only [World.size_alloc] at this
    exact this
  case c2 => rw [HL.out]; simp; omega
  case c3 => simp
  intro v' w1 HO HB1
  have hcell := res_cells (((Below.refl _ _).alloc (by simp) (.cells #[] 5)).trans HB1.out)
  obtain ⟨k1, k2, k3⟩ := hcell
  have HB := Lib.hid (HB0.out.trans (HB1.out.mono (by omega)))
  clear HB0 HB1 HS hrun
  go_wp2_with fail
  obtain ⟨m0, m1⟩ := res_set (.int .i64 0) (.int .i64 0) k1 k2
  refine bodyPost_ret (v := .tuple #[v', .int .i64 (p + m), .agg #[.int .i64 0, .int .i64 0]]) (by simp [results, Try.results21, go_sem, m0, m1]) rfl ⟨v', rfl, ?_, ?_⟩
  · have h1 : OwnR (w1.setCell ⟨w.heap.size, 0, none⟩ (.int .i64 0)) (w.heap.size + 1) v' L := ownsRow_setCell_below HO.out (by show w.heap.size < w.heap.size + 1; omega) _
    have h2 : OwnR ((w1.setCell ⟨w.heap.size, 0, none⟩ (.int .i64 0)).setCell ⟨w.heap.size, 1, none⟩ (.int .i64 0)) (w.heap.size + 1) v' L := ownsRow_setCell_below h1 (by show w.heap.size < w.heap.size + 1; omega) _
    exact h2.mono (by omega)
  · exact (HB.out.setCell (by simp) _).setCell (by simp) _

set_option maxHeartbeats 400000 in
theorem rbytes_no (a : Option Addr) (n c : Nat) (t m : Int) (F A : Int) (hn : n ≤ 1000000) (h : (m < 0 ∧ F = 2 ∧ A = 0) ∨ (0 ≤ m ∧ (t < 0 ∨ (n : Int) < t) ∧ F = 5 ∧ A = 0) ∨ (0 ≤ m ∧ 0 ≤ t ∧ t ≤ n ∧ (n : Int) < t + m ∧ F = 4 ∧ A = n)) (w : World) :
    Calls Try.prog 21 #[.slice a n c, .int .i64 t, .int .i64 m] w (RBytesPost w [] 0 F A) := by
  have hb : Below w.heap.size w (w.alloc (.cells #[.int .i64 F, .int .i64 A] 32)) := (Below.refl _ _).alloc (by simp) _
  rcases h with ⟨h1, rfl, rfl⟩ | ⟨h1, h2 | h2, rfl, rfl⟩ | ⟨h1, h2, h3, h4, rfl, rfl⟩
  all_goals
    go_enter Try.func21, Try.ntmps21
    go_wp2
    refine bodyPost_ret (v := .tuple #[.slice none 0 0, .int .i64 0, .agg #[.int .i64 _, .int .i64 _]]) (by simp [results, Try.results21, go_sem]) rfl ⟨_, rfl, World.ownsRow_nil _ _ _ _, hb⟩

theorem rbytes_any {w : World} {lo hi : Nat} {v : Value} {l : List Int} (h : Sl w lo hi v l) (hl : l.length ≤ 1000000) (hhi : hi ≤ w.heap.size) (t m : Int) :
    Calls Try.prog 21 #[v, .int .i64 t, .int .i64 m] w (RBytesPost w (bytL l t m) (bytF l.length t m) (bytE l.length t m) (bytA l.length t m)) := by
  have hs := h
  obtain ⟨a, c, rfl, _⟩ := h
  by_cases h3 : 0 ≤ m ∧ 0 ≤ t ∧ t + m ≤ (l.length : Int)
  · obtain ⟨p, rfl⟩ : ∃ p : Nat, t = p := ⟨t.toNat, by omega⟩
    obtain ⟨k, rfl⟩ : ∃ k : Nat, m = k := ⟨m.toNat, by omega⟩
    have e1 : bytL l p k = cutL l p k := by unfold bytL; rw [if_pos (by omega), Int.toNat_natCast, Int.toNat_natCast]
    have e2 : bytF l.length p k = p + k := by unfold bytF; rw [if_pos (by omega)]
    have e3 : bytE l.length p k = 0 := by unfold bytE; rw [if_neg (by omega), if_neg (by omega), if_neg (by omega)]
    have e4 : bytA l.length p k = 0 := by unfold bytA; rw [if_neg (by omega)]
    rw [e1, e2, e3, e4]
    exact rbytes_ok hs hl hhi (by omega)
  · have e1 : bytL l t m = [] := by unfold bytL; rw [if_neg h3]
    have e2 : bytF l.length t m = 0 := by unfold bytF; rw [if_neg h3]
    rw [e1, e2]
    refine rbytes_no a l.length c t m _ _ hl ?_ w
    unfold bytE bytA
    by_cases h1 : m < 0
    · exact .inl ⟨h1, by rw [if_pos h1], by rw [if_neg (by omega)]⟩
    · by_cases h2 : t < 0 ∨ (l.length : Int) < t
      · exact .inr (.inl ⟨by omega, h2, by rw [if_neg h1, if_pos h2], by rw [if_neg (by omega)]⟩)
      · exact .inr (.inr ⟨by omega, by omega, by omega, by omega, by rw [if_neg h1, if_neg h2, if_pos (by omega)], by rw [if_pos (by omega)]⟩)
end Go.Proofs.Ytbfgmenjkneijaa
