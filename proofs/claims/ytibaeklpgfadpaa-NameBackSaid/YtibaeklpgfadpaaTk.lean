/-
  slices.Values at texts; Join.
-/
import Derived.Test.YtibaeklpgfadpaaTj
namespace Go.Proofs.Ytibaeklpgfadpaa
open Go.RowKit Go.Shelf
set_option linter.unusedVariables false

theorem values_any (v : Value) (w : World) (hv : ∃ a n c, v = .slice a n c) : Calls Try.prog 39 #[v] w fun e w' =>
    e = .returned (.func (.func 52) #[] #[.pointer (some ⟨w.heap.size, 0, none⟩)]) ∧ w' = w.alloc (.cells #[v] 22) := by
  obtain ⟨a, n, c, rfl⟩ := hv
  go_enter Try.func39, Try.ntmps39
  go_wp2
  go_ret
  exact ⟨rfl, rfl⟩

set_option maxHeartbeats 1000000 in
theorem values_seq (l : List (List UInt8)) (v : Value) (Bl lo hi : Nat) (hl : l.length ≤ 1000000) : SeqT Try.prog 52 #[.pointer (some ⟨Bl, 0, none⟩)] (fun b => b = Bl ∨ (lo ≤ b ∧ b < hi)) (fun _ => False) (l.map bs) none
    (fun w => w.cell? ⟨Bl, 0, none⟩ = some v ∧ St w lo hi v l) := by
  intro ll J Jx W hJ hY hSt h0
  rw [List.length_map]
  show CallsIn _ _ _ _ #[.func (.yield ll) #[] #[], .pointer (some ⟨Bl, 0, none⟩)] _ _
  obtain ⟨hc, hst⟩ := hSt
  obtain ⟨a, c, rfl, hcc, hn, hp⟩ := id hst
  have HY := Lib.hid hY
  have HST := Lib.hid hst
  clear hY hJ hst hp hn
  refine callsIn_of_wp Try.func52 rfl trivial ?_
  simp only [Try.ntmps52, List.size_toArray, List.length_cons, List.length_nil, Nat.reduceAdd, Nat.reduceSub, Array.replicate_succ,
     Array.replicate_zero, List.push_toArray, List.append_toArray, List.nil_append, List.cons_append]
  gi_wp2
  gi_loopw [7] (fun i wr => ∃ k : Nat, i = .int .i64 k ∧ k ≤ l.length ∧ Hid (St wr lo hi (.slice a l.length c) l) ∧ Hid (J k wr)) (fun i _ => l.length - (intOf i).toNat)
  case atStart => exact ⟨0, rfl, by omega, HST, h0⟩
  case round =>
    obtain ⟨k, rfl, hk, HS, HJ⟩ := hrel
    by_cases hlt : k < l.length
    · obtain ⟨b, off, rfl, hb1, hb2, hcell⟩ := HS.out.cell (by omega)
      have hc1 := hcell k hlt
      have hget : l[k]? = some l[k] := List.getElem?_eq_getElem hlt
      have e : l.getD k [] = l[k] := by rw [List.getD, hget]; rfl
      rw [e] at hc1
      obtain ⟨x, hx⟩ : ∃ x, l[k] = x := ⟨_, rfl⟩
      rw [hx] at hc1 hget
      obtain ⟨fn, tmps, assign, body, hy, hR⟩ := HY.out k wr _ (by rw [List.getElem?_map, hget]; rfl) HJ.out
      clear hcell e hx hget
      unfold tv at hc1
      gi_wp2
      refine ⟨rfl, hR.mono ?_⟩
      rintro e W' (⟨rfl, hJ', hs, hk'⟩ | ⟨rfl, hJx⟩)
      · have HS' : Hid (St W' lo hi (.slice (some ⟨b, off, none⟩) l.length c) l) := HS.out.keep fun b o h1 h2 h3 => World.cell?_of_block (a := ⟨b, o, none⟩) (hk' b (.inr ⟨h1, h2⟩))
        have HJ' := Lib.hid hJ'
        clear hk' hJ'
        gi_wp2
        refine ⟨⟨k + 1, by go_num, by omega, HS', HJ'⟩, ?_⟩
        simp [intOf]; omega
      · have HJx := Lib.hid hJx
        clear hJx
        gi_wp2
        refine bodyPost_ret (results_none rfl _ _ _) rfl ?_
        exact .inr (.inl ⟨⟨_, rfl⟩, k + 1, by omega, HJx.out⟩)
    · have : k = l.length := by omega
      subst this
      gi_wp2
      go_end0
      exact .inl ⟨rfl, ⟨_, rfl⟩, HJ.out⟩

set_option maxHeartbeats 400000 in
theorem Join_any (l : List (List UInt8)) (v : Value) (w : World) {lo hi : Nat} (hst : St w lo hi v l) (hl : (wire l).length ≤ 900000) : Calls Try.prog 13 #[v] w (Tells w (.tuple #[.string (bs (jname l)), .int .i64 (jcode l)])) := by
  have hlen : l.length ≤ 900000 := by
    have h2 : ∀ l : List (List UInt8), l.length ≤ (wire l).length := fun l => by
      induction l with
      | nil => simp
      | cons x r ih => simp [wire]; omega
    have := h2 l
    omega
  have htop := hst.top
  have hsh : ∃ a n c, v = .slice a n c := by obtain ⟨a, c, rfl, _⟩ := hst; exact ⟨_, _, _, rfl⟩
  have hj := join_any (w := w.alloc (.cells #[v] 22)) (G := fun _ => False) (enters_of Try.func52 (by kernel_rfl) rfl) (values_seq l v w.heap.size 0 w.heap.size (by omega))
    (fun A hA => ⟨(hA.cell (p := ⟨w.heap.size, 0, none⟩) (by simp)).trans (by simp [go_sem]), (htop.below ((Below.refl _ w).alloc (Nat.le_refl _) (.cells #[v] 22)) (Nat.le_refl _)).below (hA.mono (by simp)) (Nat.le_refl _)⟩)
    (fun A B hA hk hs => ⟨(World.cell?_of_block (a := ⟨w.heap.size, 0, none⟩) (hk _ (.inl rfl))).trans hA.1, hA.2.keep fun b o h1 h2 _ => World.cell?_of_block (a := ⟨b, o, none⟩) (hk b (.inr ⟨h1, h2⟩))⟩)
    (fun b hb => by simp; omega) (fun _ h => h.elim) hl
  have HJ := Lib.hid hj
  clear hj hst htop hl hlen
  go_enter Try.func13, Try.ntmps13
  go_wp2_with (first | (go_at_call 39; refine (values_any _ _ hsh).mono ?_; rintro e w1 ⟨rfl, rfl⟩) | (go_at_call 38; refine HJ.out.mono ?_; rintro e w1 ⟨ha, ⟨_, ch, hch, _⟩ | ⟨_, rfl⟩⟩; exact absurd hch (by simp)))
  go_ret2
  exact ⟨rfl, below_aside ((Below.refl _ w).alloc (Nat.le_refl _) _) ha fun b hb => ⟨by simp; omega, fun h => h⟩⟩
end Go.Proofs.Ytibaeklpgfadpaa
