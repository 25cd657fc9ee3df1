/-
  Count.
-/
import Derived.Test.YthhfgbfipogppaaTd
namespace Go.Proofs.Ythhfgbfipogppaa
open Go.RowKit Go.Shelf
set_option linter.unusedVariables false
attribute [local go_sem] Oper.semAt_some

/-- Count's answer. -/
def cnt (n : List UInt8) : Nat := if chk n = 0 then (labs n).length else 0

theorem labs_len (n : List UInt8) : (labs n).length ≤ n.length := by
  have h := wire_le n (labs n).length
  rw [List.take_length] at h
  have h2 : ∀ l : List (List UInt8), l.length ≤ (wire l).length := fun l => by
    induction l with
    | nil => simp
    | cons x r ih => simp [wire]; omega
  have := h2 (labs n)
  omega

set_option maxHeartbeats 1000000 in
theorem count_any (n : List UInt8) (hn : n.length ≤ 1000000) (w : World) : Calls Try.prog 24 #[.string (bs n)] w (Tells w (.int .i64 (cnt n))) := by
  obtain ⟨r, hr⟩ : ∃ r, cnt n = r := ⟨_, rfl⟩
  rw [hr]
  have HR := Lib.hid hr
  clear hr
  have HI := Lib.hid (is_any n (by omega))
  by_cases h : chk n = 0
  · have e : r = (labs n).length := by rw [← HR.out, cnt, if_pos h]
    rw [h] at HI
    clear h
    refine calls_of_wp_marks Try.func24 rfl ?_
    simp only [Try.ntmps24, List.size_toArray, List.length_cons, List.length_nil, Nat.reduceAdd, Nat.reduceSub, Array.replicate_succ,
     Array.replicate_zero, List.push_toArray, List.append_toArray, List.nil_append, List.cons_append]
    have E := Lib.hid e
    clear e
    go_wp2_with (first | (go_at_call 37; refine (HI.out _).mono ?_; rintro e w1 ⟨rfl, hb⟩; have HB := Lib.hid hb; clear hb) | (go_at_call 36; refine (labels_any _ _).mono ?_; rintro e w' ⟨rfl, rfl⟩))
    apply wp_rangeFunc_T (D := w1.heap.size + 2) (hD := by simp) (K := fun b => b = w1.heap.size + 1) (G := fun _ => False) (M := fun b => b = w1.heap.size) (fin := none) (hg := rfl) (eg := enters_of Try.func45 (by kernel_rfl) rfl) (hseq := labels1_seq n _ (by omega))
      (I := fun k W => Bx W w1.heap.size (.int .i64 (k : Nat)) ∧ Below w1.heap.size w1 W) (Ix := fun _ _ _ => False)
    case hassign =>
      intro l x W K hK
      gi_wp2
      exact hK
    case hSt => simp [go_sem]
    case hStK => exact fun A B h hk _ => (World.cell?_of_block (hk _ rfl)).trans h
    case hK => intro b hb; omega
    case hM => intro b hb; omega
    case hGK => exact fun _ h => h.elim
    case hps => rfl
    case hI =>
      rintro k A B ⟨h1, h3⟩ ha
      exact ⟨h1.aside ha (by simp; omega), below_aside h3 ha fun b hb => ⟨Nat.lt_of_lt_of_le hb h3.size, by simp; omega⟩⟩
    case hIx => exact fun _ _ _ _ h _ => h
    case h0 => exact ⟨⟨by simp [go_sem], by simp [go_sem]⟩, ((Below.refl _ _).alloc (Nat.le_refl _) _).alloc (by simp) _⟩
    case hstop => exact fun _ _ _ _ h => h.elim
    case hpanic => exact fun _ h => by cases h
    case hbody =>
      rintro l k x W hx hs ⟨hbx, hb⟩
      have hk : k < ((labs n).map bs).length := (List.getElem?_eq_some_iff.mp hx).1
      have hl := labs_len n
      rw [List.length_map] at hk
      have HI := Lib.hid (show Bx (W.setCell ⟨w1.heap.size, 0, none⟩ (.int .i64 ((k : Int) + 1))) w1.heap.size (.int .i64 ((k + 1 : Nat) : Int)) ∧ Below w1.heap.size w1 (W.setCell ⟨w1.heap.size, 0, none⟩ (.int .i64 ((k : Int) + 1))) from
        ⟨by push_cast; exact hbx.set _, hb.setCell (Nat.le_refl _) _⟩)
      clear hb hx
      obtain ⟨hc, hf⟩ := hbx
      gi_wp2
      exact ⟨Aside.setCell _ _ rfl, HI.out⟩
    case hdone =>
      rintro _ W ⟨hbx, hb⟩ _ hD
      rw [List.length_map, ← E.out] at hbx
      have hp : Below w.heap.size w (W.putObj (w1.heap.size + 2) (.deferred none)) := below_putObj (HB.out.trans (hb.mono HB.out.size)) (by have := HB.out.size; omega)
      have HP := Lib.hid hp
      obtain ⟨hc, hf⟩ := hbx
      clear hb hp
      go_wp2
      exact marks_ret hD _ (results_tmp rfl _ _ _) ⟨rfl, HP.out⟩
  · have e : r = 0 := by rw [← HR.out, cnt, if_neg h]
    rw [e]
    rw [decide_eq_false h] at HI
    clear h e HR
    go_enter Try.func24, Try.ntmps24
    go_wp2_with (go_at_call 37; refine (HI.out _).mono ?_; rintro e w' ⟨rfl, hb⟩; have HB := Lib.hid hb; clear hb)
    go_ret
    exact ⟨rfl, HB.out⟩
end Go.Proofs.Ythhfgbfipogppaa
