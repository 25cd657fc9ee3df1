/-
  Check, is.
-/
import Derived.Test.YtaikpgcmcmkdcaaTb
import Derived.WalkKit
import Derived.OwnWalk
import Derived.Laws.NewBlocks
namespace Go.Proofs.Ytaikpgcmcmkdcaa
open Go.RowKit Go.Shelf
set_option linter.unusedVariables false
set_option maxRecDepth 100000
attribute [local go_sem] Oper.semAt_some

/-- Labels as bytes: each behind its length. -/
def wire : List (List UInt8) → List UInt8
  | [] => []
  | l :: r => UInt8.ofNat l.length :: l ++ wire r

theorem wire_app (a b : List (List UInt8)) : wire (a ++ b) = wire a ++ wire b := by
  induction a with
  | nil => rfl
  | cons x r ih => simp [wire, ih]

theorem wire_snoc (a : List (List UInt8)) (x : List UInt8) : (wire (a ++ [x])).length = (wire a).length + (1 + x.length) := by
  rw [wire_app]
  simp [wire]
  omega

theorem labs_left (n : List UInt8) : wire (labs n) ++ left n = n := by
  induction n using labs.induct with
  | case1 => simp [labs, left, wire]
  | case2 c r h => rw [labs, left, if_pos h, if_pos h]; rfl
  | case3 c r h ih =>
    rw [labs, left, if_neg h, if_neg h, wire]
    have : (r.take c.toNat).length = c.toNat := by rw [List.length_take]; omega
    rw [this]
    have hc : UInt8.ofNat c.toNat = c := by simp
    rw [hc]
    show c :: (r.take c.toNat ++ wire (labs (r.drop c.toNat))) ++ left (r.drop c.toNat) = c :: r
    rw [List.cons_append, List.append_assoc, ih, List.take_append_drop]

theorem labs_short (n : List UInt8) : ∀ x ∈ labs n, 0 < x.length ∧ x.length ≤ 63 := by
  induction n using labs.induct with
  | case1 => simp [labs]
  | case2 c r h => rw [labs, if_pos h]; simp
  | case3 c r h ih =>
    rw [labs, if_neg h]
    intro x hx
    rcases List.mem_cons.mp hx with e | e
    · rw [e, List.length_take]; omega
    · exact ih x e

theorem left_drop (n : List UInt8) : n.drop (wire (labs n)).length = left n := by
  have h : n.drop (wire (labs n)).length = (wire (labs n) ++ left n).drop (wire (labs n)).length := by rw [labs_left]
  rw [h, List.drop_left]

theorem wire_le (n : List UInt8) (k : Nat) : (wire ((labs n).take k)).length ≤ n.length := by
  have h := congrArg List.length (labs_left n)
  have h2 : wire ((labs n).take k) ++ wire ((labs n).drop k) = wire (labs n) := by rw [← wire_app, List.take_append_drop]
  have h3 := congrArg List.length h2
  simp at h h3
  omega

/-- Block b is a cell of the call's own that holds v. -/
def Bx (W : World) (b : Nat) (v : Value) : Prop := W.cell? ⟨b, 0, none⟩ = some v ∧ W.frozen? ⟨b, 0, none⟩ = false

theorem Bx.lt {W : World} {b : Nat} {v : Value} (h : Bx W b v) : b < W.heap.size := World.block_lt_of_cell? W _ h.1
theorem Bx.aside {G : Nat → Prop} {A B : World} {b : Nat} {v : Value} (h : Bx A b v) (ha : Aside G A B) (hg : ¬ G b) : Bx B b v :=
  ⟨(ha.cell h.lt hg).trans h.1, (ha.frozen h.lt hg).trans h.2⟩
theorem Bx.set {W : World} {b : Nat} {u : Value} (h : Bx W b u) (v : Value) : Bx (W.setCell ⟨b, 0, none⟩ v) b v :=
  ⟨World.cell?_setCell_same _ _ _ h.1, by rw [World.frozen?_setCell]; exact h.2⟩

/-- Check's answer. -/
def chk (n : List UInt8) : Int := if left n = [0] then (if 255 < n.length then 3 else 0) else 4

/-- A call that tells v and leaves what was there as it was. -/
def Tells (w : World) (v : Value) (e : Ending) (w' : World) : Prop := e = .returned v ∧ Below w.heap.size w w'

theorem tells_mono {w : World} {v : Value} {e : Ending} {w' : World} (h : e = .returned v) (hb : Below w.heap.size w w') : Tells w v e w' := ⟨h, hb⟩

set_option maxHeartbeats 1000000 in
theorem check_any (n : List UInt8) (hn : n.length ≤ 4000000000000000000) (w : World) : Calls Try.prog 51 #[.string (bs n)] w (Tells w (.int .i64 (chk n))) := by
  obtain ⟨r, hr⟩ : ∃ r, chk n = r := ⟨_, rfl⟩
  rw [hr]
  have HR := Lib.hid hr
  clear hr
  refine calls_of_wp_marks Try.func51 rfl ?_
  simp only [Try.ntmps51, List.size_toArray, List.length_cons, List.length_nil, Nat.reduceAdd, Nat.reduceSub, Array.replicate_succ,
     Array.replicate_zero, List.push_toArray, List.append_toArray, List.nil_append, List.cons_append]
  go_wp2_with (go_at_call 76; refine (labels_any _ _).mono ?_; rintro e w' ⟨rfl, rfl⟩)
  apply wp_rangeFunc_T (D := w.heap.size + 2) (hD := by simp) (K := fun b => b = w.heap.size + 1) (G := fun _ => False) (M := fun b => b = w.heap.size) (fin := none) (hg := rfl) (eg := enters_of Try.func93 (by kernel_rfl) rfl) (hseq := labels1_seq n _ hn)
    (I := fun k W => Bx W w.heap.size (.int .i64 (wire ((labs n).take k)).length) ∧ Below w.heap.size w W) (Ix := fun _ _ _ => False)
  case hassign =>
    intro l x W K hK
    gi_wp2
    exact hK
  case hSt => simp [go_sem]
  case hStK => exact fun A B h hk _ => (World.cell?_of_block (hk _ rfl)).trans h
  case hK => intro b hb; omega
  case hM => intro b hb; omega
  case hGK => exact fun _ h => h.elim
  case hps => rfl
  case hI =>
    rintro k A B ⟨h1, h3⟩ ha
    exact ⟨h1.aside ha (by simp; omega), below_aside h3 ha fun b hb => ⟨Nat.lt_of_lt_of_le hb h3.size, by simp; omega⟩⟩
  case hIx => exact fun _ _ _ _ h _ => h
  case h0 => exact ⟨⟨by simp [go_sem, wire], by simp [go_sem]⟩, ((Below.refl _ _).alloc (Nat.le_refl _) _).alloc (by simp) _⟩
  case hstop => exact fun _ _ _ _ h => h.elim
  case hpanic => exact fun _ h => by cases h
  case hbody =>
    rintro l k x W hx hs ⟨hbx, hb⟩
    rw [List.getElem?_map] at hx
    obtain ⟨y, hy, rfl⟩ := Option.map_eq_some_iff.mp hx
    have hle := wire_le n (k + 1)
    have e : (labs n).take (k + 1) = (labs n).take k ++ [y] := by rw [List.take_add_one, hy]; rfl
    rw [e, wire_snoc] at hle
    obtain ⟨m, hm⟩ : ∃ m, (wire ((labs n).take k)).length = m := ⟨_, rfl⟩
    rw [hm] at hbx hle
    have HI := Lib.hid (show Bx (W.setCell ⟨w.heap.size, 0, none⟩ (.int .i64 (m + (1 + y.length)))) w.heap.size (.int .i64 (wire ((labs n).take (k + 1))).length) ∧ Below w.heap.size w (W.setCell ⟨w.heap.size, 0, none⟩ (.int .i64 (m + (1 + y.length)))) by
      rw [e, wire_snoc, hm]
      exact ⟨by push_cast; exact hbx.set _, hb.setCell (Nat.le_refl _) _⟩)
    clear hm e hb hx hy
    obtain ⟨hc, hf⟩ := hbx
    gi_wp2
    exact ⟨Aside.setCell _ _ rfl, HI.out⟩
  case hdone =>
    rintro _ W ⟨hbx, hb⟩ _ hD
    rw [List.length_map, List.take_length] at hbx
    have hl := congrArg List.length (labs_left n)
    rw [List.length_append] at hl
    have hcut := from_run n (wire (labs n)).length (by omega)
    rw [left_drop] at hcut
    obtain ⟨m, hm⟩ : ∃ m, (wire (labs n)).length = m := ⟨_, rfl⟩
    rw [hm] at hcut hbx hl
    have HB := Lib.hid hb
    obtain ⟨hc, hf⟩ := hbx
    clear hb hm hl
    have hp : Below w.heap.size w (W.putObj (w.heap.size + 2) (.deferred none)) := below_putObj HB.out (by omega)
    have HP := Lib.hid hp
    clear hp
    by_cases h0 : left n = [0]
    · have ht : (!(bs (left n)).toList == [0]) = false := by rw [h0, bs_toList]; rfl
      by_cases h1 : 255 < n.length
      · have e := Lib.hid (show r = 3 by rw [← HR.out]; unfold chk; rw [if_pos h0, if_pos h1])
        have t1 : decide ((255 : Int) < n.length) = true := by simp; omega
        clear h0
        go_wp2
        exact marks_ret hD _ (results_tmp rfl _ _ _) ⟨by rw [e.out]; rfl, HP.out⟩
      · have e := Lib.hid (show r = 0 by rw [← HR.out]; unfold chk; rw [if_pos h0, if_neg h1])
        have t1 : decide ((255 : Int) < n.length) = false := by simp; omega
        clear h0
        go_wp2
        exact marks_ret hD _ (results_tmp rfl _ _ _) ⟨by rw [e.out]; rfl, HP.out⟩
    · have ht : (!(bs (left n)).toList == [0]) = true := by
        rw [bs_toList]; simpa using h0
      have e := Lib.hid (show r = 4 by rw [← HR.out]; unfold chk; rw [if_neg h0])
      clear h0
      go_wp2
      exact marks_ret hD _ (results_tmp rfl _ _ _) ⟨by rw [e.out]; rfl, HP.out⟩

end Go.Proofs.Ytaikpgcmcmkdcaa
