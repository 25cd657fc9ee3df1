/-
  Check, is.
-/
import Derived.Test.YteegekpanadmkaaGreatS00
import Derived.WalkKit
import Derived.OwnWalk
import Derived.Laws.NewBlocks
import Derived.Laws.AppendOwnNone
import Derived.Test.YteegekpanadmkaaGreatShelf
import Derived.Laws.IdiomStrings
import Derived.Lib.BufStepsIn
import Derived.Laws.Concat
import Derived.BigRegion
import Derived.ChangeAlike
import Derived.RegionTactic
import Derived.Deep.RegionHeld3
import Derived.Laws.CopyOwn
import Derived.Lib.LazyBuf
import Derived.Deep.QuietTactic
import Derived.BigQuiet
import Derived.Laws.Panics
import Derived.WalkLawsBesides
import Derived.Recover
import Derived.Defers
import Derived.LoopN
import Derived.Deep.LoopGhost
namespace Go.Proofs.YteegekpanadmkaaGreat
open Go.RowKit Go.Shelf
set_option linter.unusedVariables false
set_option maxRecDepth 100000
attribute [local go_sem] Oper.semAt_some

/-- Labels as bytes: each behind its length. -/
def wire : List (List UInt8) → List UInt8
  | [] => []
  | l :: r => UInt8.ofNat l.length :: l ++ wire r

theorem wire_app (a b : List (List UInt8)) : wire (a ++ b) = wire a ++ wire b := by
  induction a with
  | nil => rfl
  | cons x r ih => simp [wire, ih]

theorem wire_snoc (a : List (List UInt8)) (x : List UInt8) : (wire (a ++ [x])).length = (wire a).length + (1 + x.length) := by
  rw [wire_app]
  simp [wire]
  omega

theorem labs_left (n : List UInt8) : wire (labs n) ++ left n = n := by
  induction n using labs.induct with
  | case1 => simp [labs, left, wire]
  | case2 c r h => rw [labs, left, if_pos h, if_pos h]; rfl
  | case3 c r h ih =>
    rw [labs, left, if_neg h, if_neg h, wire]
    have : (r.take c.toNat).length = c.toNat := by rw [List.length_take]; omega
    rw [this]
    have hc : UInt8.ofNat c.toNat = c := by simp
    rw [hc]
    show c :: (r.take c.toNat ++ wire (labs (r.drop c.toNat))) ++ left (r.drop c.toNat) = c :: r
    rw [List.cons_append, List.append_assoc, ih, List.take_append_drop]

theorem labs_short (n : List UInt8) : ∀ x ∈ labs n, 0 < x.length ∧ x.length ≤ 63 := by
  induction n using labs.induct with
  | case1 => simp [labs]
  | case2 c r h => rw [labs, if_pos h]; simp
  | case3 c r h ih =>
    rw [labs, if_neg h]
    intro x hx
    rcases List.mem_cons.mp hx with e | e
    · rw [e, List.length_take]; omega
    · exact ih x e

theorem left_drop (n : List UInt8) : n.drop (wire (labs n)).length = left n := by
  have h : n.drop (wire (labs n)).length = (wire (labs n) ++ left n).drop (wire (labs n)).length := by rw [labs_left]
  rw [h, List.drop_left]

theorem wire_le (n : List UInt8) (k : Nat) : (wire ((labs n).take k)).length ≤ n.length := by
  have h := congrArg List.length (labs_left n)
  have h2 : wire ((labs n).take k) ++ wire ((labs n).drop k) = wire (labs n) := by rw [← wire_app, List.take_append_drop]
  have h3 := congrArg List.length h2
  simp at h h3
  omega

/-- Block b is a cell of the call's own that holds v. -/
def Bx (W : World) (b : Nat) (v : Value) : Prop := W.cell? ⟨b, 0, none⟩ = some v ∧ W.frozen? ⟨b, 0, none⟩ = false

theorem Bx.lt {W : World} {b : Nat} {v : Value} (h : Bx W b v) : b < W.heap.size := World.block_lt_of_cell? W _ h.1
theorem Bx.aside {G : Nat → Prop} {A B : World} {b : Nat} {v : Value} (h : Bx A b v) (ha : Aside G A B) (hg : ¬ G b) : Bx B b v :=
  ⟨(ha.cell h.lt hg).trans h.1, (ha.frozen h.lt hg).trans h.2⟩
theorem Bx.set {W : World} {b : Nat} {u : Value} (h : Bx W b u) (v : Value) : Bx (W.setCell ⟨b, 0, none⟩ v) b v :=
  ⟨World.cell?_setCell_same _ _ _ h.1, by rw [World.frozen?_setCell]; exact h.2⟩

/-- Check's answer. -/
def chk (n : List UInt8) : Int := if left n = [0] then (if 255 < n.length then 3 else 0) else 4

/-- A call that tells v and leaves what was there as it was. -/
def Tells (w : World) (v : Value) (e : Ending) (w' : World) : Prop := e = .returned v ∧ Below w.heap.size w w'

set_option maxHeartbeats 1000000 in
theorem check_any (n : List UInt8) (hn : n.length ≤ 4000000000000000000) (w : World) : Calls Tryz.prog 122 #[.string (bs n)] w (Tells w (.int .i64 (chk n))) := by
  obtain ⟨r, hr⟩ : ∃ r, chk n = r := ⟨_, rfl⟩
  rw [hr]
  have HR := Lib.hid hr
  clear hr
  refine calls_of_wp_marks Tryz.func122 rfl ?_
  simp only [Tryz.ntmps122, List.size_toArray, List.length_cons, List.length_nil, Nat.reduceAdd, Nat.reduceSub, Array.replicate_succ,
     Array.replicate_zero, List.push_toArray, List.append_toArray, List.nil_append, List.cons_append]
  go_wp2_with (go_at_call 125; refine (labels_any _ _).mono ?_; rintro e w' ⟨rfl, rfl⟩)
  apply wp_rangeFunc_T (D := w.heap.size + 2) (hD := by simp) (K := fun b => b = w.heap.size + 1) (G := fun _ => False) (M := fun b => b = w.heap.size) (fin := none) (hg := rfl) (eg := enters_of Tryz.func133 (by kernel_rfl) rfl) (hseq := labels1_seq n _ hn)
    (I := fun k W => Bx W w.heap.size (.int .i64 (wire ((labs n).take k)).length) ∧ Below w.heap.size w W) (Ix := fun _ _ _ => False)
  case hassign =>
    intro l x W K hK
    gi_wp2
    exact hK
  case hSt => simp [go_sem]
  case hStK => exact fun A B h hk _ => (World.cell?_of_block (hk _ rfl)).trans h
  case hK => intro b hb; omega
  case hM => intro b hb; omega
  case hGK => exact fun _ h => h.elim
  case hps => rfl
  case hI =>
    rintro k A B ⟨h1, h3⟩ ha
    exact ⟨h1.aside ha (by simp; omega), below_aside h3 ha fun b hb => ⟨Nat.lt_of_lt_of_le hb h3.size, by simp; omega⟩⟩
  case hIx => exact fun _ _ _ _ h _ => h
  case h0 => exact ⟨⟨by simp [go_sem, wire], by simp [go_sem]⟩, ((Below.refl _ _).alloc (Nat.le_refl _) _).alloc (by simp) _⟩
  case hstop => exact fun _ _ _ _ h => h.elim
  case hpanic => exact fun _ h => by cases h
  case hbody =>
    rintro l k x W hx hs ⟨hbx, hb⟩
    rw [List.getElem?_map] at hx
    obtain ⟨y, hy, rfl⟩ := Option.map_eq_some_iff.mp hx
    have hle := wire_le n (k + 1)
    have e : (labs n).take (k + 1) = (labs n).take k ++ [y] := by rw [List.take_add_one, hy]; rfl
    rw [e, wire_snoc] at hle
    obtain ⟨m, hm⟩ : ∃ m, (wire ((labs n).take k)).length = m := ⟨_, rfl⟩
    rw [hm] at hbx hle
    have HI := Lib.hid (show Bx (W.setCell ⟨w.heap.size, 0, none⟩ (.int .i64 (m + (1 + y.length)))) w.heap.size (.int .i64 (wire ((labs n).take (k + 1))).length) ∧ Below w.heap.size w (W.setCell ⟨w.heap.size, 0, none⟩ (.int .i64 (m + (1 + y.length)))) by
      rw [e, wire_snoc, hm]
      exact ⟨by push_cast; exact hbx.set _, hb.setCell (Nat.le_refl _) _⟩)
    clear hm e hb hx hy
    obtain ⟨hc, hf⟩ := hbx
    gi_wp2
    exact ⟨Aside.setCell _ _ rfl, HI.out⟩
  case hdone =>
    rintro _ W ⟨hbx, hb⟩ _ hD
    rw [List.length_map, List.take_length] at hbx
    have hl := congrArg List.length (labs_left n)
    rw [List.length_append] at hl
    have hcut := from_run n (wire (labs n)).length (by omega)
    rw [left_drop] at hcut
    obtain ⟨m, hm⟩ : ∃ m, (wire (labs n)).length = m := ⟨_, rfl⟩
    rw [hm] at hcut hbx hl
    have HB := Lib.hid hb
    obtain ⟨hc, hf⟩ := hbx
    clear hb hm hl
    have hp : Below w.heap.size w (W.putObj (w.heap.size + 2) (.deferred none)) := below_putObj HB.out (by omega)
    have HP := Lib.hid hp
    clear hp
    by_cases h0 : left n = [0]
    · have ht : (!(bs (left n)).toList == [0]) = false := by rw [h0, bs_toList]; rfl
      by_cases h1 : 255 < n.length
      · have e := Lib.hid (show r = 3 by rw [← HR.out]; unfold chk; rw [if_pos h0, if_pos h1])
        have t1 : decide ((255 : Int) < n.length) = true := by simp; omega
        clear h0
        go_wp2
        exact marks_ret hD _ (results_tmp rfl _ _ _) ⟨by rw [e.out]; rfl, HP.out⟩
      · have e := Lib.hid (show r = 0 by rw [← HR.out]; unfold chk; rw [if_pos h0, if_neg h1])
        have t1 : decide ((255 : Int) < n.length) = false := by simp; omega
        clear h0
        go_wp2
        exact marks_ret hD _ (results_tmp rfl _ _ _) ⟨by rw [e.out]; rfl, HP.out⟩
    · have ht : (!(bs (left n)).toList == [0]) = true := by
        rw [bs_toList]; simpa using h0
      have e := Lib.hid (show r = 4 by rw [← HR.out]; unfold chk; rw [if_neg h0])
      clear h0
      go_wp2
      exact marks_ret hD _ (results_tmp rfl _ _ _) ⟨by rw [e.out]; rfl, HP.out⟩

end Go.Proofs.YteegekpanadmkaaGreat

/-
  Rows of the call's own whose places behind the length hold the zero value: elements of one cell.
-/
namespace Go.Proofs.YteegekpanadmkaaGreat
open Go.RowKit
set_option linter.unusedVariables false
set_option maxRecDepth 100000

section
variable {w w' : World} {B B' : Nat} {e : TypeId} {z v : Value} {cs : List Value} {G : Nat → Prop}
end

theorem zeroCells_one (z : Value) (hz : z.cells = #[z]) (n : Nat) : Builtin.zeroCells z.cells n = (List.replicate n z).toArray := by
  rw [hz]
  apply Array.ext
  · simp [Builtin.zeroCells]
  · intro i h1 h2
    simp [Builtin.zeroCells, Nat.mod_one]

end Go.Proofs.YteegekpanadmkaaGreat

/-
  Slices of texts as lists of lists of bytes; rows of the call's own; append; cuts.
-/
namespace Go.Proofs.YteegekpanadmkaaGreat
open Go.RowKit
set_option linter.unusedVariables false
set_option maxRecDepth 100000

/-- A text as a value. -/
def tv (x : List UInt8) : Value := .string (bs x)

/-- The slice value v reads as the texts l; what it leads to lies in blocks from lo on, below hi. -/
def St (w : World) (lo hi : Nat) (v : Value) (l : List (List UInt8)) : Prop :=
  ∃ a c, v = .slice a l.length c ∧ l.length ≤ c ∧ (a = none → c = 0) ∧ (0 < l.length → ∃ b off, a = some ⟨b, off, none⟩ ∧ lo ≤ b ∧ b < hi ∧ ∀ j, j < l.length → w.cell? ⟨b, off + j, none⟩ = some (tv (l.getD j [])))

section
variable {w w' : World} {lo hi lo' hi' B : Nat} {v : Value} {l : List (List UInt8)}
end

theorem wpList_append_run {w w' : World} {v v' xv : Value} {ops : Array Oper} {rest : List Oper} {o : Oper} {a : Act} {Q : Exit → Act → World → Prop} (s x : Operand) (t u : TypeId)
    (ho : o.op = .call { callee := .builtin .append, args := #[s, x], argTypes := #[t, u] }) (hgd : o.guard = .none) (hs : a.eval s = v) (hx : a.eval x = xv)
    (hrun : (Builtin.append_ #[t, u] o.type #[v, xv]).run Tryz.prog w = .ok v' w') (h : wpList Tryz.prog ops Q rest (a.put o.dst v') w') : wpList Tryz.prog ops Q (o :: rest) a w := by
  refine wpList_step fun K hK => ?_
  rw [if_pos (by simp [Region.wanted, hgd])]
  unfold Oper.wp
  simp [execOp, ho, resolve, invoke, builtin, hs, hx, hrun, Result.andThen]
  exact hK _ _ h

end Go.Proofs.YteegekpanadmkaaGreat

/-
  strings.Clone; Labels.
-/
namespace Go.Proofs.YteegekpanadmkaaGreat
open Go.RowKit Go.Shelf
set_option linter.unusedVariables false
set_option maxRecDepth 100000
attribute [local go_sem] Oper.semAt_some

theorem clone_any (s : ByteArray) (hs : s.size ≤ 1000000) (w : World) : Calls Tryz.prog 76 #[.string s] w (Tells w (.string s)) := by
  have H := Lib.hid (fun w => Tryz.stringslite_Clone s w (by omega))
  go_enter Tryz.func76, Tryz.ntmps76
  go_wp2_with (go_at_call 88; refine (H.out _).mono ?_; rintro e w1 ⟨rfl, hb⟩; have HB := Lib.hid hb; clear hb)
  go_ret
  exact ⟨rfl, HB.out⟩

end Go.Proofs.YteegekpanadmkaaGreat

/-
  Lower, the program's and the document's.
-/
namespace Go.Proofs.YteegekpanadmkaaGreat
open Go.RowKit
set_option linter.unusedVariables false
set_option maxRecDepth 100000

/-- A byte in lower form; bytes in lower form. -/
def lw (c : UInt8) : UInt8 := if 65 ≤ c.toNat ∧ c.toNat ≤ 90 then c + 32 else c
def low (l : List UInt8) : List UInt8 := l.map lw

end Go.Proofs.YteegekpanadmkaaGreat

/-
  Rows of bytes of the call's own: append of bytes and of texts, in a round and elsewhere.
-/
namespace Go.Proofs.YteegekpanadmkaaGreat
open Go.RowKit
set_option linter.unusedVariables false
set_option maxRecDepth 100000

/-- Bytes as cells. -/
def ub (l : List UInt8) : List Value := l.map fun b => Value.int .u8 (b.toNat : Nat)

theorem ub_one (l : List UInt8) : ∀ u ∈ ub l, u.oneCell' = true := by
  intro u hu
  obtain ⟨x, _, rfl⟩ := List.mem_map.mp hu
  rfl

/-- v is a row of the call's own, in blocks from B on, whose first places hold the bytes l. -/
def OwnU (w : World) (B : Nat) (v : Value) (l : List UInt8) : Prop := w.ownsRowF B 5 1 v l.length (ub l)

theorem OwnU.nil (w : World) (B : Nat) : OwnU w B (.slice .none 0 0) [] := World.ownsRowF_nil _ _ _ _

theorem OwnU.aside {w w' : World} {B : Nat} {v : Value} {l : List UInt8} {G : Nat → Prop} (h : OwnU w B v l) (ha : Aside G w w') (hG : ∀ b, B ≤ b → ¬ G b) : OwnU w' B v l := by
  have hlt := World.ownsRowF.lt h
  refine ⟨h.1, ?_⟩
  rcases h.2 with h2 | ⟨g, cap, cur, fz, hv, hg, hh, r⟩
  · exact .inl h2
  · exact .inr ⟨g, cap, cur, fz, hv, hg, (ha.block g (by subst hv; exact (hlt g rfl).2) (hG g hg)).trans hh, r⟩

theorem OwnU.mono {w : World} {B B' : Nat} {v : Value} {l : List UInt8} (h : OwnU w B v l) (hB : B' ≤ B) : OwnU w B' v l := by
  refine ⟨h.1, ?_⟩
  rcases h.2 with h2 | ⟨g, cap, cur, fz, hv, hg, r⟩
  · exact .inl h2
  · exact .inr ⟨g, cap, cur, fz, hv, Nat.le_trans hB hg, r⟩

theorem OwnU.setCell {w : World} {B : Nat} {v : Value} {l : List UInt8} (h : OwnU w B v l) {p : Addr} (hp : p.block < B) (u : Value) : OwnU (w.setCell p u) B v l :=
  h.aside (G := fun b => b = p.block) (Aside.setCell _ _ rfl) fun b hb e => by omega

theorem OwnU.below {w w' : World} {B : Nat} {v : Value} {l : List UInt8} (h : OwnU w B v l) (hb : Below w.heap.size w w') : OwnU w' B v l :=
  h.aside (G := fun _ => False) (Aside.of_all hb) fun _ _ h => h

theorem OwnU.row {w : World} {B : Nat} {v : Value} {l : List UInt8} (h : OwnU w B v l) : ∀ k, v.ownBlock = some k → B ≤ k := fun k hk => (World.ownsRowF.lt h k hk).1

theorem OwnU.shape {w : World} {B : Nat} {v : Value} {l : List UInt8} (h : OwnU w B v l) : ∃ a c, v = .slice a l.length c ∧ (0 < l.length → ∃ g, a = some ⟨g, 0, .none⟩ ∧ B ≤ g ∧ ∀ j, j < l.length → w.cell? ⟨g, j, .none⟩ = some (.int .u8 ((l.getD j 0).toNat : Nat))) := by
  rcases h.2 with ⟨rfl, h0⟩ | ⟨g, cap, cur, fz, rfl, hg, hh, r⟩
  · exact ⟨.none, 0, by rw [h0], fun h => by omega⟩
  · refine ⟨_, _, rfl, fun _ => ⟨g, rfl, hg, fun j hj => ?_⟩⟩
    have := World.ownsRowF.cells h (g := g) rfl j (.int .u8 ((l.getD j 0).toNat : Nat)) (by unfold ub; rw [List.getElem?_map, List.getElem?_eq_getElem hj, List.getD, List.getElem?_eq_getElem hj]; rfl)
    rw [WideShapes.add_plain, Nat.zero_add] at this
    exact this

/-- append of bytes, as it runs. -/
theorem run_appU {w : World} (B : Nat) (v : Value) (l l' : List UInt8) (g c : Nat) (hown : OwnU w B v l) (hx : ∀ j, j < l'.length → w.cell? ⟨g, j, none⟩ = some (.int .u8 ((l'.getD j 0).toNat : Nat))) (hb : l.length + l'.length ≤ 1000000) (hB : B ≤ w.heap.size) :
    ∃ a' c' w', (Builtin.append_ #[28, 28] 28 #[v, .slice (some ⟨g, 0, none⟩) l'.length c]).run Tryz.prog w = .ok (.slice a' (l.length + l'.length) c') w' ∧ OwnU w' B (.slice a' (l.length + l'.length) c') (l ++ l') ∧ w.grownBy w' v.ownBlock := by
  obtain ⟨i0, hi, hz0, hz1, hz2⟩ := info_parts Tryz.info5
  obtain ⟨v', w', h1, h2, h3, _⟩ := run_append_ownF (P := Tryz.prog) w B 28 28 5 i0 (.int .u8 0) 1 1 Tryz.underlying28 hi hz0 hz1 hz2 rfl (by decide) v l.length (ub l) hown ⟨g, 0, none⟩ l'.length c (ub l') (by simp [ub])
    (fun j u hu => by
      unfold ub at hu
      rw [List.getElem?_map] at hu
      obtain ⟨n, hq, rfl⟩ := Option.map_eq_some_iff.mp hu
      have hj : j < l'.length := (List.getElem?_eq_some_iff.mp hq).1
      rw [WideShapes.add_plain, Nat.zero_add, hx j hj, List.getD, hq]; rfl) (ub_one _) (by unfold maxLen; omega) (by omega) hB
  have h4 : OwnU w' B v' (l ++ l') := by
    show w'.ownsRowF B 5 1 v' (l ++ l').length (ub (l ++ l'))
    rw [List.length_append, ub, List.map_append]
    exact h2
  obtain ⟨a', c', hv, _⟩ := h4.shape
  rw [List.length_append] at hv
  subst hv
  exact ⟨a', c', w', h1, h4, h3⟩

/-- append of a text's bytes, as it runs. -/
theorem run_appS {w : World} (B : Nat) (v : Value) (l l' : List UInt8) (hown : OwnU w B v l) (hb : l.length + l'.length ≤ 1000000) (hB : B ≤ w.heap.size) :
    ∃ a' c' w', (Builtin.append_ #[28, 9] 28 #[v, .string (bs l')]).run Tryz.prog w = .ok (.slice a' (l.length + l'.length) c') w' ∧ OwnU w' B (.slice a' (l.length + l'.length) c') (l ++ l') ∧ w.grownBy w' v.ownBlock := by
  obtain ⟨i0, hi, hz0, hz1, hz2⟩ := info_parts Tryz.info5
  obtain ⟨v', w', h1, h2, h3, _⟩ := Lib.run_append_own_stringF (P := Tryz.prog) w B 28 9 28 5 i0 Tryz.underlying28 Tryz.underlying9 hi hz0 hz1 hz2 v l.length (ub l) hown (bs l') (by rw [bs_size]; unfold maxLen; omega) (by rw [bs_size]; omega) hB
  have h4 : OwnU w' B v' (l ++ l') := by
    show w'.ownsRowF B 5 1 v' (l ++ l').length (ub (l ++ l'))
    rw [List.length_append, ub, List.map_append]
    rw [bs_size] at h2
    exact h2
  obtain ⟨a', c', hv, _⟩ := h4.shape
  rw [List.length_append] at hv
  subst hv
  exact ⟨a', c', w', h1, h4, h3⟩

end Go.Proofs.YteegekpanadmkaaGreat

/-
  AppendSeq, Collect, Reverse; downward.
-/
namespace Go.Proofs.YteegekpanadmkaaGreat
open Go.RowKit Go.Shelf
set_option linter.unusedVariables false
set_option maxRecDepth 100000
attribute [local go_sem] Oper.semAt_some

/-- downward's answer: the labels of the lower form, the last one first. -/
def down (n : List UInt8) : List (List UInt8) := (labs (low n)).reverse

end Go.Proofs.YteegekpanadmkaaGreat

/-
  A text's reader: label.
-/
namespace Go.Proofs.YteegekpanadmkaaGreat
open Go.RowKit Go.Shelf
set_option linter.unusedVariables false
set_option maxRecDepth 100000
set_option linter.unusedSimpArgs false

theorem back_U {w : World} {B : Nat} {v : Value} {l : List UInt8} (h : OwnU w B v l) : (convert 28 9 v).run Tryz.prog w = .ok (.string (bs l)) w := by
  obtain ⟨a, c, rfl, hc⟩ := h.shape
  by_cases h0 : 0 < l.length
  · obtain ⟨g, rfl, _, hg⟩ := hc h0
    exact run_convert_bytes_back (P := Tryz.prog) w 28 9 5 ⟨g, 0, none⟩ c l Tryz.underlying28 Tryz.underlying5 Tryz.underlying9 (fun j hj => by
      rw [WideShapes.add_plain, Nat.zero_add, hg j hj, List.getD, List.getElem?_eq_getElem hj]; rfl)
  · have hl : l = [] := List.eq_nil_of_length_eq_zero (by omega)
    subst hl
    rcases a with _ | ad
    · rw [run_convert_bytes_nil w 28 5 Tryz.underlying28 Tryz.underlying5 _ c 9 Tryz.underlying9]; rfl
    · rw [run_convert_bytes_string w 28 9 5 _ _ c Tryz.underlying28 Tryz.underlying5 Tryz.underlying9, run_bytesToString w ad _ c [] (by simpa using run_loadCells_list (P := Tryz.prog) w ad [] (by simp))]
      rfl

end Go.Proofs.YteegekpanadmkaaGreat

/-
  Same, Parent, the program's and the document's.
-/
namespace Go.Proofs.YteegekpanadmkaaGreat
open Go.RowKit Go.Shelf
set_option linter.unusedVariables false
set_option maxRecDepth 100000

def same (a b : List UInt8) : Bool := decide (chk a = 0 ∧ chk b = 0 ∧ low a = low b)

theorem chk_ok {n : List UInt8} (h : chk n = 0) : left n = [0] ∧ n.length ≤ 255 := by
  unfold chk at h
  split at h
  · split at h
    · simp at h
    · exact ⟨‹_›, by omega⟩
  · simp at h

theorem chk_mk {n : List UInt8} (h : left n = [0]) (hl : n.length ≤ 255) : chk n = 0 := by
  unfold chk
  rw [if_pos h, if_neg (by omega)]

theorem chk_wire {n : List UInt8} (h : chk n = 0) : n = wire (labs n) ++ [0] := by
  have h1 := labs_left n
  rw [(chk_ok h).1] at h1
  exact h1.symm

/-- Labels that may be are read off their bytes. -/
theorem labs_wire (l : List (List UInt8)) (h : ∀ x ∈ l, 0 < x.length ∧ x.length ≤ 63) : labs (wire l ++ [0]) = l ∧ left (wire l ++ [0]) = [0] := by
  induction l with
  | nil => simp [wire, labs, left]
  | cons x r ih =>
    have hx := h x (by simp)
    obtain ⟨i1, i2⟩ := ih fun y hy => h y (List.mem_cons_of_mem _ hy)
    have h8 : (UInt8.ofNat x.length).toNat = x.length := by rw [UInt8.toNat_ofNat']; omega
    have e : wire (x :: r) ++ [0] = UInt8.ofNat x.length :: (x ++ (wire r ++ [0])) := by simp [wire]
    have hc : ¬ ((UInt8.ofNat x.length).toNat = 0 ∨ 63 < (UInt8.ofNat x.length).toNat ∨ (x ++ (wire r ++ [0])).length < (UInt8.ofNat x.length).toNat) := by
      rw [h8, List.length_append]; omega
    rw [e, labs, left, if_neg hc, if_neg hc, h8]
    rw [List.take_left, List.drop_left, i1, i2]
    exact ⟨rfl, rfl⟩

theorem chk_of_wire (l : List (List UInt8)) (h : ∀ x ∈ l, 0 < x.length ∧ x.length ≤ 63) (hl : (wire l).length ≤ 254) : chk (wire l ++ [0]) = 0 :=
  chk_mk (labs_wire l h).2 (by simp; omega)

end Go.Proofs.YteegekpanadmkaaGreat

/-
  The document's Within and Compare.
-/
namespace Go.Proofs.YteegekpanadmkaaGreat
open Go.RowKit Go.Shelf
set_option linter.unusedVariables false
set_option maxRecDepth 100000
set_option linter.unusedSimpArgs false

theorem chk_wire_len {n : List UInt8} (h : chk n = 0) : (wire (labs n)).length ≤ 254 := by
  have h1 := congrArg List.length (chk_wire h)
  have h2 := (chk_ok h).2
  simp at h1
  omega

end Go.Proofs.YteegekpanadmkaaGreat

/-
  What the document's examples say: faulty, awake.
-/
namespace Go.Proofs.YteegekpanadmkaaGreat
open Go.RowKit Go.Shelf
set_option linter.unusedVariables false
set_option maxRecDepth 100000
set_option linter.unusedSimpArgs false

/-- Labels that a name may have. -/
def Shorts (l : List (List UInt8)) : Prop := (∀ x ∈ l, 0 < x.length ∧ x.length ≤ 63) ∧ (wire l).length ≤ 254

theorem shorts_chk {l : List (List UInt8)} (h : Shorts l) : chk (wire l ++ [0]) = 0 := chk_of_wire l h.1 h.2
theorem shorts_labs {l : List (List UInt8)} (h : Shorts l) : labs (wire l ++ [0]) = l := (labs_wire l h.1).1
theorem shorts_of {n : List UInt8} (h : chk n = 0) : Shorts (labs n) ∧ n = wire (labs n) ++ [0] := ⟨⟨labs_short n, chk_wire_len h⟩, chk_wire h⟩
instance (l : List (List UInt8)) : Decidable (Shorts l) := by unfold Shorts; infer_instance

end Go.Proofs.YteegekpanadmkaaGreat

/-
  The statement about the order of names.
-/
namespace Go.Proofs.YteegekpanadmkaaGreat
open Go.RowKit Go.Shelf
set_option linter.unusedVariables false
set_option maxRecDepth 100000
set_option linter.unusedSimpArgs false

theorem tell_on {f : Nat} {args : Array Value} {v : Value} {w0 w : World} (h : Hid (Below w0.heap.size w0 w)) (hc : Calls Tryz.prog f args w (Tells w v)) : Calls Tryz.prog f args w fun e w' => e = .returned v ∧ Hid (Below w0.heap.size w0 w') :=
  hc.mono fun e w' hp => ⟨hp.1, bel_call h.out hp.2⟩

end Go.Proofs.YteegekpanadmkaaGreat

/-
  A name in a message, read plainly: byte by byte, part by part.
-/
namespace Go.Proofs.YteegekpanadmkaaGreat
open Go.RowKit
set_option linter.unusedVariables false
set_option maxRecDepth 100000

/-- Bytes as numbers. -/
def iz (b : List UInt8) : List Int := b.map fun x => (x.toNat : Int)

@[simp] theorem iz_len (b : List UInt8) : (iz b).length = b.length := by simp [iz]

theorem iz_byte (b : List UInt8) : ByteL (iz b) := fun n hn => by
  obtain ⟨x, _, rfl⟩ := List.mem_map.mp hn
  have : x.toNat < 256 := x.toNat_lt
  omega

theorem iz_get (b : List UInt8) (k : Nat) (h : k < b.length) : (iz b).getD k 0 = (b[k].toNat : Int) := by
  rw [List.getD, iz, List.getElem?_map, List.getElem?_eq_getElem h]; rfl

theorem iz_cut (b : List UInt8) (p k : Nat) : cutL (iz b) p k = iz ((b.drop p).take k) := by
  unfold cutL iz
  rw [← List.map_drop, ← List.map_take]

theorem iz_app (a b : List UInt8) : iz (a ++ b) = iz a ++ iz b := List.map_append

/-- What reading tells: the name, where it ends, the fault, its place. -/
abbrev Got := List UInt8 × Nat × Int × Nat

/-- What a pointer of these two bytes leads to. -/
def ptr (x y : UInt8) : Nat := 256 * (x.toNat - 192) + y.toNat

/-- From the place i on; a: where reading began; part: where this part began; next: where the first part ended, 0 till it is left; n: the labels so far. -/
def rd (b : List UInt8) (a part i next : Nat) (n : List UInt8) : Got :=
  if h : i < b.length then
    if b[i].toNat = 0 then (n ++ [0], if next = 0 then i + 1 else next, 0, 0)
    else if b[i].toNat < 64 then
      if b.length < i + (1 + b[i].toNat) then ([], 0, 4, b.length)
      else if 254 < n.length + (1 + b[i].toNat) then ([], 0, 3, a)
      else rd b a part (i + (1 + b[i].toNat)) next (n ++ (b.drop i).take (1 + b[i].toNat))
    else if b[i].toNat < 192 then ([], 0, 4, i)
    else if h1 : i + 1 < b.length then
      if part ≤ ptr b[i] b[i + 1] then ([], 0, 150, i)
      else rd b a (ptr b[i] b[i + 1]) (ptr b[i] b[i + 1]) (if next = 0 then i + 2 else next) n
    else ([], 0, 4, b.length)
  else ([], 0, 4, b.length)
termination_by (part, b.length - i)
decreasing_by
  · apply Prod.Lex.right; omega
  · apply Prod.Lex.left; omega

theorem rd_end {b : List UInt8} {a part i next : Nat} {n : List UInt8} (h : b.length ≤ i) : rd b a part i next n = ([], 0, 4, b.length) := by
  rw [rd, dif_neg (by omega)]

theorem rd_zero {b : List UInt8} {a part i next : Nat} {n : List UInt8} (h : i < b.length) (h0 : b[i].toNat = 0) : rd b a part i next n = (n ++ [0], if next = 0 then i + 1 else next, 0, 0) := by
  rw [rd, dif_pos h, if_pos h0]

theorem rd_short {b : List UInt8} {a part i next : Nat} {n : List UInt8} (h : i < b.length) (h0 : b[i].toNat ≠ 0) (h1 : b[i].toNat < 64) (h2 : b.length < i + (1 + b[i].toNat)) : rd b a part i next n = ([], 0, 4, b.length) := by
  rw [rd, dif_pos h, if_neg h0, if_pos h1, if_pos h2]

theorem rd_long {b : List UInt8} {a part i next : Nat} {n : List UInt8} (h : i < b.length) (h0 : b[i].toNat ≠ 0) (h1 : b[i].toNat < 64) (h2 : ¬ b.length < i + (1 + b[i].toNat)) (h3 : 254 < n.length + (1 + b[i].toNat)) : rd b a part i next n = ([], 0, 3, a) := by
  rw [rd, dif_pos h, if_neg h0, if_pos h1, if_neg h2, if_pos h3]

theorem rd_label {b : List UInt8} {a part i next : Nat} {n : List UInt8} (h : i < b.length) (h0 : b[i].toNat ≠ 0) (h1 : b[i].toNat < 64) (h2 : ¬ b.length < i + (1 + b[i].toNat)) (h3 : ¬ 254 < n.length + (1 + b[i].toNat)) :
    rd b a part i next n = rd b a part (i + (1 + b[i].toNat)) next (n ++ (b.drop i).take (1 + b[i].toNat)) := by
  conv => lhs; rw [rd, dif_pos h, if_neg h0, if_pos h1, if_neg h2, if_neg h3]

theorem rd_mid {b : List UInt8} {a part i next : Nat} {n : List UInt8} (h : i < b.length) (h1 : 64 ≤ b[i].toNat) (h2 : b[i].toNat < 192) : rd b a part i next n = ([], 0, 4, i) := by
  rw [rd, dif_pos h, if_neg (by omega), if_neg (by omega), if_pos h2]

theorem rd_half {b : List UInt8} {a part i next : Nat} {n : List UInt8} (h : i < b.length) (h1 : 192 ≤ b[i].toNat) (h2 : b.length ≤ i + 1) : rd b a part i next n = ([], 0, 4, b.length) := by
  rw [rd, dif_pos h, if_neg (by omega), if_neg (by omega), if_neg (by omega), dif_neg (by omega)]

theorem rd_back {b : List UInt8} {a part i next : Nat} {n : List UInt8} (h : i < b.length) (h1 : 192 ≤ b[i].toNat) (h2 : i + 1 < b.length) (h3 : part ≤ ptr b[i] b[i + 1]) : rd b a part i next n = ([], 0, 150, i) := by
  rw [rd, dif_pos h, if_neg (by omega), if_neg (by omega), if_neg (by omega), dif_pos h2, if_pos h3]

theorem rd_go {b : List UInt8} {a part i next : Nat} {n : List UInt8} (h : i < b.length) (h1 : 192 ≤ b[i].toNat) (h2 : i + 1 < b.length) (h3 : ¬ part ≤ ptr b[i] b[i + 1]) :
    rd b a part i next n = rd b a (ptr b[i] b[i + 1]) (ptr b[i] b[i + 1]) (if next = 0 then i + 2 else next) n := by
  conv => lhs; rw [rd, dif_pos h, if_neg (by omega), if_neg (by omega), if_neg (by omega), dif_pos h2, if_neg h3]

/-- What is told of any place. -/
def rda (b : List UInt8) (a : Int) : Got := if a < 0 ∨ (b.length : Int) < a then ([], 0, 5, 0) else rd b a.toNat a.toNat a.toNat 0 []

def gotV (r : Got) : Value := .tuple #[.string (bs r.1), .int .i64 r.2.1, .agg #[.int .i64 r.2.2.1, .int .i64 r.2.2.2]]

end Go.Proofs.YteegekpanadmkaaGreat

/-
  cmp.Or of two numbers; the byte at a place; where a pointer leads.
-/
namespace Go.Proofs.YteegekpanadmkaaGreat
open Go.RowKit Go.Shelf
set_option linter.unusedVariables false
set_option maxRecDepth 100000

set_option maxHeartbeats 400000 in
theorem or_any (g : Nat) (x y : Int) (w : World) (c0 : w.cell? ⟨g, 0, none⟩ = some (.int .i64 x)) (c1 : w.cell? ⟨g, 1, none⟩ = some (.int .i64 y)) :
    Calls Tryz.prog 145 #[.slice (some ⟨g, 0, none⟩) 2 2] w fun e w' => e = .returned (.int .i64 (if x = 0 then y else x)) ∧ w = w' := by
  by_cases h : x = 0
  · subst h
    by_cases hy : y = 0
    · subst hy
      go_enter Tryz.func145, Tryz.ntmps145
      go_wp2
      refine wp_loop_rounds 3 ?_
      iterate 3 (rw [rounds_succ]; go_wp2)
      go_ret
      exact ⟨rfl, rfl⟩
    · have t : (y != 0) = true := by simpa using hy
      go_enter Tryz.func145, Tryz.ntmps145
      go_wp2
      refine wp_loop_rounds 3 ?_
      iterate 2 (rw [rounds_succ]; go_wp2)
      go_ret
      exact ⟨rfl, rfl⟩
  · have t : (x != 0) = true := by simpa using h
    go_enter Tryz.func145, Tryz.ntmps145
    go_wp2
    refine wp_loop_rounds 3 ?_
    iterate 1 (rw [rounds_succ]; go_wp2)
    go_ret
    exact ⟨rfl, rfl⟩

/-- The slice at a place. -/
theorem Sl.spot {w : World} {lo hi : Nat} {v : Value} {l : List Int} (h : Sl w lo hi v l) (p : Nat) (hp : p < l.length) :
    ∃ g off c, v = .slice (some ⟨g, off, none⟩) l.length c ∧ g < hi ∧ w.cell? ⟨g, off + p, none⟩ = some (.int .u8 (l.getD p 0)) := by
  obtain ⟨a, c, rfl, _, _, hx⟩ := h
  obtain ⟨g, off, rfl, _, h2, h3⟩ := hx (by omega)
  exact ⟨g, off, c, rfl, h2, h3 p hp⟩

/-- The byte at a place, or the fault. -/
def lenV (b : List UInt8) (p : Nat) : Value :=
  if h : p < b.length then (if 64 ≤ b[p].toNat ∧ b[p].toNat < 192 then .tuple #[.int .i64 0, .agg #[.int .i64 4, .int .i64 p]] else .tuple #[.int .i64 b[p].toNat, .agg #[.int .i64 0, .int .i64 0]])
  else .tuple #[.int .i64 0, .agg #[.int .i64 4, .int .i64 p]]

set_option maxHeartbeats 400000 in
theorem length_any {w : World} {lo hi : Nat} {v : Value} {b : List UInt8} (h : Sl w lo hi v (iz b)) (p : Nat) (hp : p ≤ b.length) (hl : b.length ≤ 1000000) :
    Calls Tryz.prog 143 #[v, .int .i64 p] w (Tells w (lenV b p)) := by
  have HB := Lib.hid ((Below.refl w.heap.size w).alloc (Nat.le_refl _) (.cells #[.int .i64 0, .int .i64 0] 42))
  by_cases hlt : p < b.length
  · obtain ⟨g, off, c, rfl, _, hc⟩ := h.spot p (by simpa using hlt)
    have hg : g < w.heap.size := World.block_lt_of_cell? w _ hc
    rw [iz_get b p hlt] at hc
    rw [iz_len]
    have hv : lenV b p = if 64 ≤ b[p].toNat ∧ b[p].toNat < 192 then .tuple #[.int .i64 0, .agg #[.int .i64 4, .int .i64 p]] else .tuple #[.int .i64 b[p].toNat, .agg #[.int .i64 0, .int .i64 0]] := by
      unfold lenV; rw [dif_pos hlt]
    have hx : b[p].toNat < 256 := b[p].toNat_lt
    obtain ⟨x, hxe⟩ : ∃ x, b[p].toNat = x := ⟨_, rfl⟩
    rw [hxe] at hc hv hx
    clear hxe
    have t0 : ((p : Int) == b.length) = false := by simp; omega
    by_cases h1 : 64 ≤ x
    · have t1 : decide ((63 : Int) < x) = true := by simp; omega
      by_cases h2 : x < 192
      · have t2 : decide ((x : Int) < 192) = true := by simp; omega
        rw [if_pos ⟨h1, h2⟩] at hv
        rw [hv]
        go_enter Tryz.func143, Tryz.ntmps143
        go_wp2
        exact bodyPost_ret  (by simp [results, Tryz.results143, go_sem]) rfl ⟨rfl, (Below.refl _ _).alloc (Nat.le_refl _) _⟩
      · have t2 : decide ((x : Int) < 192) = false := by simp; omega
        rw [if_neg (fun h => h2 h.2)] at hv
        rw [hv]
        go_enter Tryz.func143, Tryz.ntmps143
        go_wp2
        exact bodyPost_ret  (by simp [results, Tryz.results143, go_sem]) rfl ⟨rfl, (Below.refl _ _).alloc (Nat.le_refl _) _⟩
    · have t1 : decide ((63 : Int) < x) = false := by simp; omega
      rw [if_neg (fun h => h1 h.1)] at hv
      rw [hv]
      go_enter Tryz.func143, Tryz.ntmps143
      go_wp2
      exact bodyPost_ret  (by simp [results, Tryz.results143, go_sem]) rfl ⟨rfl, (Below.refl _ _).alloc (Nat.le_refl _) _⟩
  · have hv : lenV b p = .tuple #[.int .i64 0, .agg #[.int .i64 4, .int .i64 p]] := by unfold lenV; rw [dif_neg hlt]
    rw [hv]
    obtain ⟨a, c, rfl, _⟩ := h
    rw [iz_len]
    have t0 : ((p : Int) == b.length) = true := by simp; omega
    go_enter Tryz.func143, Tryz.ntmps143
    go_wp2
    exact bodyPost_ret  (by simp [results, Tryz.results143, go_sem]) rfl ⟨rfl, (Below.refl _ _).alloc (Nat.le_refl _) _⟩

/-- Where a pointer leads, where it ends, or the fault. -/
def folV (b : List UInt8) (p part : Nat) : Value :=
  if h : p + 1 < b.length then (if part ≤ ptr b[p] b[p + 1] then .tuple #[.int .i64 0, .int .i64 0, .agg #[.int .i64 150, .int .i64 p]] else .tuple #[.int .i64 (ptr b[p] b[p + 1] : Nat), .int .i64 (p + 2 : Nat), .agg #[.int .i64 0, .int .i64 0]])
  else .tuple #[.int .i64 0, .int .i64 0, .agg #[.int .i64 4, .int .i64 b.length]]

/-- The result's cells written, something laid behind. -/
theorem res_below {w w1 : World} {o : Obj} (hb : Below (w.heap.size + 1) (w.alloc o) w1) (x y : Value) (o' : Obj) :
    Below w.heap.size w (((w1.setCell ⟨w.heap.size, 0, none⟩ x).setCell ⟨w.heap.size, 1, none⟩ y).alloc o') := by
  have h0 := ((Below.refl w.heap.size w).alloc (Nat.le_refl _) o).trans (hb.mono (Nat.le_succ _))
  have h1 := (h0.setCell (p := ⟨w.heap.size, 0, none⟩) (Nat.le_refl _) x).setCell (p := ⟨w.heap.size, 1, none⟩) (Nat.le_refl _) y
  exact h1.alloc h1.size o'

set_option maxHeartbeats 400000 in
theorem follow_any {w : World} {lo hi : Nat} {v : Value} {b : List UInt8} (h : Sl w lo hi v (iz b)) (hhi : hi ≤ w.heap.size) (p part : Nat) (hp : p < b.length) (hx : 192 ≤ b[p].toNat) (hpt : part ≤ b.length) (hl : b.length ≤ 1000000) :
    Calls Tryz.prog 144 #[v, .int .i64 p, .int .i64 part] w (Tells w (folV b p part)) := by
  have HB0 := Lib.hid ((Below.refl w.heap.size w).alloc (Nat.le_refl _) (.cells #[.int .i64 0, .int .i64 0] 42))
  have hs := h.below HB0.out hhi
  have HG := get16_any hs (iz_byte b) (by simpa using hl) (by simp; omega) p
  rw [iz_len] at HG
  by_cases h1 : p + 1 < b.length
  · have e1 : getF 2 b.length p (nAt2 (iz b) (p : Int).toNat) = (b[p].toNat * 256 + b[p + 1].toNat : Nat) := by
      unfold getF nAt2 num2
      rw [if_pos (by omega), Int.toNat_natCast, iz_get b p hp, iz_get b (p + 1) h1]
      omega
    have e2 : getF 2 b.length p (p + 2) = (p + 2 : Nat) := by unfold getF; rw [if_pos (by omega)]; push_cast; rfl
    have e3 : getE 2 b.length p = 0 := by unfold getE; rw [if_neg (by omega), if_neg (by omega)]
    have e4 : getA 2 b.length p = 0 := by unfold getA; rw [if_neg (by omega)]
    rw [e1, e2, e3, e4] at HG
    have hy : b[p + 1].toNat < 256 := b[p + 1].toNat_lt
    have hx2 : b[p].toNat < 256 := b[p].toNat_lt
    have hptr : ptr b[p] b[p + 1] = (b[p].toNat * 256 + b[p + 1].toNat) % 16384 := by unfold ptr; omega
    have hv : folV b p part = if part ≤ ptr b[p] b[p + 1] then .tuple #[.int .i64 0, .int .i64 0, .agg #[.int .i64 150, .int .i64 p]] else .tuple #[.int .i64 (ptr b[p] b[p + 1] : Nat), .int .i64 (p + 2 : Nat), .agg #[.int .i64 0, .int .i64 0]] := by
      unfold folV; rw [dif_pos h1]
    rw [hptr] at hv
    obtain ⟨N, hN⟩ : ∃ N, b[p].toNat * 256 + b[p + 1].toNat = N := ⟨_, rfl⟩
    rw [hN] at HG hv
    have hNb : N < 65536 := by omega
    have hrem : ((N : Int).tmod 16384) = ((N % 16384 : Nat) : Int) := by rw [Int.tmod_eq_emod_of_nonneg (by omega)]; omega
    obtain ⟨T, hT⟩ : ∃ T, N % 16384 = T := ⟨_, rfl⟩
    rw [hT] at hrem hv
    obtain ⟨e, he⟩ : ∃ e, p + 2 = e := ⟨_, rfl⟩
    rw [he] at HG hv
    have HH := Lib.hid HG
    clear hN hptr hx2 hy e1 e2 e3 e4 HG he hs h
    by_cases h2 : part ≤ T
    · have t2 : decide ((part : Int) ≤ T) = true := by simp; omega
      rw [if_pos h2] at hv
      rw [hv]
      go_enter Tryz.func144, Tryz.ntmps144
      go_wp2_with fail
      refine HH.out.mono ?_
      rintro e w1 ⟨rfl, hb⟩
      simp only [World.size_alloc] at hb
      have HB := Lib.hid hb
      have hlt := below_lt hb
      obtain ⟨k0, k1, k3⟩ := res_cells hb
      clear hb
      go_wp2_with fail
      obtain ⟨m0, m1⟩ := res_set (.int .i64 150) (.int .i64 p) k0 k1
      exact bodyPost_ret (by simp [results, Tryz.results144, go_sem, m0, m1, hlt]) rfl ⟨rfl, res_below HB.out _ _ _⟩
    · have t2 : decide ((part : Int) ≤ T) = false := by simp; omega
      rw [if_neg h2] at hv
      rw [hv]
      go_enter Tryz.func144, Tryz.ntmps144
      go_wp2_with fail
      refine HH.out.mono ?_
      rintro e w1 ⟨rfl, hb⟩
      simp only [World.size_alloc] at hb
      have HB := Lib.hid hb
      have hlt := below_lt hb
      obtain ⟨k0, k1, k3⟩ := res_cells hb
      clear hb
      go_wp2_with fail
      obtain ⟨m0, m1⟩ := res_set (.int .i64 0) (.int .i64 0) k0 k1
      exact bodyPost_ret (by simp [results, Tryz.results144, go_sem, m0, m1, hlt]) rfl ⟨rfl, res_below HB.out _ _ _⟩
  · have e1 : ∀ x, getF 2 b.length p x = 0 := fun x => by unfold getF; rw [if_neg (by omega)]
    have e3 : getE 2 b.length p = 4 := by unfold getE; rw [if_neg (by omega), if_pos (by omega)]
    have e4 : getA 2 b.length p = b.length := by unfold getA; rw [if_pos (by omega)]
    have hv : folV b p part = .tuple #[.int .i64 0, .int .i64 0, .agg #[.int .i64 4, .int .i64 b.length]] := by unfold folV; rw [dif_neg h1]
    rw [e1, e1, e3, e4] at HG
    rw [hv]
    have HH := Lib.hid HG
    clear e1 e3 e4 HG hs h
    go_enter Tryz.func144, Tryz.ntmps144
    go_wp2_with fail
    refine HH.out.mono ?_
    rintro e w1 ⟨rfl, hb⟩
    simp only [World.size_alloc] at hb
    have HB := Lib.hid hb
    have hlt := below_lt hb
    obtain ⟨k0, k1, k3⟩ := res_cells hb
    clear hb
    go_wp2_with fail
    go_region
    go_wp2_with fail
    obtain ⟨m0, m1⟩ := res_set (.int .i64 4) (.int .i64 b.length) k0 k1
    exact bodyPost_ret (by simp [results, Tryz.results144, go_sem, m0, m1, hlt]) rfl ⟨rfl, below_drewN (res_below HB.out _ _ _) 1⟩

end Go.Proofs.YteegekpanadmkaaGreat

/-
  Read.
-/
namespace Go.Proofs.YteegekpanadmkaaGreat
open Go.RowKit Go.Shelf
set_option linter.unusedVariables false
set_option maxRecDepth 100000

/-- Where the result's block and one behind it stand. -/
structure Rdy (w w1 : World) : Prop where
  below : Below (w.heap.size + 1) (w.alloc (.cells #[.int .i64 0, .int .i64 0] 42)) w1

theorem Rdy.lt {w w1 : World} (h : Rdy w w1) : w.heap.size < w1.heap.size := below_lt h.below
theorem Rdy.call {w w1 w2 : World} (h : Rdy w w1) (hb : Below w1.heap.size w1 w2) : Rdy w w2 := ⟨h.below.trans (hb.mono h.lt)⟩
theorem Rdy.alloc {w w1 : World} (h : Rdy w w1) (o : Obj) : Rdy w (w1.alloc o) := ⟨h.below.alloc h.lt o⟩
theorem Rdy.set {w w1 : World} (h : Rdy w w1) {p : Addr} (hp : w.heap.size < p.block) (x : Value) : Rdy w (w1.setCell p x) := ⟨h.below.setCell hp x⟩
theorem Rdy.cells {w w1 : World} (h : Rdy w w1) : w1.cell? ⟨w.heap.size, 0, none⟩ = some (.int .i64 0) ∧ w1.cell? ⟨w.heap.size, 1, none⟩ = some (.int .i64 0) ∧ ∀ j, w1.frozen? ⟨w.heap.size, j, none⟩ = false := res_cells h.below
theorem Rdy.fin {w w1 : World} (h : Rdy w w1) (x y : Value) (o : Obj) : Below w.heap.size w (((w1.setCell ⟨w.heap.size, 0, none⟩ x).setCell ⟨w.heap.size, 1, none⟩ y).alloc o) := by
  have := ((((Below.refl w.heap.size w).alloc (Nat.le_refl _) _).trans (h.below.mono (Nat.le_succ _))).setCell (p := ⟨w.heap.size, 0, none⟩) (Nat.le_refl _) x).setCell (p := ⟨w.heap.size, 1, none⟩) (Nat.le_refl _) y
  exact this.alloc this.size o
theorem Rdy.end_ {w w1 : World} (h : Rdy w w1) (x y : Value) : Below w.heap.size w ((w1.setCell ⟨w.heap.size, 0, none⟩ x).setCell ⟨w.heap.size, 1, none⟩ y) :=
  ((((Below.refl w.heap.size w).alloc (Nat.le_refl _) _).trans (h.below.mono (Nat.le_succ _))).setCell (Nat.le_refl _) x).setCell (Nat.le_refl _) y

theorem Rdy.old {w w1 : World} (h : Rdy w w1) : Below w.heap.size w w1 := ((Below.refl w.heap.size w).alloc (Nat.le_refl _) _).trans (h.below.mono (Nat.le_succ _))
theorem Rdy.on {w w1 w2 : World} (h : Rdy w w1) (hb : Below (w.heap.size + 1) w1 w2) : Rdy w w2 := ⟨h.below.trans hb⟩

/-- append of bytes that are a whole block. -/
theorem app_own {w : World} {B g : Nat} {v vl : Value} {n m : List UInt8} (HO : OwnU w B v n) (hl : Own w g vl (iz m)) (hm : 0 < m.length) (hb : n.length + m.length ≤ 1000000) (hB : B ≤ w.heap.size) :
    ∃ a' c' w', (Builtin.append_ #[28, 28] 28 #[v, vl]).run Tryz.prog w = .ok (.slice a' (n.length + m.length) c') w' ∧ OwnU w' B (.slice a' (n.length + m.length) c') (n ++ m) ∧ Below B w w' := by
  rcases hl with ⟨_, h⟩ | ⟨rfl, hh⟩
  · have := congrArg List.length h
    rw [iz_len, List.length_nil] at this
    omega
  · rw [iz_len]
    obtain ⟨a', c', w', h1, h2, h3⟩ := run_appU (w := w) B v n m g m.length HO (fun j hj => by
      have : j < (iz m).length := by simpa using hj
      rw [List.getD, List.getElem?_eq_getElem hj]
      simp only [World.cell?, hh]
      simp [iz, hj]) hb hB
    exact ⟨a', c', w', h1, h2, (Below.refl _ _).grown h3 hB HO.row⟩

/-- What octet.Bytes tells, and what is known of the worlds behind it. -/
theorem bytes_cut {w1 : World} {lo hi : Nat} {v : Value} {b : List UInt8} (h : Sl w1 lo hi v (iz b)) (hl : b.length ≤ 1000000) (p k : Nat) (hk : p + k ≤ b.length) :
    Calls Tryz.prog 146 #[v, .int .i64 p, .int .i64 k] w1 (BytesPost w1 (iz ((b.drop p).take k)) (p + k : Nat) 0 0) := by
  have := bytes_at (iz b) p k (by simpa using hl) (by simpa using hk) w1 h
  rw [iz_cut] at this
  push_cast
  exact this

theorem bytes_short {w1 : World} {lo hi : Nat} {v : Value} {b : List UInt8} (h : Sl w1 lo hi v (iz b)) (hl : b.length ≤ 1000000) (p k : Nat) (hp : p ≤ b.length) (hk : b.length < p + k) (hk2 : k ≤ 1000) :
    Calls Tryz.prog 146 #[v, .int .i64 p, .int .i64 k] w1 (BytesPost w1 [] 0 4 b.length) := by
  have := bytes_at_no (iz b) p k (by simpa using hl) (by simpa using hp) (by simpa using hk) (by omega) w1 h
  rw [iz_len] at this
  exact this

set_option maxRecDepth 100000 in
set_option maxHeartbeats 4000000 in
theorem read_core {w : World} {lo hi : Nat} {v : Value} {b : List UInt8} (h : Sl w lo hi v (iz b)) (hhi : hi ≤ w.heap.size) (hl : b.length ≤ 1000000) (a : Nat) (ha : a ≤ b.length)
    (n' : List UInt8) (x' : Nat) (e' : Int) (a' : Nat) (hR : rd b a a a 0 [] = (n', x', e', a')) :
    Calls Tryz.prog 135 #[v, .int .i64 a] w (Tells w (.tuple #[.string (bs n'), .int .i64 x', .agg #[.int .i64 e', .int .i64 a']])) := by
  have HS := Lib.hid h
  obtain ⟨ad, c, rfl, _⟩ := h
  simp only [iz_len] at HS
  rw [iz_len]
  have t0 : ¬ b.length < a := by omega
  have HR := Lib.hid hR
  clear hR
  go_enter Tryz.func135, Tryz.ntmps135
  go_wp2
  go_step3
  go_wp2
  go_step3
  go_wp2
  go_loopg [7, 8, 9] a (fun g v7 v8 v9 wr => ∃ (next : Nat) (n : List UInt8), v8 = .int .i64 g ∧ v9 = .int .i64 next ∧ g ≤ b.length ∧ n.length ≤ 254 ∧ Hid (OwnU wr (w.heap.size + 1) v7 n) ∧ Hid (rd b a g g next n = (n', x', e', a')) ∧ Hid (Rdy w wr))
  case atStart => exact ⟨0, [], rfl, rfl, ha, by simp, OwnU.nil _ _, HR.out, ⟨Below.refl _ _⟩⟩
  case round =>
    obtain ⟨next, n, rfl, rfl, hg, hn, HO, HRR, HB⟩ := hrel
    obtain ⟨g, rfl⟩ : ∃ g, g = gk := ⟨_, rfl⟩
    obtain ⟨wo, rfl⟩ : ∃ wo, wo = wr := ⟨_, rfl⟩
    go_wp2
    go_loopg [7, 8, 9, 10] (b.length - g) (fun g2 v7 v8 v9 v10 wy => ∃ (here : Nat) (n : List UInt8), v8 = .int .i64 g ∧ v9 = .int .i64 next ∧ v10 = .int .i64 here ∧ here + g2 = b.length ∧ n.length ≤ 254 ∧ Hid (OwnU wy (w.heap.size + 1) v7 n) ∧ Hid (rd b a g here next n = (n', x', e', a')) ∧ Hid (Rdy w wy))
    case atStart => exact ⟨g, n, rfl, rfl, rfl, by omega, hn, HO, HRR, HB⟩
    case round =>
      clear HO HRR HB hn n
      obtain ⟨here, n, rfl, rfl, rfl, hh, hn, HO, HRR, HB⟩ := hrel
      have HSr := Lib.hid (HS.out.below ((((Below.refl w.heap.size w).alloc (Nat.le_refl _) _).trans (HB.out.below.mono (Nat.le_succ _)))) hhi)
      have HLen := Lib.hid (length_any HSr.out here (by omega) hl)
      have stop : ∀ (e : Int) (k : Nat), rd b a g here next n = ([], 0, e, k) → Hid (n' = [] ∧ x' = 0 ∧ e' = e ∧ a' = k) := fun e k hk => by
        have := hk.symm.trans HRR.out
        simp only [Prod.mk.injEq] at this
        exact ⟨this.1.symm, this.2.1.symm, this.2.2.1.symm, this.2.2.2.symm⟩
      by_cases hlt : here < b.length
      · by_cases hmid : 64 ≤ b[here].toNat ∧ b[here].toNat < 192
        · have HE := stop 4 here (rd_mid hlt hmid.1 hmid.2)
          have hv : lenV b here = .tuple #[.int .i64 0, .agg #[.int .i64 4, .int .i64 here]] := by unfold lenV; rw [dif_pos hlt, if_pos hmid]
          rw [hv] at HLen
          clear hv stop HRR hmid HSr HS HO HR
          go_wp2_with fail
          refine HLen.out.mono ?_; rintro e w1 ⟨rfl, hb⟩
          have HB1 := Lib.hid (HB.out.call hb)
          have hlt1 := HB1.out.lt
          obtain ⟨k0, k1, k3⟩ := HB1.out.cells
          clear hb
          go_wp2_with fail
          go_region
          go_wp2_with fail
          obtain ⟨m0, m1⟩ := res_set (.int .i64 4) (.int .i64 here) k0 k1
          exact bodyPost_ret (v := .tuple #[.string ⟨#[]⟩, .int .i64 0, .agg #[.int .i64 4, .int .i64 here]]) (by simp [results, Tryz.results135, go_sem, m0, m1, hlt1]) rfl ⟨by obtain ⟨rfl, rfl, rfl, rfl⟩ := HE.out; rfl, below_drewN (HB1.out.fin _ _ _) 1⟩
        · have hv : lenV b here = .tuple #[.int .i64 b[here].toNat, .agg #[.int .i64 0, .int .i64 0]] := by unfold lenV; rw [dif_pos hlt, if_neg hmid]
          rw [hv] at HLen
          clear hv
          by_cases hc : 192 ≤ b[here].toNat
          · have t1 : decide ((63 : Int) < b[here].toNat) = true := by simp; omega
            by_cases hh1 : here + 1 < b.length
            · by_cases hpt : g ≤ ptr b[here] b[here + 1]
              · have HE := stop 150 here (rd_back hlt hc hh1 hpt)
                have hfv : folV b here g = .tuple #[.int .i64 0, .int .i64 0, .agg #[.int .i64 150, .int .i64 here]] := by unfold folV; rw [dif_pos hh1, if_pos hpt]
                have HF := Lib.hid (fun (wx : World) (h1 : Rdy w wx) => hfv ▸ follow_any (HS.out.below h1.old hhi) (Nat.le_trans hhi h1.old.size) here g hlt hc hg hl)
                obtain ⟨cc, hcc⟩ : ∃ cc, b[here].toNat = cc := ⟨_, rfl⟩
                rw [hcc] at HLen t1
                clear hfv hpt stop HRR hmid HSr HS HO HR hcc hc
                go_wp2_with fail
                refine HLen.out.mono ?_; rintro e w1 ⟨rfl, hb⟩
                have HB1 := Lib.hid ((HB.out.call hb).alloc (.cells #[.int .i64 0, .int .i64 0] 42))
                clear hb
                go_wp2_with fail
                refine (HF.out _ HB1.out).mono ?_; rintro e w2 ⟨rfl, hb⟩
                have HB2 := Lib.hid (HB1.out.call hb)
                have hlt2 := HB2.out.lt
                obtain ⟨k0, k1, k3⟩ := HB2.out.cells
                clear hb
                go_wp2_with fail
                go_region
                go_wp2_with fail
                obtain ⟨m0, m1⟩ := res_set (.int .i64 150) (.int .i64 here) k0 k1
                exact bodyPost_ret (v := .tuple #[.string ⟨#[]⟩, .int .i64 0, .agg #[.int .i64 150, .int .i64 here]]) (by simp [results, Tryz.results135, go_sem, m0, m1, hlt2]) rfl ⟨by obtain ⟨rfl, rfl, rfl, rfl⟩ := HE.out; rfl, below_drewN (HB2.out.fin _ _ _) 1⟩
              · obtain ⟨T, hT⟩ : ∃ T, ptr b[here] b[here + 1] = T := ⟨_, rfl⟩
                have HN := Lib.hid (rd_go (a := a) (next := next) (n := n) hlt hc hh1 hpt)
                have hfv : folV b here g = .tuple #[.int .i64 0, .int .i64 0, .agg #[.int .i64 0, .int .i64 0]] ∨ folV b here g = .tuple #[.int .i64 T, .int .i64 (here + 2 : Nat), .agg #[.int .i64 0, .int .i64 0]] := by
                  right; unfold folV; rw [dif_pos hh1, if_neg hpt, hT]
                have hfv : folV b here g = .tuple #[.int .i64 T, .int .i64 (here + 2 : Nat), .agg #[.int .i64 0, .int .i64 0]] := by unfold folV; rw [dif_pos hh1, if_neg hpt, hT]
                have HF := Lib.hid (fun (wx : World) (h1 : Rdy w wx) => hfv ▸ follow_any (HS.out.below h1.old hhi) (Nat.le_trans hhi h1.old.size) here g hlt hc hg hl)
                rw [hT] at hpt HN
                obtain ⟨E, hE⟩ : ∃ E, here + 2 = E := ⟨_, rfl⟩
                rw [hE] at HF HN
                obtain ⟨nx, hnx⟩ : ∃ nx, (if next = 0 then E else next) = nx := ⟨_, rfl⟩
                rw [hnx] at HN
                have hor : (if (next : Int) = 0 then (E : Int) else next) = nx := by
                  rw [← hnx]; by_cases h : next = 0 <;> simp [h]
                have HOr := Lib.hid (fun gg wx c0 c1 => hor ▸ or_any gg next E wx c0 c1)
                have HRN := Lib.hid (HN.out.symm.trans HRR.out)
                have HO2 := Lib.hid (fun w1 (h : Below wr.heap.size wr w1) => HO.out.below h)
                obtain ⟨cc, hcc⟩ : ∃ cc, b[here].toNat = cc := ⟨_, rfl⟩
                rw [hcc] at HLen t1
                clear hfv stop HN HRR hmid HSr HS HO HR hcc hc hor hnx hE hT
                go_wp2_with fail
                refine HLen.out.mono ?_; rintro e w1 ⟨rfl, hb⟩
                have HB1 := Lib.hid ((HB.out.call hb).alloc (.cells #[.int .i64 0, .int .i64 0] 42))
                have HW1 := Lib.hid (hb.alloc hb.size (.cells #[.int .i64 0, .int .i64 0] 42))
                clear hb
                go_wp2_with fail
                refine (HF.out _ HB1.out).mono ?_; rintro e w2 ⟨rfl, hb⟩
                have HB2 := Lib.hid ((HB1.out.call hb).alloc (.cells #[.int .i64 0, .int .i64 0] 42))
                have HW2 := Lib.hid (have h := bel_call HW1.out hb; h.alloc h.size (.cells #[.int .i64 0, .int .i64 0] 42))
                clear hb
                go_wp2_with fail
                refine (HOr.out _ _ (by simp [go_sem]) (by simp [go_sem])).mono ?_; rintro e w3 ⟨rfl, rfl⟩
                have HB3 := Lib.hid (HB2.out.alloc (.cells #[.int .i64 next, .int .i64 E] 3))
                have HO3 := Lib.hid (HO2.out _ (HW2.out.alloc HW2.out.size (.cells #[.int .i64 next, .int .i64 E] 3)))
                clear HO2
                go_wp2_with fail
                go_roundg T
                case measure => omega
                case rel => exact ⟨nx, n, rfl, rfl, by omega, hn, HO3, HRN, HB3⟩
            · have HE := stop 4 b.length (rd_half hlt hc (by omega))
              have hfv : folV b here g = .tuple #[.int .i64 0, .int .i64 0, .agg #[.int .i64 4, .int .i64 b.length]] := by unfold folV; rw [dif_neg hh1]
              have HF := Lib.hid (fun (wx : World) (h1 : Rdy w wx) => hfv ▸ follow_any (HS.out.below h1.old hhi) (Nat.le_trans hhi h1.old.size) here g hlt hc hg hl)
              obtain ⟨cc, hcc⟩ : ∃ cc, b[here].toNat = cc := ⟨_, rfl⟩
              rw [hcc] at HLen t1
              clear hfv stop HRR hmid HSr HS HO HR hcc hc
              go_wp2_with fail
              refine HLen.out.mono ?_; rintro e w1 ⟨rfl, hb⟩
              have HB1 := Lib.hid ((HB.out.call hb).alloc (.cells #[.int .i64 0, .int .i64 0] 42))
              clear hb
              go_wp2_with fail
              refine (HF.out _ HB1.out).mono ?_; rintro e w2 ⟨rfl, hb⟩
              have HB2 := Lib.hid (HB1.out.call hb)
              have hlt2 := HB2.out.lt
              obtain ⟨k0, k1, k3⟩ := HB2.out.cells
              clear hb
              go_wp2_with fail
              go_region
              go_wp2_with fail
              obtain ⟨m0, m1⟩ := res_set (.int .i64 4) (.int .i64 b.length) k0 k1
              exact bodyPost_ret (v := .tuple #[.string ⟨#[]⟩, .int .i64 0, .agg #[.int .i64 4, .int .i64 b.length]]) (by simp [results, Tryz.results135, go_sem, m0, m1, hlt2]) rfl ⟨by obtain ⟨rfl, rfl, rfl, rfl⟩ := HE.out; rfl, below_drewN (HB2.out.fin _ _ _) 1⟩
          · have t1 : decide ((63 : Int) < b[here].toNat) = false := by simp; omega
            by_cases hsh : b.length < here + (1 + b[here].toNat)
            · have hz : b[here].toNat ≠ 0 := by omega
              have HE := stop 4 b.length (rd_short hlt hz (by omega) hsh)
              have HBy := Lib.hid (fun (wx : World) (h1 : Rdy w wx) => bytes_short (HS.out.below h1.old hhi) hl here (1 + b[here].toNat) (by omega) hsh (by omega))
              have hcb : b[here].toNat < 64 := by omega
              obtain ⟨cc, hcc⟩ : ∃ cc, b[here].toNat = cc := ⟨_, rfl⟩
              rw [hcc] at HLen t1 HBy hcb
              push_cast at HBy
              clear stop HRR hmid HSr HS HO HR hcc hc hsh hz
              go_wp2_with fail
              refine HLen.out.mono ?_; rintro e w1 ⟨rfl, hb⟩
              have HB1 := Lib.hid ((HB.out.call hb).alloc (.cells #[.int .i64 0, .int .i64 0] 42))
              have HW1 := Lib.hid (hb.alloc hb.size (.cells #[.int .i64 0, .int .i64 0] 42))
              have hlt0 := (HB.out.call hb).lt
              clear hb
              go_wp2_with fail
              refine (HBy.out _ HB1.out).mono ?_; rintro e w2 ⟨vl, gl, rfl, ho, hg1, hg2, hb⟩
              obtain ⟨f0, f1, f3⟩ := res_cells (show Below (w1.heap.size + 1) _ w2 from by simpa using hb)
              have hlt2 : w1.heap.size < w2.heap.size := below_lt hb
              have HB2 := Lib.hid (HB1.out.call hb)
              have HW2 := Lib.hid (bel_call HW1.out hb)
              have HOw := Lib.hid ho
              have hgl : w1.heap.size < gl := by simp at hg1; omega
              clear hb ho hg1 hg2
              have hne : w.heap.size ≠ w1.heap.size := Nat.ne_of_lt hlt0
              have hlt3 := HB2.out.lt
              obtain ⟨k0, k1, k3⟩ := HB2.out.cells
              go_wp2_with fail
              go_region
              go_wp2_with fail
              have HB4 := (HB2.out.set (p := ⟨w1.heap.size, 0, none⟩) hlt0 (.int .i64 4)).set (p := ⟨w1.heap.size, 1, none⟩) hlt0 (.int .i64 b.length)
              obtain ⟨j0, j1, j3⟩ := HB4.cells
              obtain ⟨m0, m1⟩ := res_set (.int .i64 4) (.int .i64 b.length) j0 j1
              exact bodyPost_ret (v := .tuple #[.string ⟨#[]⟩, .int .i64 0, .agg #[.int .i64 4, .int .i64 b.length]]) (by simp [results, Tryz.results135, go_sem, m0, m1]) rfl ⟨by obtain ⟨rfl, rfl, rfl, rfl⟩ := HE.out; rfl, below_drewN (HB4.end_ _ _) 1⟩
            · obtain ⟨m, hm⟩ : ∃ m, (b.drop here).take (1 + b[here].toNat) = m := ⟨_, rfl⟩
              have hml : m.length = 1 + b[here].toNat := by rw [← hm, List.length_take, List.length_drop]; omega
              have HBy := Lib.hid (fun (wx : World) (h1 : Rdy w wx) => bytes_cut (HS.out.below h1.old hhi) hl here (1 + b[here].toNat) (by omega))
              rw [hm] at HBy
              have hcb : b[here].toNat < 64 := by omega
              by_cases hz : b[here].toNat = 0
              · have hm0 : m = [0] := by
                  rw [← hm, hz, List.drop_eq_getElem_cons hlt, List.take_succ_cons, List.take_zero]
                  congr 1
                  exact UInt8.toNat_inj.mp hz
                obtain ⟨nx, hnx⟩ : ∃ nx, (if next = 0 then here + 1 else next) = nx := ⟨_, rfl⟩
                have hor : (if (next : Int) = 0 then (here + 1 : Int) else next) = nx := by
                  rw [← hnx]; by_cases h : next = 0 <;> simp [h]
                have HOr := Lib.hid (fun gg wx c0 c1 => hor ▸ or_any gg next (here + 1) wx c0 c1)
                have he := (rd_zero (a := a) (part := g) (next := next) (n := n) hlt hz).symm.trans HRR.out
                rw [hnx, ← hm0] at he
                have HE := Lib.hid he
                have HCV := Lib.hid (fun a5 c5 (wx : World) (h : OwnU wx (w.heap.size + 1) (.slice a5 (n.length + 1) c5) (n ++ m)) => back_U h)
                rw [hz] at HLen t1 HBy hcb hml hsh
                push_cast at HBy
                clear stop HRR hmid HSr HS HR hc hm hnx hor hm0 he hz
                rw [Nat.add_zero] at hml
                go_wp2_with fail
                refine HLen.out.mono ?_; rintro e w1 ⟨rfl, hb⟩
                have HB1 := Lib.hid ((HB.out.call hb).alloc (.cells #[.int .i64 0, .int .i64 0] 42))
                have HW1 := Lib.hid (hb.alloc hb.size (.cells #[.int .i64 0, .int .i64 0] 42))
                have hlt0 := (HB.out.call hb).lt
                have hlt9 := hb.size
                clear hb
                go_wp2_with fail
                refine (HBy.out _ HB1.out).mono ?_; rintro e w2 ⟨vl, gl, rfl, ho, hg1, hg2, hb⟩
                obtain ⟨f0, f1, f3⟩ := res_cells (show Below (w1.heap.size + 1) _ w2 from by simpa using hb)
                have hlt2 : w1.heap.size < w2.heap.size := below_lt hb
                have hgl : w1.heap.size < gl := by simp at hg1; omega
                have HB4 := Lib.hid (((HB1.out.call hb).set (p := ⟨w1.heap.size, 0, none⟩) hlt0 (.int .i64 0)).set (p := ⟨w1.heap.size, 1, none⟩) hlt0 (.int .i64 0))
                have HW4 := Lib.hid (((bel_call HW1.out hb).setCell (p := ⟨w1.heap.size, 0, none⟩) hlt9 (.int .i64 0)).setCell (p := ⟨w1.heap.size, 1, none⟩) hlt9 (.int .i64 0))
                obtain ⟨a5, c5, w5, hr5, ho5, hb5⟩ := app_own (B := w.heap.size + 1) (HO.out.below HW4.out) ((ho.set (p := ⟨w1.heap.size, 0, none⟩) (by show gl ≠ w1.heap.size; omega) (.int .i64 0)).set (p := ⟨w1.heap.size, 1, none⟩) (by show gl ≠ w1.heap.size; omega) (.int .i64 0)) (by omega) (by omega) (by have := HB4.out.lt; omega)
                rw [hml] at hr5 ho5
                have HR5 := Lib.hid hr5
                have HO5 := Lib.hid ho5
                have HB5 := Lib.hid (HB4.out.on hb5)
                have hlt5 := (HB4.out.on hb5).lt
                obtain ⟨k0, k1, k3⟩ := (HB4.out.on hb5).cells
                clear hb ho hg1 hg2 hr5 ho5 hb5
                go_wp2_with (at_builtin; refine wpList_append_run (.tmp 71) (.tmp 72) 28 28 rfl rfl rfl rfl HR5.out ?_)
                have hcv := HCV.out a5 c5
                go_region_held3 (fun wx => OwnU wx (w.heap.size + 1) (.slice a5 (n.length + 1) c5) (n ++ m)) (first | exact HO5.out | exact HO5.out.below ((Below.refl _ _).alloc (Nat.le_refl _) _).drew | exact (((HO5.out.setCell (p := ⟨w.heap.size, 0, none⟩) (Nat.lt_succ_self _) _).setCell (p := ⟨w.heap.size, 1, none⟩) (Nat.lt_succ_self _) _).below ((Below.refl _ _).alloc (Nat.le_refl _) _).drew)) (first | (go_at_call 145; refine (HOr.out _ _ (by simp [go_sem]) (by simp [go_sem])).mono ?_; rintro e w6 ⟨rfl, rfl⟩))
                go_wp2_with fail
                obtain ⟨m0, m1⟩ := res_set (.int .i64 0) (.int .i64 0) k0 k1
                exact bodyPost_ret (v := .tuple #[.string (bs (n ++ m)), .int .i64 nx, .agg #[.int .i64 0, .int .i64 0]]) (by simp [results, Tryz.results135, go_sem, m0, m1, hlt5]) rfl ⟨by have := HE.out; simp only [Prod.mk.injEq] at this; obtain ⟨rfl, rfl, rfl, rfl⟩ := this; rfl, below_drewN (HB5.out.fin _ _ _) 1⟩
              · by_cases hlong : 254 < n.length + (1 + b[here].toNat)
                · have HE := stop 3 a (rd_long hlt hz (by omega) hsh hlong)
                  obtain ⟨cc, hcc⟩ : ∃ cc, b[here].toNat = cc := ⟨_, rfl⟩
                  rw [hcc] at HLen t1 HBy hcb hml hz hlong hm
                  obtain ⟨E, hE⟩ : ∃ E, here + (1 + cc) = E := ⟨_, rfl⟩
                  rw [hcc, hE] at hsh
                  rw [hE] at HBy
                  push_cast at HBy
                  have tz : ((cc : Int) == 0) = false := by simp; omega
                  have tl : decide ((255 : Int) ≤ n.length + (1 + cc)) = true := by simp; omega
                  clear stop HRR hmid HSr HS HR hcc hc hm hE
                  go_wp2_with fail
                  refine HLen.out.mono ?_; rintro e w1 ⟨rfl, hb⟩
                  have HB1 := Lib.hid ((HB.out.call hb).alloc (.cells #[.int .i64 0, .int .i64 0] 42))
                  have HW1 := Lib.hid (hb.alloc hb.size (.cells #[.int .i64 0, .int .i64 0] 42))
                  have hlt0 := (HB.out.call hb).lt
                  have hlt9 := hb.size
                  clear hb
                  go_wp2_with fail
                  refine (HBy.out _ HB1.out).mono ?_; rintro e w2 ⟨vl, gl, rfl, ho, hg1, hg2, hb⟩
                  obtain ⟨f0, f1, f3⟩ := res_cells (show Below (w1.heap.size + 1) _ w2 from by simpa using hb)
                  have hlt2 : w1.heap.size < w2.heap.size := below_lt hb
                  have hgl : w1.heap.size < gl := by simp at hg1; omega
                  have HB4 := Lib.hid (((HB1.out.call hb).set (p := ⟨w1.heap.size, 0, none⟩) hlt0 (.int .i64 0)).set (p := ⟨w1.heap.size, 1, none⟩) hlt0 (.int .i64 0))
                  have HW4 := Lib.hid (((bel_call HW1.out hb).setCell (p := ⟨w1.heap.size, 0, none⟩) hlt9 (.int .i64 0)).setCell (p := ⟨w1.heap.size, 1, none⟩) hlt9 (.int .i64 0))
                  obtain ⟨a5, c5, w5, hr5, ho5, hb5⟩ := app_own (B := w.heap.size + 1) (HO.out.below HW4.out) ((ho.set (p := ⟨w1.heap.size, 0, none⟩) (by show gl ≠ w1.heap.size; omega) (.int .i64 0)).set (p := ⟨w1.heap.size, 1, none⟩) (by show gl ≠ w1.heap.size; omega) (.int .i64 0)) (by omega) (by omega) (by have := HB4.out.lt; omega)
                  rw [hml] at hr5 ho5
                  have HR5 := Lib.hid hr5
                  have HO5 := Lib.hid ho5
                  have HB5 := Lib.hid (HB4.out.on hb5)
                  have hlt5 := (HB4.out.on hb5).lt
                  obtain ⟨k0, k1, k3⟩ := (HB4.out.on hb5).cells
                  clear hb ho hg1 hg2 hr5 ho5 hb5
                  go_wp2_with (at_builtin; refine wpList_append_run (.tmp 71) (.tmp 72) 28 28 rfl rfl rfl rfl HR5.out ?_)
                  obtain ⟨m0, m1⟩ := res_set (.int .i64 3) (.int .i64 a) k0 k1
                  exact bodyPost_ret (v := .tuple #[.string ⟨#[]⟩, .int .i64 0, .agg #[.int .i64 3, .int .i64 a]]) (by simp [results, Tryz.results135, go_sem, m0, m1]) rfl ⟨by obtain ⟨rfl, rfl, rfl, rfl⟩ := HE.out; rfl, HB5.out.end_ _ _⟩
                · have HRN := Lib.hid ((rd_label (a := a) (part := g) (next := next) (n := n) hlt hz (by omega) hsh hlong).symm.trans HRR.out)
                  rw [hm] at HRN
                  obtain ⟨cc, hcc⟩ : ∃ cc, b[here].toNat = cc := ⟨_, rfl⟩
                  rw [hcc] at HLen t1 HBy hcb hml hz hlong hm HRN
                  obtain ⟨E, hE⟩ : ∃ E, here + (1 + cc) = E := ⟨_, rfl⟩
                  rw [hcc, hE] at hsh
                  rw [hE] at HBy HRN
                  push_cast at HBy
                  have hEh : here < E := by omega
                  have tz : ((cc : Int) == 0) = false := by simp; omega
                  have tl : decide ((255 : Int) ≤ n.length + (1 + cc)) = false := by simp; omega
                  clear stop HRR hmid HSr HS HR hcc hc hm hE
                  go_wp2_with fail
                  refine HLen.out.mono ?_; rintro e w1 ⟨rfl, hb⟩
                  have HB1 := Lib.hid ((HB.out.call hb).alloc (.cells #[.int .i64 0, .int .i64 0] 42))
                  have HW1 := Lib.hid (hb.alloc hb.size (.cells #[.int .i64 0, .int .i64 0] 42))
                  have hlt0 := (HB.out.call hb).lt
                  have hlt9 := hb.size
                  clear hb
                  go_wp2_with fail
                  refine (HBy.out _ HB1.out).mono ?_; rintro e w2 ⟨vl, gl, rfl, ho, hg1, hg2, hb⟩
                  obtain ⟨f0, f1, f3⟩ := res_cells (show Below (w1.heap.size + 1) _ w2 from by simpa using hb)
                  have hlt2 : w1.heap.size < w2.heap.size := below_lt hb
                  have hgl : w1.heap.size < gl := by simp at hg1; omega
                  have HB4 := Lib.hid (((HB1.out.call hb).set (p := ⟨w1.heap.size, 0, none⟩) hlt0 (.int .i64 0)).set (p := ⟨w1.heap.size, 1, none⟩) hlt0 (.int .i64 0))
                  have HW4 := Lib.hid (((bel_call HW1.out hb).setCell (p := ⟨w1.heap.size, 0, none⟩) hlt9 (.int .i64 0)).setCell (p := ⟨w1.heap.size, 1, none⟩) hlt9 (.int .i64 0))
                  obtain ⟨a5, c5, w5, hr5, ho5, hb5⟩ := app_own (B := w.heap.size + 1) (HO.out.below HW4.out) ((ho.set (p := ⟨w1.heap.size, 0, none⟩) (by show gl ≠ w1.heap.size; omega) (.int .i64 0)).set (p := ⟨w1.heap.size, 1, none⟩) (by show gl ≠ w1.heap.size; omega) (.int .i64 0)) (by omega) (by omega) (by have := HB4.out.lt; omega)
                  rw [hml] at hr5 ho5
                  have HR5 := Lib.hid hr5
                  have HO5 := Lib.hid ho5
                  have HB5 := Lib.hid (HB4.out.on hb5)
                  have hlt5 := (HB4.out.on hb5).lt
                  obtain ⟨k0, k1, k3⟩ := (HB4.out.on hb5).cells
                  clear hb ho hg1 hg2 hr5 ho5 hb5
                  go_wp2_with (at_builtin; refine wpList_append_run (.tmp 71) (.tmp 72) 28 28 rfl rfl rfl rfl HR5.out ?_)
                  go_roundg (b.length - E)
                  case measure => omega
                  case rel => exact ⟨E, n ++ m, rfl, rfl, rfl, by omega, by rw [List.length_append]; omega, HO5, HRN, HB5⟩
      · have he : here = b.length := by omega
        have HE := stop 4 b.length (rd_end (by omega))
        have hv : lenV b here = .tuple #[.int .i64 0, .agg #[.int .i64 4, .int .i64 b.length]] := by unfold lenV; rw [dif_neg hlt, he]
        rw [hv] at HLen
        clear hv stop HRR HSr HS HO HR he hlt
        go_wp2_with fail
        refine HLen.out.mono ?_; rintro e w1 ⟨rfl, hb⟩
        have HB1 := Lib.hid (HB.out.call hb)
        have hlt1 := HB1.out.lt
        obtain ⟨k0, k1, k3⟩ := HB1.out.cells
        clear hb
        go_wp2_with fail
        go_region
        go_wp2_with fail
        obtain ⟨m0, m1⟩ := res_set (.int .i64 4) (.int .i64 b.length) k0 k1
        exact bodyPost_ret (v := .tuple #[.string ⟨#[]⟩, .int .i64 0, .agg #[.int .i64 4, .int .i64 b.length]]) (by simp [results, Tryz.results135, go_sem, m0, m1, hlt1]) rfl ⟨by obtain ⟨rfl, rfl, rfl, rfl⟩ := HE.out; rfl, below_drewN (HB1.out.fin _ _ _) 1⟩
end Go.Proofs.YteegekpanadmkaaGreat

/-
  Read, of any bytes, at any place.
-/
namespace Go.Proofs.YteegekpanadmkaaGreat
open Go.RowKit Go.Shelf
set_option linter.unusedVariables false
set_option maxRecDepth 100000

set_option maxRecDepth 100000 in
set_option maxHeartbeats 1000000 in
theorem read_any {w : World} {lo hi : Nat} {v : Value} {b : List UInt8} (h : Sl w lo hi v (iz b)) (hhi : hi ≤ w.heap.size) (hl : b.length ≤ 1000000) (a : Int) :
    Calls Tryz.prog 135 #[v, .int .i64 a] w (Tells w (gotV (rda b a))) := by
  by_cases ha : a < 0 ∨ (b.length : Int) < a
  · have e : rda b a = ([], 0, 5, 0) := by unfold rda; rw [if_pos ha]
    rw [e]
    obtain ⟨ad, c, rfl, _⟩ := h
    rw [iz_len]
    go_enter Tryz.func135, Tryz.ntmps135
    go_wp2
    go_step3
    go_wp2
    all_goals
      simp [Exit.noGoto, bodyPost, results, Tryz.results135, go_sem]
      exact ⟨rfl, (Below.refl _ _).alloc (Nat.le_refl _) _⟩
  · obtain ⟨p, rfl⟩ : ∃ p : Nat, a = p := ⟨a.toNat, by omega⟩
    have e : rda b p = rd b p p p 0 [] := by unfold rda; rw [if_neg ha, Int.toNat_natCast]
    rw [e]
    exact read_core h hhi hl p (by omega) _ _ _ _ rfl
end Go.Proofs.YteegekpanadmkaaGreat
