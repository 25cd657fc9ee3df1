/-
  append onto a row of the call's own, whatever is appended; CopyBytes.
-/
import Derived.Test.YtbfgmenjkneijaaWd
namespace Go.Proofs.Ytbfgmenjkneijaa
open Go.RowKit
set_option linter.unusedVariables false

/-- v is a row of the call's own, in blocks from B on, of which the first bytes are l. -/
def OwnR (w : World) (B : Nat) (v : Value) (l : List Int) : Prop := w.ownsRow B 5 1 v l.length (l.map (Value.int .u8))

theorem OwnR.sl {w : World} {B : Nat} {v : Value} {l : List Int} (h : OwnR w B v l) : Sl w B w.heap.size v l := by
  have hlt := World.ownsRow.lt h
  rcases h.2 with ⟨rfl, h0⟩ | ⟨g, cap, cur, rfl, hB, hg, hc, _⟩
  · have : l = [] := List.eq_nil_of_length_eq_zero h0
    subst this
    exact ⟨none, 0, rfl, by simp, fun _ => rfl, fun h => by simp at h⟩
  · refine ⟨_, cap, rfl, hc, fun h => by simp at h, fun _ => ⟨g, 0, rfl, hB, (hlt g rfl).2, fun j hj => ?_⟩⟩
    have := World.ownsRow.cells h (g := g) rfl j (.int .u8 (l.getD j 0)) (by rw [List.getElem?_map, List.getElem?_eq_getElem hj, List.getD, List.getElem?_eq_getElem hj]; rfl)
    rw [WideShapes.add_plain] at this
    exact this

/-- append onto a row of the call's own, whatever is appended. -/
theorem wpList_app {w : World} {ops : Array Oper} {rest : List Oper} {o : Oper} {a : Act} {Q : Exit → Act → World → Prop} (hgd : o.guard = none) (s x : Operand)
    (ho : o.op = .call { callee := .builtin .append, args := #[s, x], argTypes := #[22, 22] })
    (B lo hi : Nat) (v xv : Value) (l l' : List Int) (hs : a.eval s = v) (hx : a.eval x = xv) (hown : OwnR w B v l) (hsl : Sl w lo hi xv l') (hb : l.length + l'.length ≤ 1000000) (hB : B ≤ w.heap.size)
    (h : ∀ v' w', Hid (OwnR w' B v' (l ++ l')) → Hid (Below B w w') → wpList Try.prog ops Q rest (a.put o.dst v') w') : wpList Try.prog ops Q (o :: rest) a w := by
  obtain ⟨i0, hi, hz0, hz1, hz2⟩ := info_parts Try.info5
  have hown' : w.ownsRow B 5 1 v l.length (l.map (Value.int .u8)) := hown
  obtain ⟨ad, c, rfl, hc, hn, hp⟩ := hsl
  have hrow : ∀ k, v.ownBlock = some k → B ≤ k := fun k hk => (World.ownsRow.lt hown k hk).1
  rcases ad with _ | ad
  · have hc0 := hn rfl
    subst hc0
    have h0 : l' = [] := List.eq_nil_of_length_eq_zero (by omega)
    subst h0
    exact wpList_append_own_none hgd s x 22 ho B 5 i0 1 Try.underlying22 hi v l.length (l.map (Value.int .u8)) hs hown' hx (h v w (by rw [List.append_nil]; exact hown) (Below.refl _ _))
  · refine wpList_append_own w hgd s x 22 ho B 5 i0 (.int .u8 0) 1 1 Try.underlying22 hi hz0 hz1 hz2 rfl (by decide) v l.length (l.map (Value.int .u8)) hs hown' ad l'.length c (l'.map (Value.int .u8)) hx (by simp) ?_ (ints_oneCell _ _) (by unfold maxLen; omega) (by omega) hB ?_
    · intro j u hu
      rw [List.getElem?_map] at hu
      obtain ⟨n, hq, rfl⟩ := Option.map_eq_some_iff.mp hu
      have hj : j < l'.length := (List.getElem?_eq_some_iff.mp hq).1
      obtain ⟨b, off, he, _, _, hcell⟩ := hp (by omega)
      injection he with he
      subst he
      rw [WideShapes.add_plain, hcell j hj, List.getD, hq]; rfl
    · intro v' w' h1 h2 _
      refine h v' w' ?_ ((Below.refl _ _).grown h2 hB hrow)
      show w'.ownsRow B 5 1 v' (l ++ l').length ((l ++ l').map (Value.int .u8))
      rw [List.length_append, List.map_append]
      exact h1

def CopyPost (w : World) (l : List Int) (e : Ending) (w' : World) : Prop := ∃ v, e = .returned v ∧ OwnR w' w.heap.size v l ∧ Below w.heap.size w w'

set_option maxHeartbeats 1000000 in
theorem copy_any {w : World} {lo hi : Nat} {v : Value} {l : List Int} (h : Sl w lo hi v l) (hl : l.length ≤ 1000) : Calls Try.prog 23 #[v] w (CopyPost w l) := by
  have hb1 : Below w.heap.size w (w.alloc (.cells #[] 5)) := (Below.refl _ _).alloc (Nat.le_refl _) _
  have hs1 : Sl (w.alloc (.cells #[] 5)) lo hi v l := by
    obtain ⟨a, c, rfl, hc, hn, hp⟩ := h
    exact ⟨a, c, rfl, hc, hn, fun h0 => by
      obtain ⟨b, off, rfl, h1, h2, hx⟩ := hp h0
      exact ⟨b, off, rfl, h1, h2, fun j hj => cell_later hb1 (hx j hj)⟩⟩
  have HS := Lib.hid hs1
  have HB := Lib.hid hb1
  clear h hs1 hb1
  go_enter Try.func23, Try.ntmps23
  go_wp2_with (at_builtin; refine wpList_app rfl (.tmp 3) (.tmp 4) rfl w.heap.size lo hi _ v [] l rfl rfl ?c1 HS.out ?c2 ?c3 ?_)
  case c1 => exact World.ownsRow_made w #[] 0 (Nat.le_refl _) (by decide) (by simp)
  case c2 => simp; omega
  case c3 => simp
  intro v' w1 HO HB1
  have HB2 := Lib.hid (HB.out.trans HB1.out)
  clear HB HB1 HS
  go_wp2_with fail
  go_ret
  exact ⟨v', rfl, HO.out, HB2.out⟩

end Go.Proofs.Ytbfgmenjkneijaa
