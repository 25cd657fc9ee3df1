/-
  AppendSeq, Collect, Reverse; downward.
-/
import Derived.Test.YtibaeklpgfadpaaTn
import Derived.Lib.LazyBuf
namespace Go.Proofs.Ytibaeklpgfadpaa
open Go.RowKit Go.Shelf
set_option linter.unusedVariables false
attribute [local go_sem] Oper.semAt_some

/-- A row of the call's own is told. -/
def GivesT (w : World) (l : List (List UInt8)) (e : Ending) (w' : World) : Prop := ∃ v, e = .returned v ∧ OwnT w' w.heap.size v l ∧ Below w.heap.size w w'

/-- One more text in the box's row. -/
theorem seq_step {w W : World} {b B : Nat} {v : Value} {l : List (List UInt8)} (y : List UInt8) (hx : Bx W b v) (ho : OwnT W B v l) (hbB : b < B) (hB : B ≤ W.heap.size) (hl : l.length + 1 ≤ 1000000) (hw : Below w.heap.size w W) (hwb : w.heap.size ≤ b) :
    ∃ g c w3, (Builtin.append_ #[22, 22] 22 #[v, .slice (some ⟨W.heap.size, 0, none⟩) 1 1]).run Try.prog (W.alloc (.cells #[.string (bs y)] 9)) = .ok (.slice g (l.length + 1) c) w3 ∧
      w3.cell? ⟨b, 0, none⟩ = some v ∧ w3.frozen? ⟨b, 0, none⟩ = false ∧
      Hid (Aside (fun x => x = b ∨ B ≤ x) W (w3.setCell ⟨b, 0, none⟩ (.slice g (l.length + 1) c)) ∧ Bx (w3.setCell ⟨b, 0, none⟩ (.slice g (l.length + 1) c)) b (.slice g (l.length + 1) c) ∧
        OwnT (w3.setCell ⟨b, 0, none⟩ (.slice g (l.length + 1) c)) B (.slice g (l.length + 1) c) (l ++ [y]) ∧ Below w.heap.size w (w3.setCell ⟨b, 0, none⟩ (.slice g (l.length + 1) c))) :=
  app_step y hx ho hbB hB (Below.refl _ _) hl hw hwb

set_option maxHeartbeats 2000000 in
theorem appendSeq_any {gf : Nat} {lb : Array Value} {K : Nat → Prop} {l : List (List UInt8)} {S : World → Prop} {w : World}
    (eg : ∀ args w, (callFunc gf args).run Try.prog w = .ok (.enter gf args) w) (hseq : SeqT Try.prog gf lb K (fun _ => False) (l.map bs) none S) (hS : ∀ A, Below w.heap.size w A → S A)
    (hSK : ∀ A B, S A → (∀ b, K b → B.heap[b]? = A.heap[b]?) → A.heap.size ≤ B.heap.size → S B) (hK : ∀ b, K b → b < w.heap.size) (hl : l.length ≤ 900000) :
    Calls Try.prog 62 #[.slice none 0 0, .func (.func gf) #[] lb] w (GivesT w l) := by
  refine calls_of_wp_marks Try.func62 rfl ?_
  simp only [Try.ntmps62, List.size_toArray, List.length_cons, List.length_nil, Nat.reduceAdd, Nat.reduceSub, Array.replicate_succ,
     Array.replicate_zero, List.push_toArray, List.append_toArray, List.nil_append, List.cons_append]
  go_wp2
  apply wp_rangeFunc_T (D := w.heap.size + 1) (hD := by simp) (K := K) (G := fun _ => False) (M := fun b => b = w.heap.size ∨ w.heap.size + 3 ≤ b) (fin := none) (hg := rfl) (eg := eg) (hseq := hseq)
      (I := fun k W => ∃ v, Bx W w.heap.size v ∧ OwnT W (w.heap.size + 3) v (l.take k) ∧ Below w.heap.size w W) (Ix := fun _ _ _ => False)
  case hassign =>
    intro l x W K hK
    gi_wp2
    exact hK
  case hSt => exact hS _ ((Below.refl _ w).alloc (Nat.le_refl _) _)
  case hStK => exact hSK
  case hK => intro b hb; have := hK b hb; omega
  case hM => intro b hb; exact ⟨fun h => by have := hK b h; omega, by omega, by omega⟩
  case hGK => exact fun _ h => h.elim
  case hps => rfl
  case hI =>
    rintro k A B ⟨v, h1, h2, h3⟩ ha
    exact ⟨v, h1.aside ha (by simp; omega), h2.aside ha (fun b hb => by simp; omega), below_aside h3 ha fun b hb => ⟨Nat.lt_of_lt_of_le hb h3.size, by simp; omega⟩⟩
  case hIx => exact fun _ _ _ _ h _ => h
  case h0 => exact ⟨.slice none 0 0, ⟨by simp [go_sem], by simp [go_sem]⟩, by rw [List.take_zero]; exact OwnT.nil _ _, (Below.refl _ _).alloc (Nat.le_refl _) _⟩
  case hstop => exact fun _ _ _ _ h => h.elim
  case hpanic => exact fun _ h => by cases h
  case hbody =>
    rintro ll k x W hx hs ⟨v, hbx, hown, hb⟩
    rw [List.getElem?_map] at hx
    obtain ⟨y, hy, rfl⟩ := Option.map_eq_some_iff.mp hx
    have hk : k < l.length := (List.getElem?_eq_some_iff.mp hy).1
    have e : l.take (k + 1) = l.take k ++ [y] := by rw [List.take_add_one, hy]; rfl
    have hlen : (l.take k).length + 1 ≤ 1000000 := by rw [List.length_take]; omega
    obtain ⟨L, hL⟩ : ∃ L, l.take k = L := ⟨_, rfl⟩
    rw [hL] at hown e hlen
    clear hL
    have HE := Lib.hid e
    obtain ⟨g, c, w3, hrun, hc3, hf3, HI⟩ := seq_step (w := w) (B := w.heap.size + 3) y hbx hown (by omega) (by omega) hlen hb (Nat.le_refl _)
    have HR := Lib.hid hrun
    clear hb hx hown hy hk e hrun
    obtain ⟨hc, hf⟩ := hbx
    gi_wp2_with (gi_at_builtin; refine wpListIn_append_run (.tmp 8) (.tmp 10) 22 22 rfl rfl rfl rfl HR.out ?_)
    exact ⟨HI.out.1, _, HI.out.2.1, by rw [HE.out]; exact HI.out.2.2.1, HI.out.2.2.2⟩
  case hdone =>
    rintro _ W ⟨v, hbx, ho, hb⟩ _ hD
    rw [List.length_map, List.take_length] at ho
    have hp : Below w.heap.size w (W.putObj (w.heap.size + 1) (.deferred none)) := below_putObj hb (by omega)
    have ho2 : OwnT (W.putObj (w.heap.size + 1) (.deferred none)) (w.heap.size + 3) v l := ho.aside (G := fun b => b = w.heap.size + 1) (Aside.putObj _ _ rfl) (fun b hb => by omega)
    have HP := Lib.hid (And.intro (ho2.mono (show w.heap.size ≤ w.heap.size + 3 by omega)) hp)
    obtain ⟨hc, hf⟩ := hbx
    clear hb hp ho ho2
    go_wp2
    exact marks_ret hD _ (results_tmp rfl _ _ _) ⟨v, rfl, HP.out⟩

set_option maxHeartbeats 400000 in
theorem collect_any {gf : Nat} {lb : Array Value} {w : World} {l : List (List UInt8)} (h : Calls Try.prog 62 #[.slice none 0 0, .func (.func gf) #[] lb] w (GivesT w l)) :
    Calls Try.prog 53 #[.func (.func gf) #[] lb] w (GivesT w l) := by
  have H := Lib.hid h
  clear h
  go_enter Try.func53, Try.ntmps53
  go_wp2_with (go_at_call 62; refine H.out.mono ?_; rintro e w1 ⟨v, rfl, ho, hb⟩; have HO := Lib.hid ho; have HB := Lib.hid hb; clear ho hb)
  go_ret
  exact ⟨v, rfl, HO.out, HB.out⟩

/-- Reverse, at a row of the call's own. -/
theorem reverse_any {w : World} {B : Nat} {v : Value} {l : List (List UInt8)} (h : OwnT w B v l) (hl : l.length ≤ 1000000) :
    Calls Try.prog 54 #[v] w fun e w' => e = .returned (.tuple #[]) ∧ St w' B w.heap.size v l.reverse ∧ Aside (fun b => B ≤ b) w w' := by
  rcases id h with ⟨rfl, h0⟩ | ⟨g, cap, rfl, hB, hc, hm, hg⟩
  · have : l = [] := by simpa using h0
    subst this
    refine (Try.slices_Reverse_string_empty none 0 w).mono ?_
    rintro e w' ⟨rfl, rfl⟩
    exact ⟨rfl, St.nil _ _ _, Aside.refl _ _⟩
  · rw [List.length_map] at hc ⊢
    have hcell : ∀ i, i < l.length → w.cell? ⟨g, 0 + i, none⟩ = some (.string (bs (l.getD i []))) := fun i hi => by
      rw [Nat.zero_add, World.cell?, hg]
      simp [List.getElem?_append_left, hi]
      rfl
    have hgl := (h.lt g rfl).2
    refine (Try.slices_Reverse_string_cells g 0 l.length cap (fun i => bs (l.getD i [])) w (by omega) hcell (fun j _ => by simp [World.frozen?, hg])).mono ?_
    rintro e w' ⟨rfl, q, rfl⟩
    have hst : Lib.strsOf (fun i => bs (l.getD i [])) l.length = l := by
      unfold Lib.strsOf
      apply List.ext_getElem
      · simp
      · intro i h1 h2
        simp [bs, h2]
    rw [hst]
    have hb : Below B w ((w.drewN q).setCells g 0 (l.reverse.map encStr)) := below_setCells hB _ _ _ (below_drewN (Below.refl _ _) _)
    refine ⟨rfl, ⟨_, cap, by rw [List.length_reverse], by rw [List.length_reverse]; exact hc, fun h => by simp at h, fun _ => ⟨g, 0, rfl, hB, hgl, fun j hj => ?_⟩⟩, Aside.of_below hb fun k hk hg => by omega⟩
    have hj' : j < (l.reverse.map encStr).length := by simpa using hj
    rw [World.cell?_setCells_in g _ 0 (w.drewN q) (fun i hi => by
      have hi' : i < l.length := by simpa using hi
      have := hcell i hi'
      show ((w.drewN q).cell? ⟨g, 0 + i, none⟩).isSome = true
      have e : (w.drewN q).cell? ⟨g, 0 + i, none⟩ = w.cell? ⟨g, 0 + i, none⟩ := rfl
      rw [e, this]; rfl) j hj']
    congr 1
    rw [List.getElem_map, List.getD, List.getElem?_eq_getElem hj]
    rfl

/-- downward's answer: the labels of the lower form, the last one first. -/
def down (n : List UInt8) : List (List UInt8) := (labs (low n)).reverse

def DownPost (w : World) (n : List UInt8) (e : Ending) (w' : World) : Prop := ∃ v, e = .returned v ∧ St w' w.heap.size w'.heap.size v (down n) ∧ Below w.heap.size w w'

theorem low_len (n : List UInt8) : (low n).length = n.length := by simp [low]

set_option maxHeartbeats 1000000 in
theorem down_any (n : List UInt8) (hn : n.length ≤ 900000) (w : World) : Calls Try.prog 41 #[.string (bs n)] w (DownPost w n) := by
  have hlen := labs_len (low n)
  rw [low_len] at hlen
  have HC : Hid (∀ w1 : World, Calls Try.prog 53 #[.func (.func 50) #[] #[.pointer (some ⟨w1.heap.size, 0, none⟩)]] (w1.alloc (.cells #[.string (bs (low n))] 9)) (GivesT (w1.alloc (.cells #[.string (bs (low n))] 9)) (labs (low n)))) := fun w1 =>
    collect_any (appendSeq_any (w := w1.alloc (.cells #[.string (bs (low n))] 9)) (enters_of Try.func50 (by kernel_rfl) rfl) (labels1_seq (low n) w1.heap.size (by rw [low_len]; omega))
      (fun A hA => (hA.cell (p := ⟨w1.heap.size, 0, none⟩) (by simp)).trans (by simp [go_sem]))
      (fun A B hA hk _ => (World.cell?_of_block (a := ⟨w1.heap.size, 0, none⟩) (hk _ rfl)).trans hA) (fun b hb => by simp; omega) (by omega))
  have HLW := Lib.hid (fun w => lower_any n (by omega) w)
  have hlen2 : (labs (low n)).length ≤ 900000 := by omega
  clear hlen
  go_enter Try.func41, Try.ntmps41
  go_wp2_with (first | (go_at_call 24; refine (HLW.out _).mono ?_; rintro e w1 ⟨rfl, hb⟩; have HB1 := Lib.hid hb; clear hb) | (go_at_call 36; refine (labels_any _ _).mono ?_; rintro e w2 ⟨rfl, rfl⟩) | (go_at_call 53; refine (HC.out _).mono ?_; rintro e w3 ⟨v, rfl, ho, hb⟩; have HO := Lib.hid ho; have HB3 := Lib.hid hb; clear ho hb) | (go_at_call 54; refine (reverse_any HO.out (by omega)).mono ?_; rintro e w4 ⟨rfl, hst, ha⟩; have HST := Lib.hid hst; have HA := Lib.hid ha; clear hst ha))
  go_ret
  have hb3 := HB3.out
  simp only [World.size_alloc] at hb3
  have h1 := HB1.out.size
  refine ⟨v, rfl, HST.out.wide (by simp; omega) HA.out.size, ?_⟩
  have hb12 : Below w.heap.size w (w1.alloc (.cells #[.string (bs (low n))] 9)) := HB1.out.alloc h1 _
  have hb13 : Below w.heap.size w w3 := hb12.trans (hb3.mono (by omega))
  exact below_aside hb13 HA.out fun b hb => ⟨Nat.lt_of_lt_of_le hb hb13.size, by simp; omega⟩
end Go.Proofs.Ytibaeklpgfadpaa
