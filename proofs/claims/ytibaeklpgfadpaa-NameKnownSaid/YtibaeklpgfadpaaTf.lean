/-
  strings.Clone; Labels.
-/
import Derived.Test.YtibaeklpgfadpaaTe
import Derived.Test.YtibaeklpgfadpaaShelf
namespace Go.Proofs.Ytibaeklpgfadpaa
open Go.RowKit Go.Shelf
set_option linter.unusedVariables false
attribute [local go_sem] Oper.semAt_some

theorem clone_any (s : ByteArray) (hs : s.size ≤ 1000000) (w : World) : Calls Try.prog 37 #[.string s] w (Tells w (.string s)) := by
  have H := Lib.hid (fun w => Try.stringslite_Clone s w (by omega))
  go_enter Try.func37, Try.ntmps37
  go_wp2_with (go_at_call 51; refine (H.out _).mono ?_; rintro e w1 ⟨rfl, hb⟩; have HB := Lib.hid hb; clear hb)
  go_ret
  exact ⟨rfl, HB.out⟩

theorem operIn_app {l : Nat} {o : Oper} {a : Act} {w w' : World} {v v' xv : Value} {K : Act → World → Prop} {Q : Exit → Act → World → Prop} (s x : Operand) (t u : TypeId)
    (ho : o.op = .call { callee := .builtin .append, args := #[s, x], argTypes := #[t, u] }) (hg : o.guard = none) (yl : Nat → Option Bool) (hs : a.eval s = v) (hx : a.eval x = xv)
    (hrun : (Builtin.append_ #[t, u] o.type #[v, xv]).run Try.prog w = .ok v' w') (h : K (a.put o.dst v') w') :
    if Region.wanted o yl = true then Oper.wpIn (Fence.wide.inRound l) 0 Try.prog o a w K Q else (∀ f, o.about Try.prog w a.eval = some f → (Fence.wide.inRound l).fn f) ∧ K (a.put o.dst undef) w := by
  rw [if_pos (by simp [Region.wanted, hg])]
  unfold Oper.wpIn
  refine ⟨fun _ _ => trivial, ?_⟩
  rw [Oper.semAt_plain (Fence.wide.inRound l) _ _ (by rw [ho]; intro c hc'; cases hc')]
  simp [execOp, ho, resolve, invoke, builtin, hs, hx, hrun, Result.andThen]
  exact h

/-- A text is added to the row in the box b. -/
theorem app_step {w W w2 : World} {b B : Nat} {v : Value} {l : List (List UInt8)} (y : List UInt8) (hx : Bx W b v) (ho : OwnT W B v l) (hbB : b < B) (hB : B ≤ W.heap.size) (h2 : Below W.heap.size W w2) (hl : l.length + 1 ≤ 1000000) (hw : Below w.heap.size w W) (hwb : w.heap.size ≤ b) :
    ∃ g c w3, (Builtin.append_ #[22, 22] 22 #[v, .slice (some ⟨w2.heap.size, 0, none⟩) 1 1]).run Try.prog (w2.alloc (.cells #[.string (bs y)] 9)) = .ok (.slice g (l.length + 1) c) w3 ∧
      w3.cell? ⟨b, 0, none⟩ = some v ∧ w3.frozen? ⟨b, 0, none⟩ = false ∧
      Hid (Aside (fun x => x = b ∨ B ≤ x) W (w3.setCell ⟨b, 0, none⟩ (.slice g (l.length + 1) c)) ∧ Bx (w3.setCell ⟨b, 0, none⟩ (.slice g (l.length + 1) c)) b (.slice g (l.length + 1) c) ∧
        OwnT (w3.setCell ⟨b, 0, none⟩ (.slice g (l.length + 1) c)) B (.slice g (l.length + 1) c) (l ++ [y]) ∧ Below w.heap.size w (w3.setCell ⟨b, 0, none⟩ (.slice g (l.length + 1) c))) := by
  have ha : Aside (fun x => B ≤ x) W (w2.alloc (.cells #[.string (bs y)] 9)) := (Aside.of_all h2).trans (Aside.alloc _ _)
  have ho2 : OwnT (w2.alloc (.cells #[.string (bs y)] 9)) B v l := ho.below (h2.trans ((Below.refl _ _).alloc h2.size _))
  have hB2 : B ≤ (w2.alloc (.cells #[.string (bs y)] 9)).heap.size := Nat.le_trans hB ha.size
  obtain ⟨g, c, w3, hrun, ho3, hg⟩ := run_appT B v l y w2.heap.size ho2 (by simp [go_sem, tv]) hl hB2
  have ha3 : Aside (fun x => B ≤ x) W w3 := ha.trans (Aside.grown hg fun k hk => (ho2.lt k hk).1)
  have hx3 := hx.aside ha3 (by omega)
  have h4 : Aside (fun x => x = b ∨ B ≤ x) W (w3.setCell ⟨b, 0, none⟩ (.slice g (l.length + 1) c)) := (ha3.mono fun k _ hk => .inr hk).trans (Aside.setCell _ _ (.inl rfl))
  refine ⟨g, c, w3, hrun, hx3.1, hx3.2, h4, hx3.set _, ho3.setCell hbB _, ?_⟩
  exact below_aside hw h4 fun k hk => ⟨Nat.lt_of_lt_of_le hk hw.size, by omega⟩

set_option maxHeartbeats 1000000 in
theorem labels_fine (n : List UInt8) (hn : n.length ≤ 1000000) (h : chk n = 0) (w : World) : Calls Try.prog 11 #[.string (bs n)] w fun e w' => ∃ v, e = .returned (.tuple #[v, .int .i64 0]) ∧ OwnT w' w.heap.size v (labs n) ∧ Below w.heap.size w w' := by
  have HC := Lib.hid (check_any n hn)
  rw [h] at HC
  clear h
  refine calls_of_wp_marks Try.func11 rfl ?_
  simp only [Try.ntmps11, List.size_toArray, List.length_cons, List.length_nil, Nat.reduceAdd, Nat.reduceSub, Array.replicate_succ,
     Array.replicate_zero, List.push_toArray, List.append_toArray, List.nil_append, List.cons_append]
  go_wp2_with (first | (go_at_call 16; refine (HC.out _).mono ?_; rintro e w1 ⟨rfl, hb⟩; have HB := Lib.hid hb; clear hb) | (go_at_call 36; refine (labels_any _ _).mono ?_; rintro e w' ⟨rfl, rfl⟩))
  apply wp_rangeFunc_T (D := w1.heap.size + 2) (hD := by simp) (K := fun b => b = w1.heap.size + 1) (G := fun _ => False) (M := fun b => b = w1.heap.size ∨ w1.heap.size + 4 ≤ b) (fin := none) (hg := rfl) (eg := enters_of Try.func50 (by kernel_rfl) rfl) (hseq := labels1_seq n _ hn)
      (I := fun k W => ∃ v, Bx W w1.heap.size v ∧ OwnT W (w1.heap.size + 4) v ((labs n).take k) ∧ Below w1.heap.size w1 W) (Ix := fun _ _ _ => False)
  case hassign =>
    intro l x W K hK
    gi_wp2
    exact hK
  case hSt => simp [go_sem]
  case hStK => exact fun A B h hk _ => (World.cell?_of_block (hk _ rfl)).trans h
  case hK => intro b hb; omega
  case hM => intro b hb; omega
  case hGK => exact fun _ h => h.elim
  case hps => rfl
  case hI =>
    rintro k A B ⟨v, h1, h2, h3⟩ ha
    exact ⟨v, h1.aside ha (by simp; omega), h2.aside ha (fun b hb => by simp; omega), below_aside h3 ha fun b hb => ⟨Nat.lt_of_lt_of_le hb h3.size, by simp; omega⟩⟩
  case hIx => exact fun _ _ _ _ h _ => h
  case h0 => exact ⟨.slice none 0 0, ⟨by simp [go_sem], by simp [go_sem]⟩, by rw [List.take_zero]; exact OwnT.nil _ _, ((Below.refl _ _).alloc (Nat.le_refl _) _).alloc (by simp) _⟩
  case hstop => exact fun _ _ _ _ h => h.elim
  case hpanic => exact fun _ h => by cases h
  case hbody =>
    rintro l k x W hx hs ⟨v, hbx, hown, hb⟩
    have hl := labs_len n
    rw [List.getElem?_map] at hx
    obtain ⟨y, hy, rfl⟩ := Option.map_eq_some_iff.mp hx
    have hy63 := (labs_short n y (List.mem_of_getElem? hy)).2
    have hk : k < (labs n).length := (List.getElem?_eq_some_iff.mp hy).1
    have e : (labs n).take (k + 1) = (labs n).take k ++ [y] := by rw [List.take_add_one, hy]; rfl
    have hlen : ((labs n).take k).length + 1 ≤ 1000000 := by rw [List.length_take]; omega
    obtain ⟨L, hL⟩ : ∃ L, (labs n).take k = L := ⟨_, rfl⟩
    rw [hL] at hown e hlen
    clear hL
    have HE := Lib.hid e
    have hsz : w1.heap.size + 4 ≤ W.drew.heap.size := hs
    have HST := Lib.hid (fun w2 (h2 : Below W.drew.heap.size W.drew w2) => app_step (W := W.drew) (w := w1) (B := w1.heap.size + 4) y hbx hown (by omega) hsz h2 hlen hb.drew (Nat.le_refl _))
    clear hb hx hown hy hl hk e hsz
    have hfol : Try.prog.follows .mixedOrders = true := by kernel_rfl
    obtain ⟨hc, hf⟩ := hbx
    gi_wp2
    refine wpIn_region_any hfol ?_
    change wpAnyIn _ _ _ _ _ _ _ _ _ (World.drew _)
    refine wpAnyIn_ready (rs := [0, 1]) (by kernel_rfl) (by simp) ?_
    refine AllReadyIn.cons rfl (fun K hK => ?_) (AllReadyIn.cons rfl (fun K hK => ?_) AllReadyIn.nil)
    · go_simp
      refine hK _ _ ?_
      clear hK K
      refine wpAnyIn_ready (rs := [1]) (by kernel_rfl) (by simp) ?_
      refine AllReadyIn.cons rfl (fun K hK => ?_) AllReadyIn.nil
      go_simp
      refine hK _ _ ?_
      clear hK K
      refine wpAnyIn_ready (rs := [2]) (by kernel_rfl) (by simp) ?_
      refine AllReadyIn.cons rfl (fun K hK => ?_) AllReadyIn.nil
      go_simp
      refine ⟨trivial, rfl, ?_⟩
      refine (CallsIn.inRound l (callsIn_wide.2 (clone_any _ (by simp; omega) _))).mono ?_
      rintro e w2 ⟨rfl, hb2⟩
      obtain ⟨g, c, w3, hrun, hc3, hf3, HI⟩ := HST.out w2 hb2
      have hc2 : w2.cell? ⟨w1.heap.size, 0, none⟩ = some v := (hb2.cell (p := ⟨w1.heap.size, 0, none⟩) (by simp; omega)).trans hc; have hca : ∀ o, (w2.alloc o).cell? ⟨w1.heap.size, 0, none⟩ = some v := fun o => (((Below.refl _ _).alloc (Nat.le_refl _) o).cell (p := ⟨w1.heap.size, 0, none⟩) (World.block_lt_of_cell? w2 _ hc2)).trans hc2
      have HRUN := Lib.hid hrun
      clear hrun hb2
      refine hK _ _ ?_
      clear hK K
      refine wpAnyIn_ready (rs := [3]) (by kernel_rfl) (by simp) ?_
      refine AllReadyIn.cons rfl (fun K hK => ?_) AllReadyIn.nil
      go_simp
      refine hK _ _ ?_
      clear hK K
      refine wpAnyIn_ready (rs := [4]) (by kernel_rfl) (by simp) ?_
      refine AllReadyIn.cons rfl (fun K hK => ?_) AllReadyIn.nil
      refine operIn_app (.tmp 15) (.tmp 18) 22 22 rfl rfl _ rfl rfl HRUN.out ?_
      refine hK _ _ ?_
      clear hK K
      refine wpAnyIn_ready (rs := [5]) (by kernel_rfl) (by simp) ?_
      refine AllReadyIn.cons rfl (fun K hK => ?_) AllReadyIn.nil
      go_simp
      refine hK _ _ ?_
      clear hK K
      refine wpAnyIn_done (by kernel_rfl) ?_ _
      exact ⟨HI.out.1.of_drew, _, HI.out.2.1, by rw [HE.out]; exact HI.out.2.2.1, HI.out.2.2.2⟩
    · go_simp
      refine hK _ _ ?_
      clear hK K
      refine wpAnyIn_ready (rs := [0, 2]) (by kernel_rfl) (by simp) ?_
      refine AllReadyIn.cons rfl (fun K hK => ?_) (AllReadyIn.cons rfl (fun K hK => ?_) AllReadyIn.nil)
      · go_simp
        refine hK _ _ ?_
        clear hK K
        refine wpAnyIn_ready (rs := [2]) (by kernel_rfl) (by simp) ?_
        refine AllReadyIn.cons rfl (fun K hK => ?_) AllReadyIn.nil
        go_simp
        refine ⟨trivial, rfl, ?_⟩
        refine (CallsIn.inRound l (callsIn_wide.2 (clone_any _ (by simp; omega) _))).mono ?_
        rintro e w2 ⟨rfl, hb2⟩
        obtain ⟨g, c, w3, hrun, hc3, hf3, HI⟩ := HST.out w2 hb2
        have hc2 : w2.cell? ⟨w1.heap.size, 0, none⟩ = some v := (hb2.cell (p := ⟨w1.heap.size, 0, none⟩) (by simp; omega)).trans hc; have hca : ∀ o, (w2.alloc o).cell? ⟨w1.heap.size, 0, none⟩ = some v := fun o => (((Below.refl _ _).alloc (Nat.le_refl _) o).cell (p := ⟨w1.heap.size, 0, none⟩) (World.block_lt_of_cell? w2 _ hc2)).trans hc2
        have HRUN := Lib.hid hrun
        clear hrun hb2
        refine hK _ _ ?_
        clear hK K
        refine wpAnyIn_ready (rs := [3]) (by kernel_rfl) (by simp) ?_
        refine AllReadyIn.cons rfl (fun K hK => ?_) AllReadyIn.nil
        go_simp
        refine hK _ _ ?_
        clear hK K
        refine wpAnyIn_ready (rs := [4]) (by kernel_rfl) (by simp) ?_
        refine AllReadyIn.cons rfl (fun K hK => ?_) AllReadyIn.nil
        refine operIn_app (.tmp 15) (.tmp 18) 22 22 rfl rfl _ rfl rfl HRUN.out ?_
        refine hK _ _ ?_
        clear hK K
        refine wpAnyIn_ready (rs := [5]) (by kernel_rfl) (by simp) ?_
        refine AllReadyIn.cons rfl (fun K hK => ?_) AllReadyIn.nil
        go_simp
        refine hK _ _ ?_
        clear hK K
        refine wpAnyIn_done (by kernel_rfl) ?_ _
        exact ⟨HI.out.1.of_drew, _, HI.out.2.1, by rw [HE.out]; exact HI.out.2.2.1, HI.out.2.2.2⟩
      · go_simp
        refine ⟨trivial, rfl, ?_⟩
        refine (CallsIn.inRound l (callsIn_wide.2 (clone_any _ (by simp; omega) _))).mono ?_
        rintro e w2 ⟨rfl, hb2⟩
        obtain ⟨g, c, w3, hrun, hc3, hf3, HI⟩ := HST.out w2 hb2
        have hc2 : w2.cell? ⟨w1.heap.size, 0, none⟩ = some v := (hb2.cell (p := ⟨w1.heap.size, 0, none⟩) (by simp; omega)).trans hc; have hca : ∀ o, (w2.alloc o).cell? ⟨w1.heap.size, 0, none⟩ = some v := fun o => (((Below.refl _ _).alloc (Nat.le_refl _) o).cell (p := ⟨w1.heap.size, 0, none⟩) (World.block_lt_of_cell? w2 _ hc2)).trans hc2
        have HRUN := Lib.hid hrun
        clear hrun hb2
        refine hK _ _ ?_
        clear hK K
        refine wpAnyIn_ready (rs := [0, 3]) (by kernel_rfl) (by simp) ?_
        refine AllReadyIn.cons rfl (fun K hK => ?_) (AllReadyIn.cons rfl (fun K hK => ?_) AllReadyIn.nil)
        · go_simp
          refine hK _ _ ?_
          clear hK K
          refine wpAnyIn_ready (rs := [3]) (by kernel_rfl) (by simp) ?_
          refine AllReadyIn.cons rfl (fun K hK => ?_) AllReadyIn.nil
          go_simp
          refine hK _ _ ?_
          clear hK K
          refine wpAnyIn_ready (rs := [4]) (by kernel_rfl) (by simp) ?_
          refine AllReadyIn.cons rfl (fun K hK => ?_) AllReadyIn.nil
          refine operIn_app (.tmp 15) (.tmp 18) 22 22 rfl rfl _ rfl rfl HRUN.out ?_
          refine hK _ _ ?_
          clear hK K
          refine wpAnyIn_ready (rs := [5]) (by kernel_rfl) (by simp) ?_
          refine AllReadyIn.cons rfl (fun K hK => ?_) AllReadyIn.nil
          go_simp
          refine hK _ _ ?_
          clear hK K
          refine wpAnyIn_done (by kernel_rfl) ?_ _
          exact ⟨HI.out.1.of_drew, _, HI.out.2.1, by rw [HE.out]; exact HI.out.2.2.1, HI.out.2.2.2⟩
        · go_simp
          refine hK _ _ ?_
          clear hK K
          refine wpAnyIn_ready (rs := [0]) (by kernel_rfl) (by simp) ?_
          refine AllReadyIn.cons rfl (fun K hK => ?_) AllReadyIn.nil
          go_simp
          refine hK _ _ ?_
          clear hK K
          refine wpAnyIn_ready (rs := [4]) (by kernel_rfl) (by simp) ?_
          refine AllReadyIn.cons rfl (fun K hK => ?_) AllReadyIn.nil
          refine operIn_app (.tmp 15) (.tmp 18) 22 22 rfl rfl _ rfl rfl HRUN.out ?_
          refine hK _ _ ?_
          clear hK K
          refine wpAnyIn_ready (rs := [5]) (by kernel_rfl) (by simp) ?_
          refine AllReadyIn.cons rfl (fun K hK => ?_) AllReadyIn.nil
          go_simp
          refine hK _ _ ?_
          clear hK K
          refine wpAnyIn_done (by kernel_rfl) ?_ _
          exact ⟨HI.out.1.of_drew, _, HI.out.2.1, by rw [HE.out]; exact HI.out.2.2.1, HI.out.2.2.2⟩
  case hdone =>
    rintro _ W ⟨v, hbx, ho, hb⟩ _ hD
    rw [List.length_map, List.take_length] at ho
    have hp : Below w.heap.size w (W.putObj (w1.heap.size + 2) (.deferred none)) := below_putObj (HB.out.trans (hb.mono HB.out.size)) (by have := HB.out.size; omega)
    have ho2 : OwnT (W.putObj (w1.heap.size + 2) (.deferred none)) (w1.heap.size + 4) v (labs n) := ho.aside (G := fun b => b = w1.heap.size + 2) (Aside.putObj _ _ rfl) (fun b hb => by omega)
    have HP := Lib.hid (And.intro (ho2.mono (Nat.le_trans HB.out.size (by omega))) hp)
    obtain ⟨hc, hf⟩ := hbx
    clear hb hp ho ho2
    go_wp2
    exact marks_ret hD (.tuple #[v, .int .i64 0]) (by simp [results, Try.results11, go_sem]) ⟨v, rfl, HP.out⟩

/-- The labels that are told. -/
def lbs (n : List UInt8) : List (List UInt8) := if chk n = 0 then labs n else []

/-- Labels' answer: a row of the call's own, and the error. -/
def LabsPost (w : World) (n : List UInt8) (e : Ending) (w' : World) : Prop := ∃ v, e = .returned (.tuple #[v, .int .i64 (chk n)]) ∧ OwnT w' w.heap.size v (lbs n) ∧ Below w.heap.size w w'

theorem labels_wrong (n : List UInt8) (hn : n.length ≤ 1000000) (h : chk n ≠ 0) (w : World) : Calls Try.prog 11 #[.string (bs n)] w (Tells w (.tuple #[.slice none 0 0, .int .i64 (chk n)])) := by
  have HC := Lib.hid (check_any n hn)
  obtain ⟨c, hc⟩ : ∃ c, chk n = c := ⟨_, rfl⟩
  rw [hc] at HC h ⊢
  clear hc
  have t1 : (c != 0) = true := by simpa using h
  clear h
  go_enter Try.func11, Try.ntmps11
  go_wp2_with (go_at_call 16; refine (HC.out _).mono ?_; rintro e w1 ⟨rfl, hb⟩; have HB := Lib.hid hb; clear hb)
  go_ret2
  exact ⟨rfl, HB.out⟩

theorem names_any (n : List UInt8) (hn : n.length ≤ 1000000) (w : World) : Calls Try.prog 11 #[.string (bs n)] w (LabsPost w n) := by
  by_cases h : chk n = 0
  · refine (labels_fine n hn h w).mono ?_
    rintro e w' ⟨v, rfl, ho, hb⟩
    exact ⟨v, by rw [h], by unfold lbs; rw [if_pos h]; exact ho, hb⟩
  · refine (labels_wrong n hn h w).mono ?_
    rintro e w' ⟨rfl, hb⟩
    exact ⟨_, rfl, by unfold lbs; rw [if_neg h]; exact OwnT.nil _ _, hb⟩
end Go.Proofs.Ytibaeklpgfadpaa
