/-
  The law HttpNone.
-/
import Derived.Test.YtkoohdacneflfaaGreatDoorZ16
import Derived.Test.YtkoohdacneflfaaGreatDoorRows
import Derived.Test.YtkoohdacneflfaaGreatDoorZ03
import Derived.SizedLaws
import Derived.HandedShaped
import Derived.LaidLaws
import Derived.Lay
import Derived.Lib.LaidU8T
import Derived.PinnedBridge
import Derived.Shelf.Vars
import Derived.Stop.Joined
import Derived.Test.YtkoohdacneflfaaGreatDoorZ11
import Derived.Test.YtkoohdacneflfaaGreatDoorZ10
import Derived.Deep.Matrix
import Derived.LaidMore
import Derived.LaidHandle
namespace Go.Proofs.YtkoohdacneflfaaGreatDoor
open Go.RowKit Go.Shelf
set_option linter.unusedVariables false
set_option linter.unusedSimpArgs false
set_option maxRecDepth 100000

set_option maxHeartbeats 4000000 in
theorem none_any {w : World} {n c : Nat} {a : Option Addr} (hE : Env w) (hn : n ≤ 9223372036854775807) :
    Calls Tryz.prog 4 #[.slice a n c] w fun e w' => e = .returned (.bool true) ∧ Below w.heap.size w w' := by
  have HA := Lib.hid (fun W (hb : Below w.heap.size w W) => awake_any (hE.later hb))
  by_cases hbig : 1000 < n
  · have t1 : (1000 : Int) < n := by omega
    go_enter Tryz.func4, Tryz.ntmps4
    go_wp2_with fail
    refine (HA.out _ (Below.refl _ _)).mono ?_; rintro e w1 ⟨rfl, b1⟩
    have B1 := Lib.hid b1
    clear b1
    go_wp2_with fail
    go_ret
    exact ⟨rfl, B1.out⟩
  · have t1 : ¬ (1000 : Int) < n := by omega
    go_enter Tryz.func4, Tryz.ntmps4
    go_wp2_with fail
    obtain ⟨W2, hW2⟩ : ∃ W, ((w.alloc (.cells #[.pointer none, .nilFunc, .slice none 0 0, .string ⟨#[]⟩, .string ⟨#[]⟩, .int .i64 0, .slice none 0 0, .int .i64 0, .int .i64 0] 49)).alloc (.cells #[.pointer none, .pointer (some ⟨w.heap.size, 0, none⟩)] 23)) = W := ⟨_, rfl⟩
    have H2 : Below w.heap.size w W2 ∧ W2.heap.size = w.heap.size + 2 ∧ W2.cell? ⟨w.heap.size, 0, none⟩ = some (.pointer none) ∧ W2.cell? ⟨w.heap.size + 1, 0, none⟩ = some (.pointer none) ∧ W2.cell? ⟨w.heap.size + 1, 1, none⟩ = some (.pointer (some ⟨w.heap.size, 0, none⟩)) := by
      rw [← hW2]
      refine ⟨((Below.refl _ w).alloc (Nat.le_refl _) _).alloc (by simp) _, by simp, ?_, ?_, ?_⟩ <;> simp [go_sem]
    rw [hW2]
    have HH := Lib.hid H2
    clear hW2 H2
    go_loopw [5, 6, 7] (fun i _ _ wr => ∃ k : Nat, k ≤ 2 ∧ i = .int .i64 k ∧ Hid (Below W2.heap.size W2 wr)) (fun i _ _ _ => 2 - (intOf i).toNat)
    case atStart => exact ⟨0, by omega, rfl, Below.refl _ _⟩
    case round =>
      obtain ⟨k, hk, rfl, HB⟩ := hrel
      obtain ⟨hb, hs, c0, c1, c2⟩ := HH.out
      have e0 := HB.out.cell (p := ⟨w.heap.size, 0, none⟩) (by simp; omega) |>.trans c0
      have e1 := HB.out.cell (p := ⟨w.heap.size + 1, 0, none⟩) (by simp; omega) |>.trans c1
      have e2 := HB.out.cell (p := ⟨w.heap.size + 1, 1, none⟩) (by simp; omega) |>.trans c2
      have hsr := HB.out.size
      by_cases h2 : k = 2
      · subst h2
        go_wp2_with fail
        refine (HA.out _ (HH.out.1.trans (HB.out.mono hb.size))).mono ?_; rintro e w1 ⟨rfl, b1⟩
        have B1 := Lib.hid ((HH.out.1.trans (HB.out.mono hb.size)).trans (b1.mono (by omega)))
        clear b1
        go_wp2_with fail
        go_ret
        exact ⟨rfl, B1.out⟩
      · obtain ⟨q, hq, hU⟩ : ∃ q, wr.cell? ⟨w.heap.size + 1, k, none⟩ = some (.pointer q) ∧ Unmade wr (.pointer q) := by
          by_cases h0 : k = 0
          · subst h0; exact ⟨_, e1, .inl rfl⟩
          · obtain rfl : k = 1 := by omega
            exact ⟨_, e2, .inr ⟨_, rfl, e0⟩⟩
        have hk2 : k < 2 := by omega
        have HU := Lib.hid hU
        have HP := Lib.hid (push_no (bv := .slice a n c) hU)
        clear e0 e1 e2 c0 c1 c2 hU h2 hb hs
        go_wp2_with fail
        refine HP.out.mono ?_; rintro e w1 ⟨rfl, rfl⟩
        have HL := Lib.hid (left_no HU.out)
        have HBr := Lib.hid (over_no HU.out)
        go_wp2_with fail
        refine HL.out.mono ?_; rintro e w2 ⟨rfl, rfl⟩
        go_wp2_with fail
        refine HBr.out.mono ?_; rintro e w4 ⟨rfl, rfl⟩
        go_wp2_with fail
        refine ⟨⟨k + 1, by omega, by go_num, HB⟩, ?_⟩
        simp [intOf]; omega
end Go.Proofs.YtkoohdacneflfaaGreatDoor

/-
  What a card leans on: the wrap with the world's shape and what is laid; the tables and the number that the library's functions lean on.
-/
namespace Go.Proofs.YtkoohdacneflfaaGreatDoor
open Go.RowKit Go.Shelf
set_option linter.unusedVariables false
set_option linter.unusedSimpArgs false
set_option maxRecDepth 100000

/-- A law's contract at every world that fits: what is laid lies so, and the world has its shape. -/
theorem handed_laid {H : Type} {enc : TypeId × Value → H} {a : Assume} {C : Checked} {os : Os} {f : FuncId} {fn : Func} {s : ChangeSpec} {conds : List PathCond} {apart fresh handsOn again : Bool} {l : List (String × DataW Unit)}
    (own : ownKnob C.prog.godebug = none) (started : os.Started) (noInit : C.prog.inits.idxOf? f = none) (hfn : C.prog.funcs[f]? = some fn)
    (witness : ∃ (w : World) (tape : Tape) (i : Input), w.os = os ∧ (w.forCall tape i).Shaped C.prog ∧ i.vars = [] ∧ Input.okWide C.prog (w.forCall tape i) .any w.heap.size f i ∧
      ((s.pre enc C.prog fn conds apart (w.forCall tape i).memory i.args ∧ laidMetH C.prog l (w.forCall tape i).memory) ∧ sizedMet enc C.prog fn (OpenSpec.ofChange s) apart (w.forCall tape i).memory i.args) ∧ a.holds C.prog (lone (Frame.enter C.prog f i.args .normal) [] (w.forCall tape i)))
    (contract : ∀ (W : World) (base : Nat) (args : Array Value) (ds gs : List (DataW H)) (before : List MemPlace),
      (∀ (j : Nat) t v, fn.params[j]? = some t → args[j]? = some v → Value.okWide C.prog W .any base t v) →
      DataW.Whole enc C.prog fn.params.toList s.vars apart W args.toList ds gs before →
      (DataW.weightsEach C.prog (fn.params.toList ++ s.plain.varTypes C.prog) (ds ++ gs)).all (· ≤ reachBytes) = true → laidMetH C.prog l W → W.ShapedOpen C.prog →
      Calls C.prog f args W fun e W' => ∃ v, e = .returned v ∧ s.post enc C.prog fn apart fresh handsOn again W args v W') :
    ReturnsInHanded a C os f .any (fun w args => (s.pre enc C.prog fn conds apart w args ∧ laidMetH C.prog l w) ∧ sizedMet enc C.prog fn (OpenSpec.ofChange s) apart w args) (s.post enc C.prog fn apart fresh handsOn again) := by
  refine returnsInHanded_of_calls own started noInit witness ?_
  intro w tape i _ hsh _ hok hpre _
  obtain ⟨_, _, _, fn', hfn', _, _, _, _, hval⟩ := hok
  obtain rfl : fn' = fn := Option.some.inj (hfn'.symm.trans hfn)
  obtain ⟨⟨⟨ds, gs, before, hw, _⟩, hl⟩, hz⟩ := hpre
  have hw' := DataW.Whole.of_heap (w' := w.forCall tape i) (by rfl) hw
  refine (contract (w.forCall tape i) w.heap.size i.args ds gs before hval hw' (hz.weights hw) (laidMetH.of_heap (w := (w.forCall tape i).memory) (by rfl) hl) hsh).mono fun e W' ⟨v, he, hp⟩ => ?_
  subst he
  exact ChangeSpec.post_blind hp

theorem first_is : Rows.laid_unicode_utf8_first = Lib.firstData := Pinned.utf8First_eq
theorem accept_is : (Rows.laid_unicode_utf8_acceptRanges : DataW Unit) = Lib.acceptData := by kernel_rfl
/-- The tables lie, and MaxLen holds some number. -/
theorem env_of {w : World} {l : List (String × DataW Unit)} (h : laidMet Tryz.prog l w) (hs : w.ShapedOpen Tryz.prog) (h1 : ("unicode/utf8.first", Rows.laid_unicode_utf8_first) ∈ l) (h2 : ("unicode/utf8.acceptRanges", Rows.laid_unicode_utf8_acceptRanges) ∈ l) : Env w :=
  ⟨utf8Tabs_of_readsT (U8Types.of260 Tryz.lays260) ⟨by kernel_rfl, by kernel_rfl, by kernel_rfl, by kernel_rfl, by kernel_rfl, by kernel_rfl, by kernel_rfl⟩ (first_is ▸ Lib.laidMet.reads h h1) (accept_is ▸ Lib.laidMet.reads h h2),
    cell_of_shapedOpen_int (g := Tryz.lays143_ren.g 1) (t := 3) (zero := #[.int .i64 0]) (k := .i64) hs (of_decide_eq_true (by kernel_rfl)) (by kernel_rfl) rfl (by kernel_rfl) (by kernel_rfl) Tryz.underlying3⟩
end Go.Proofs.YtkoohdacneflfaaGreatDoor

/-
  The law HttpKnown.
-/
namespace Go.Proofs.YtkoohdacneflfaaGreatDoor
open Go.RowKit Go.Shelf
set_option linter.unusedVariables false
set_option linter.unusedSimpArgs false
set_option maxRecDepth 100000

def aB : List UInt8 := [71, 69, 84, 32, 47, 32, 72, 84, 84, 80, 47, 49, 46, 48, 13, 10, 13, 10]
def bB : List UInt8 := [80, 79, 83, 84, 32, 47, 32, 72, 84, 84, 80, 47, 49, 46, 48, 13, 10, 13, 10]
def hA : Hd := ⟨mGe, [47], 0, []⟩
def itA : Ih := ⟨200, hA, [], false⟩
theorem runP1 : runH (pB ++ [97]) = ([], pB ++ [97], false) := by kernel_rfl
theorem runP2 : runH (pB ++ [97] ++ [98]) = ([itP], [], false) := by kernel_rfl
theorem runA : runH aB = ([itA], [], true) := by kernel_rfl
theorem runB : runH bB = ([sta 411], [], true) := by kernel_rfl
def longB : List UInt8 := List.replicate 4097 97
theorem runL : runH longB = ([sta 431], [], true) := by
  have hc : clean (longB.take 4096) := fun x hx => by
    have := List.eq_of_mem_replicate (List.mem_of_mem_take hx)
    subst this
    decide
  have he : endL longB = none := by
    unfold endL
    have := endF_skip (longB.take 4096) [] 0 hc
    rw [List.append_nil] at this
    rw [this]
    rfl
  have ho : oneH longB = some (sta 431, 0) := by
    unfold oneH
    rw [he]
    exact if_pos (by unfold longB; rw [List.length_replicate]; decide)
  exact run_last ho rfl

/-- A reader that New made, untouched. -/
def Fresh (w : World) (s : Nat) : Prop := w.heap[s]? = some (.cells (cR s (nxH s) (.slice none 0 0) z0 (.slice none 0 0) 0 0).toArray 49 (0, 0))
section
variable {w w' : World} {s N B : Nat} {G X : Nat → Prop} {v : Value} {l : List Rp}
theorem Fresh.lt (h : Fresh w s) : s < w.heap.size := (Array.getElem?_eq_some_iff.mp h).1
theorem Fresh.aside (h : Fresh w s) (ha : Aside G w w') (hG : ¬ G s) : Fresh w' s := (ha.block s h.lt hG).trans h
theorem Fresh.below (h : Fresh w s) (hb : Below w.heap.size w w') : Fresh w' s := h.aside (G := fun _ => False) (Aside.of_all hb) fun h => h
theorem Fresh.rk (h : Fresh w s) (hN : N ≤ s) : Rk w N none s [] false := by
  refine ⟨.slice none 0 0, OwnB.nil _ _, rfl, by simp, hN, .inl ⟨rfl, nxH s, z0, .slice none 0 0, 0, 0, ⟨⟨fun j hj => ?_, fun j => ?_⟩, OwnF.nil _ _, by simp [z0], fun b h => (by cases h), .inl rfl, hN⟩⟩⟩
  · rw [World.cell?, h]
    simp [hj]
  · rw [World.frozen?, h]
    simp
/-- Told items lie in no block of another type. -/
theorem TI.more (h : TI w N B X v l) (hs : Fresh w s) : TI w N B (fun k => X k ∨ k = s) v l := by
  have hrow : ∀ {B' k n : Nat} {e : TypeId} {u : Value} {xs : List Value}, w.ownsRow B' e k u n xs → e ≠ 49 → ∀ b, u.ownBlock = some b → b ≠ s := fun hr he b hb e => by
    subst e
    rcases hr.2 with ⟨rfl, _⟩ | ⟨g, cap, cur, rfl, _, hg, _⟩
    · cases hb
    · injection hb with hb
      subst hb
      rw [hs] at hg
      injection hg with hg
      injection hg with _ h3
      exact he h3.symm
  refine ⟨h.row, fun b hb e => e.elim (h.rx b hb) (hrow h.row (by decide) b hb), fun p hp => ?_⟩
  obtain ⟨h1, h2, h3, h4, h5⟩ := h.each p hp
  refine ⟨h1, h2, fun b hb e => e.elim (h3 b hb) (hrow h1 (by decide) b hb), h4, fun b hb e => e.elim (h5 b hb) fun e => ?_⟩
  subst e
  rcases h4 with ⟨e, _⟩ | ⟨g, cap, fz, e, _, _, _, _, hg⟩
  · rw [e] at hb; cases hb
  · rw [e] at hb
    injection hb with hb
    subst hb
    rw [hs] at hg
    injection hg with hg
    injection hg with _ h3
    exact absurd h3 (by decide)
end

set_option maxHeartbeats 1000000 in
theorem new_fresh (w : World) : Calls Tryz.prog 9 #[] w fun e w' => e = .returned (.pointer (some ⟨w.heap.size, 0, none⟩)) ∧ Fresh w' w.heap.size ∧ Below w.heap.size w w' := by
  have hcv := @run_store_func
  go_enter Tryz.func9, Tryz.ntmps9
  go_wp2_with fail
  go_ret
  refine ⟨rfl, ?_, ?_⟩
  · unfold Fresh
    rw [heap_alloc_new]
    rfl
  · exact (Below.refl _ w).alloc (Nat.le_refl _) _

set_option maxHeartbeats 8000000 in
theorem known_any {w : World} (hE : Env w) : Calls Tryz.prog 5 #[] w (Tells w (.bool true)) := by
  obtain ⟨N, hN⟩ : ∃ N, w.heap.size = N := ⟨_, rfl⟩
  have HE := Lib.hid (show EnvN w N from by rw [← hN]; exact EnvN.of hE)
  have HA := Lib.hid (fun W (hb : Below w.heap.size w W) => awake_any (hE.later hb))
  have e9 := ptr_not
  have HNN := Lib.hid hN
  have HNW := Lib.hid new_fresh
  have hcv := fun (w : World) (C : Array Value) (n c : Nat) => Lib.run_convert_bytes_const (P := Tryz.prog) w 28 5 C n c Tryz.underlying28 Tryz.underlying5
  clear hE
  go_enter Tryz.func5, Tryz.ntmps5
  go_wp2_with fail
  refine (HNW.out _).mono ?_; rintro e w1 ⟨rfl, r1, b1⟩
  go_wp2_with fail
  refine (HNW.out _).mono ?_; rintro e w2 ⟨rfl, r2, b2⟩
  go_wp2_with fail
  refine (HNW.out _).mono ?_; rintro e w3 ⟨rfl, r3, b3⟩
  go_wp2_with fail
  refine (HNW.out _).mono ?_; rintro e w4 ⟨rfl, r4, b4⟩
  have l1 := r1.lt
  have l2 := r2.lt
  have l3 := r3.lt
  have l4 := r4.lt
  have B4 := Lib.hid (((b1.trans (b2.mono b1.size)).trans (b3.mono (by omega))).trans (b4.mono (by omega)))
  have F1 := Lib.hid (((r1.below b2).below b3).below b4)
  have F2 := Lib.hid ((r2.below b3).below b4)
  have F3 := Lib.hid (r3.below b4)
  have F4 := Lib.hid r4
  obtain ⟨s1, hs1⟩ : ∃ s, w1.heap.size = s := ⟨_, rfl⟩
  obtain ⟨s2, hs2⟩ : ∃ s, w2.heap.size = s := ⟨_, rfl⟩
  obtain ⟨s3, hs3⟩ : ∃ s, w3.heap.size = s := ⟨_, rfl⟩
  rw [hs1] at F2 l1 l2 ⊢
  rw [hs2] at F3 l2 l3 ⊢
  rw [hs3] at F4 l3 l4 ⊢
  rw [hN] at F1 l1 B4
  have HLT := Lib.hid (show N < s1 ∧ s1 < s2 ∧ s2 < s3 ∧ s3 < w4.heap.size from ⟨l1, l2, l3, l4⟩)
  have HPO := Lib.hid (post_any w4)
  clear r1 r2 r3 r4 b1 b2 b3 b4 hs1 hs2 hs3 l1 l2 l3 l4 HNW hN
  go_wp2_with fail
  refine HPO.out.mono ?_; rintro e w5 ⟨v5, rfl, ho5, hb5⟩
  have hb6 : Below w5.heap.size w5 (w5.alloc (.cells #[.int .u8 97] 5)) := (Below.refl _ _).alloc (Nat.le_refl _) _
  obtain ⟨a7, c7, w7, hrun, ho7, hA7, _⟩ := run_appBl (w := w5.alloc (.cells #[.int .u8 97] 5)) w4.heap.size v5 (.slice (some ⟨w5.heap.size, 0, none⟩) 1 1) pB [97] (ho5.below hb6) (sl_one w5 97) (by decide) (Nat.le_trans hb5.size hb6.size)
  obtain ⟨a5, c5, rfl⟩ := ho5.shape
  have hb7 : Below w4.heap.size w4 w7 := (hb5.trans (hb6.mono hb5.size)).trans (hA7.below fun k hk => ⟨Nat.lt_of_lt_of_le hk (Nat.le_trans hb5.size hb6.size), fun e => by have := (ho5.lt k e).1; omega⟩)
  have B7 := Lib.hid (B4.out.trans (hb7.mono (by have := HLT.out; omega)))
  have R7 := Lib.hid ((F1.out.below hb7).rk (Nat.le_refl _))
  have F2 := Lib.hid (F2.out.below hb7)
  have F3 := Lib.hid (F3.out.below hb7)
  have F4 := Lib.hid (F4.out.below hb7)
  have HS7 := Lib.hid hb7.size
  have HPU := Lib.hid (push_any R7.out ho7.sl (HE.out.below B7.out) (by decide))
  rw [List.nil_append] at HPU
  clear ho5 hb5 hb6 ho7 hA7 hb7 HPO F1
  go_wp2_with (at_builtin; refine Lib.wpList_append_run _ rfl _ _ _ _ rfl _ _ rfl rfl _ _ hrun ?_)
  clear hrun
  refine HPU.out.mono ?_; rintro e w8 ⟨v8, ps8, o8, rfl, hm8, ht8, hr8, ho8, hA8⟩
  rw [runP1] at hm8 hr8
  have hps8 : ps8 = [] := by simpa using hm8
  subst hps8
  obtain ⟨a8, c8, rfl⟩ := ht8.shape
  have B8 := Lib.hid (B7.out.trans (PushPost.below R7.out (by have := B7.out.size; have := HNN.out; omega) hA8))
  have F2 := Lib.hid (F2.out.aside hA8 (by have := HLT.out; simp; omega))
  have F3 := Lib.hid (F3.out.aside hA8 (by have := HLT.out; simp; omega))
  have F4 := Lib.hid (F4.out.aside hA8 (by have := HLT.out; simp; omega))
  have HO8 := Lib.hid (show ∀ g, o8 = some g → w4.heap.size ≤ g from fun g hg => by rcases ho8 g hg with h | h; cases h; have := HS7.out; omega)
  have hb9 := const_own w8 [98] (by decide)
  have R9 := Lib.hid (hr8.below hb9.2)
  have B9 := Lib.hid (B8.out.trans (hb9.2.mono (by have := B8.out.size; have := HNN.out; omega)))
  have F2 := Lib.hid (F2.out.below hb9.2)
  have F3 := Lib.hid (F3.out.below hb9.2)
  have F4 := Lib.hid (F4.out.below hb9.2)
  have HPU := Lib.hid (push_any R9.out hb9.1.sl (HE.out.below B9.out) (by decide))
  clear hm8 ht8 hr8 ho8 hA8 hb9 R7
  go_wp2_with fail
  refine HPU.out.mono ?_; rintro e w10 ⟨v10, ps10, o10, rfl, hm10, ht10, hr10, ho10, hA10⟩
  rw [runP2] at hm10 hr10
  obtain ⟨sx, bx, rfl⟩ := one_map hm10
  obtain ⟨a10, c10, rfl⟩ := ht10.shape
  have hsz9 := (PushPost.below R9.out (by have := B9.out.size; have := HNN.out; omega) hA10)
  have B10 := Lib.hid (B9.out.trans hsz9)
  have F2 := Lib.hid (F2.out.aside hA10 (fun e => by rcases e with e | e; have := HLT.out; omega; have := HO8.out _ e; have := HLT.out; omega))
  have F3 := Lib.hid (F3.out.aside hA10 (fun e => by rcases e with e | e; have := HLT.out; omega; have := HO8.out _ e; have := HLT.out; omega))
  have F4 := Lib.hid (F4.out.aside hA10 (fun e => by rcases e with e | e; have := HLT.out; omega; have := HO8.out _ e; have := HLT.out; omega))
  obtain ⟨g10, hg10, _, hc10⟩ := TI.at_ (a := a10) (n := 1) (c := c10) ht10 (by simp)
  subst hg10
  have q10 := (hc10 0 (by simp)).c5
  have ob10 := (ht10.each _ (List.mem_singleton.mpr rfl)).b
  obtain ⟨ba, bc, hbx⟩ := ob10.shape
  simp only at hbx
  have k5 : w10.cell? ⟨g10, 5, none⟩ = some (.slice ba 2 bc) := by rw [← show bx = .slice ba 2 bc from hbx]; exact q10
  have hcs : (convert 28 9 (.slice ba 2 bc)).run Tryz.prog w10 = .ok (.string ⟨#[97, 98]⟩) w10 := by
    have := conv_sl ob10.sl
    rw [strz] at this
    rw [show bx = .slice ba 2 bc from hbx] at this
    exact this
  have hb11 := const_own w10 aB (by decide)
  have B11 := Lib.hid (B10.out.trans (hb11.2.mono (by have := B10.out.size; have := HNN.out; omega)))
  have R11 := Lib.hid ((F2.out.below hb11.2).rk (N := N) (by have := HLT.out; omega))
  have F3 := Lib.hid (F3.out.below hb11.2)
  have F4 := Lib.hid (F4.out.below hb11.2)
  have HPU := Lib.hid (push_any R11.out hb11.1.sl (HE.out.below B11.out) (by decide))
  rw [List.nil_append] at HPU
  clear hm10 ht10 hr10 ho10 hA10 hsz9 hc10 q10 ob10 hb11 R9 F2
  simp only [List.length_cons, List.length_nil, Nat.zero_add]
  go_wp2_with fail
  clear k5 hcs
  refine HPU.out.mono ?_; rintro e w12 ⟨v12, ps12, o12, rfl, hm12, ht12, hr12, ho12, hA12⟩
  rw [runA] at hm12 hr12
  obtain ⟨sc, bc', rfl⟩ := one_map hm12
  obtain ⟨a12, c12, rfl⟩ := ht12.shape
  have B12 := Lib.hid (B11.out.trans (PushPost.below R11.out (by have := B11.out.size; have := HNN.out; omega) hA12))
  have F3 := Lib.hid (F3.out.aside hA12 (by have := HLT.out; simp; omega))
  have F4 := Lib.hid (F4.out.aside hA12 (by have := HLT.out; simp; omega))
  have R12 := Lib.hid hr12
  have T12 := Lib.hid ht12
  have HG := Lib.hid (get_any w12)
  clear hm12 ht12 hr12 ho12 hA12 HPU R11
  go_wp2_with fail
  refine HG.out.mono ?_; rintro e w13 ⟨v13, rfl, ho13, hb13⟩
  have B13 := Lib.hid (B12.out.trans (hb13.mono (by have := B12.out.size; have := HNN.out; omega)))
  have R13 := Lib.hid (R12.out.below hb13)
  have F3 := Lib.hid (F3.out.below hb13)
  have F4 := Lib.hid (F4.out.below hb13)
  have HPX := Lib.hid (push_out (bv := v13) R13.out)
  have HOV := Lib.hid (over_any R13.out)
  have ht13 := T12.out.below hb13
  obtain ⟨g12, hg12, _, hc12⟩ := TI.at_ (a := a12) (n := 1) (c := c12) ht13 (by simp)
  subst hg12
  have q12 := hc12 0 (by simp)
  have k0 : w13.cell? ⟨g12, 0, none⟩ = some (.int .i64 200) := q12.c0
  have k6 : w13.cell? ⟨g12, 6, none⟩ = some (.bool false) := q12.c6
  obtain ⟨a13, c13, rfl⟩ := ho13.shape
  clear ho13 hb13 HG R12 T12 ht13 hc12 q12
  go_wp2_with fail
  refine HPX.out.mono ?_; rintro e w14 ⟨rfl, rfl⟩
  go_wp2_with fail
  refine HOV.out.mono ?_; rintro e w15 ⟨rfl, rfl⟩
  have hb16 := const_own w15 bB (by decide)
  have B16 := Lib.hid (B13.out.trans (hb16.2.mono (by have := B13.out.size; have := HNN.out; omega)))
  have R16 := Lib.hid ((F3.out.below hb16.2).rk (N := N) (by have := HLT.out; omega))
  have F4 := Lib.hid (F4.out.below hb16.2)
  have HPU := Lib.hid (push_any R16.out hb16.1.sl (HE.out.below B16.out) (by decide))
  rw [List.nil_append] at HPU
  clear hb16 F3 HOV HPX R13
  go_wp2_with fail
  clear k0 k6
  refine HPU.out.mono ?_; rintro e w17 ⟨v17, ps17, o17, rfl, hm17, ht17, hr17, ho17, hA17⟩
  rw [runB] at hm17
  obtain ⟨sd, bd, rfl⟩ := one_map hm17
  obtain ⟨a17, c17, rfl⟩ := ht17.shape
  have B17 := Lib.hid (B16.out.trans (PushPost.below R16.out (by have := B16.out.size; have := HNN.out; omega) hA17))
  have F4 := Lib.hid (F4.out.aside hA17 (by have := HLT.out; simp; omega))
  have T17 := Lib.hid (ht17.more F4.out)
  have hmk : (Instr.makeSlice 28 (.int .i64 4097) (.int .i64 4097)).run Tryz.prog w17 = .ok (.slice (some ⟨w17.heap.size, 0, none⟩) 4097 4097) (w17.alloc (.cells (List.replicate 4097 (Value.int .u8 0)).toArray 5)) := makeN 4097 (by decide) w17
  obtain ⟨W18, hW18⟩ : ∃ W, w17.alloc (.cells (List.replicate 4097 (Value.int .u8 0)).toArray 5) = W := ⟨_, rfl⟩
  have hb18 : Below w17.heap.size w17 W18 := by rw [← hW18]; exact (Below.refl _ _).alloc (Nat.le_refl _) _
  have hP0 : Part W18 w17.heap.size 4097 (iz longB) 0 := by
    refine ⟨⟨List.replicate 4097 0, List.length_replicate, ?_⟩, fun t ht => by omega⟩
    rw [← hW18, heap_alloc_new, List.map_replicate]
  rw [hW18] at hmk
  obtain ⟨q, hq⟩ : ∃ q, w17.heap.size = q := ⟨_, rfl⟩
  rw [hq] at hmk hP0
  have HP0 := Lib.hid hP0
  have HB18 := Lib.hid hb18
  have HQ := Lib.hid hq
  clear hm17 ht17 hr17 ho17 hA17 HPU R16 hb18 hP0 hW18 hq
  go_wp2_with fail
  go_loopw [18] (fun i wr => ∃ k : Nat, k ≤ 4097 ∧ i = .int .i64 k ∧ Hid (Part wr q 4097 (iz longB) k) ∧ Hid (Only q W18 wr)) (fun i _ => 4097 - (intOf i).toNat)
  case atStart => exact ⟨0, Nat.zero_le _, rfl, HP0, Lib.hid (Only.refl q W18)⟩
  case round =>
    obtain ⟨k, hk, rfl, HP, HO⟩ := hrel
    by_cases hlt : k < 4097
    · obtain ⟨x, hx⟩ := HP.out.1.cell hlt
      have hf := HP.out.1.frozen (k := k)
      have t1 : (k : Int) < 4097 := by omega
      have hlb : (97 : Int) = (iz longB).getD k 0 := by
        rw [iz_get longB k (by unfold longB; rw [List.length_replicate]; omega)]
        unfold longB
        rw [List.getElem_replicate]
        rfl
      have HN := Lib.hid (And.intro (HP.out.step hlt 97 hlb) (HO.out.set (k := k) (.int .u8 97)))
      clear hlb
      go_wp2_with fail
      refine ⟨⟨k + 1, by omega, by go_num, Lib.hid HN.out.1, Lib.hid HN.out.2⟩, ?_⟩
      simp [intOf]; omega
    · obtain rfl : k = 4097 := by omega
      have hfull := HP.out.full (by rw [iz_len]; unfold longB; exact List.length_replicate)
      have hsl : Sl wr q (q + 1) (.slice (some ⟨q, 0, none⟩) 4097 4097) (iz longB) := Own.sl (.inr ⟨by rw [iz_len]; unfold longB; rw [List.length_replicate], hfull⟩)
      have hbo : Below w17.heap.size w17 wr := HB18.out.trans (HO.out.below (by have := HQ.out; omega))
      have B19 := Lib.hid (B17.out.trans (hbo.mono (by have := B17.out.size; have := HNN.out; omega)))
      have F4 := Lib.hid (F4.out.below hbo)
      have R19 := Lib.hid (F4.out.rk (N := N) (by have := HLT.out; omega))
      have T19 := Lib.hid (T17.out.below hbo)
      have HPU := Lib.hid (push_any R19.out hsl (HE.out.below B19.out) (by decide))
      rw [List.nil_append] at HPU
      clear hfull hsl hbo
      go_wp2_with fail
      refine HPU.out.mono ?_; rintro e w20 ⟨v20, ps20, o20, rfl, hm20, ht20, hr20, ho20, hA20⟩
      rw [runL] at hm20
      obtain ⟨sf, bf, rfl⟩ := one_map hm20
      obtain ⟨a20, c20, rfl⟩ := ht20.shape
      have B20 := Lib.hid (B19.out.trans (PushPost.below R19.out (by have := B19.out.size; have := HNN.out; omega) hA20))
      have T20 := Lib.hid (T19.out.aside (X' := NoX) hA20 (fun x _ e => by rcases e with e | e; exact .inr e; cases e) fun _ _ h => h.elim)
      have U20 := Lib.hid ht20
      have HAW := Lib.hid (HA.out w20 (by rw [HNN.out]; exact B20.out))
      clear hm20 ht20 hr20 ho20 hA20 HPU
      go_wp2_with fail
      refine HAW.out.mono ?_; rintro e w21 ⟨rfl, hb21⟩
      have t21 := T20.out.below hb21
      have u21 := U20.out.below hb21
      have B21 := Lib.hid (B20.out.trans (hb21.mono (by have := B20.out.size; have := HNN.out; omega)))
      obtain ⟨gd, hgd, _, hcd⟩ := TI.at_ (a := a17) (n := 1) (c := c17) t21 (by simp)
      obtain ⟨gf, hgf, _, hcf⟩ := TI.at_ (a := a20) (n := 1) (c := c20) u21 (by simp)
      subst hgd; subst hgf
      have kd : w21.cell? ⟨gd, 0, none⟩ = some (.int .i64 411) := (hcd 0 (by simp)).c0
      have kf : w21.cell? ⟨gf, 0, none⟩ = some (.int .i64 431) := (hcf 0 (by simp)).c0
      clear t21 u21 hb21 hcd hcf
      simp only [List.length_cons, List.length_nil, Nat.zero_add]
      go_wp2_with fail
      go_ret
      exact ⟨rfl, by rw [HNN.out]; exact B21.out⟩
end Go.Proofs.YtkoohdacneflfaaGreatDoor

/-
  The law's cut: the walk.
-/
namespace Go.Proofs.YtkoohdacneflfaaGreatDoor
open Go.RowKit Go.Shelf
set_option linter.unusedVariables false
set_option linter.unusedSimpArgs false
set_option maxRecDepth 100000

/-- Pieces of older bytes, in blocks below hi, in a row of the call's own. -/
structure CutX (w W : World) (hi : Nat) (v : Value) (us : List Value) (ls : List (List UInt8)) : Prop where
  row : OwnS W w.heap.size v us
  len : us.length = ls.length
  each : ∀ j, j < ls.length → Sl w 0 hi (us.getD j (.slice none 0 0)) (iz (ls.getD j []))

theorem CutX.nil (w W : World) (hi : Nat) : CutX w W hi (.slice none 0 0) [] [] := ⟨.inl ⟨rfl, rfl⟩, rfl, fun j h => by simp at h⟩
theorem cutX_one {w W : World} {hi : Nat} {v : Value} {us : List Value} {ls : List (List UInt8)} {m : List UInt8} {sa : Option Addr} {sn sc : Nat} (h : CutX w W hi v us ls) (hb : Below w.heap.size w W) (hm : Sl w 0 hi (.slice sa sn sc) (iz m)) (hul : us.length + 1 ≤ 1000000) :
    ∃ a2 c2 X4, (Builtin.append_ #[22, 22] 22 #[v, .slice (some ⟨W.heap.size, 0, none⟩) 1 1]).run Tryz.prog (W.alloc (.cells #[.slice sa sn sc] 28)) = .ok (.slice a2 (us.length + 1) c2) X4 ∧
      CutX w X4 hi (.slice a2 (us.length + 1) c2) (us ++ [.slice sa sn sc]) (ls ++ [m]) ∧ Below w.heap.size w X4 := by
  have b3 : Below W.heap.size W (W.alloc (.cells #[.slice sa sn sc] 28)) := (Below.refl _ _).alloc (Nat.le_refl _) _
  have s3 : OwnS (W.alloc (.cells #[.slice sa sn sc] 28)) w.heap.size v us := h.row.below b3
  have b23 := hb.trans (b3.mono hb.size)
  obtain ⟨a2, c2, X4, r2, s4, g4⟩ := run_appS1 w.heap.size v (.slice sa sn sc) us W.heap.size s3 (by simp [go_sem]) rfl hul b23.size
  refine ⟨a2, c2, X4, r2, ⟨s4, by rw [List.length_append, List.length_append, h.len]; rfl, fun j hj => ?_⟩, b23.trans ((aside_grown g4).below fun k hk => ⟨Nat.lt_of_lt_of_le hk b23.size, fun e => by have := OwnZ.lt s3 k e; omega⟩)⟩
  by_cases hj2 : j < ls.length
  · have e1 : (us ++ [Value.slice sa sn sc]).getD j (.slice none 0 0) = us.getD j (.slice none 0 0) := by
      rw [List.getD, List.getElem?_append_left (by rw [h.len]; exact hj2)]; rfl
    have e2 : (ls ++ [m]).getD j [] = ls.getD j [] := by
      rw [List.getD, List.getElem?_append_left hj2]; rfl
    rw [e1, e2]
    exact h.each j hj2
  · rw [List.length_append] at hj
    have hj3 : j = ls.length := by simp at hj; omega
    subst hj3
    have e1 : (us ++ [Value.slice sa sn sc]).getD ls.length (.slice none 0 0) = .slice sa sn sc := by
      rw [← h.len, List.getD]; simp
    have e2 : (ls ++ [m]).getD ls.length [] = m := by rw [List.getD]; simp
    rw [e1, e2]
    exact hm


theorem Sl.one {w : World} {lo hi : Nat} {v : Value} {l : List Int} (h : Sl w lo hi v l) (h0 : lo < hi) : ∃ k, lo ≤ k ∧ k < hi ∧ Sl w k (k + 1) v l := by
  obtain ⟨a, c, rfl, h1, h2, h3⟩ := h
  by_cases hl : 0 < l.length
  · obtain ⟨b, o, rfl, h4, h5, h6⟩ := h3 hl
    exact ⟨b, h4, h5, _, c, rfl, h1, h2, fun _ => ⟨b, o, rfl, Nat.le_refl _, by omega, h6⟩⟩
  · exact ⟨lo, Nat.le_refl _, h0, _, c, rfl, h1, h2, fun h => absurd h hl⟩
theorem Bl.one {w : World} {v : Value} {l : List (List UInt8)} (h : Bl w v l) : ∃ a c, v = .slice a l.length c ∧ l.length ≤ c ∧ ∀ j, j < l.length → ∃ b off k u, a = some ⟨b, off, none⟩ ∧ b < w.heap.size ∧ k < w.heap.size ∧ w.cell? ⟨b, off + j, none⟩ = some u ∧ Sl w k (k + 1) u (iz (l.getD j [])) := by
  obtain ⟨a, c, rfl, h1, h2⟩ := h
  refine ⟨a, c, rfl, h1, fun j hj => ?_⟩
  obtain ⟨b, off, rfl, hlt, h3⟩ := h2 (by omega)
  obtain ⟨u, h4, h5⟩ := h3 j hj
  obtain ⟨k, _, hk, h6⟩ := Sl.one h5 (by omega)
  exact ⟨b, off, k, u, rfl, hlt, hk, h4, h6⟩

set_option maxHeartbeats 4000000 in
theorem cutX_any {w : World} {hi : Nat} {bv cv : Value} {b : List UInt8} {n : Nat} (h : Sl w 0 hi bv (iz b)) (hc : Ints w cv n) (hbl : b.length ≤ 20000) (hn : n ≤ 60) :
    Calls Tryz.prog 23 #[bv, cv] w fun e w' => ∃ v us ls, e = .returned v ∧ CutX w w' hi v us ls ∧ ls.flatten = b ∧ ls.length ≤ 61 ∧ Below w.heap.size w w' := by
  have HS := Lib.hid h
  obtain ⟨ca, cc, rfl, hci⟩ := hc
  have HI := Lib.hid hci
  clear hci h
  go_enter Tryz.func23, Tryz.ntmps23
  go_wp2_with fail
  go_loopw [0, 5, 6] (fun x o i wr => ∃ (us : List Value) (ls : List (List UInt8)) (r : List UInt8) (xa : Option Addr) (xc k : Nat), k ≤ n ∧ i = .int .i64 k ∧ x = .slice xa r.length xc ∧ Hid (Sl w 0 hi (.slice xa r.length xc) (iz r) ∧ CutX w wr hi o us ls ∧ ls.flatten ++ r = b ∧ ls.length = k ∧ Below w.heap.size w wr)) (fun x o i _ => n - (intOf i).toNat)
  case atStart =>
    obtain ⟨xa, xc, hx, _⟩ := id HS.out
    rw [iz_len] at hx
    subst hx
    exact ⟨[], [], b, xa, xc, 0, Nat.zero_le _, rfl, rfl, Lib.hid ⟨HS.out, CutX.nil _ _ _, rfl, rfl, Below.refl _ _⟩⟩
  case round =>
    obtain ⟨us, ls, r, xa, xc, k, hk, rfl, rfl, H⟩ := hrel
    have hrl : r.length ≤ 20000 := by have := congrArg List.length H.out.2.2.1; rw [List.length_append] at this; omega
    have hul : us.length + 1 ≤ 1000000 := by have := H.out.2.1.len; have := H.out.2.2.2.1; omega
    by_cases hgo : k < n ∧ 0 < r.length
    · obtain ⟨t1, t2⟩ := hgo
      obtain ⟨ib, io, rfl, hlt, hi⟩ := HI.out (by omega)
      obtain ⟨z, hz⟩ := hi k t1
      have e1 := ((Aside.of_all (G := fun _ => False) H.out.2.2.2.2).cell (p := ⟨ib, io + k, none⟩) hlt fun h => h).trans hz
      have HP := Lib.hid (pick_any z ((r.length : Int) + 1) wr (by omega) (by omega))
      clear hi hz
      go_wp2_with fail
      refine HP.out.mono ?_; rintro e w1 ⟨p, hp, rfl, rfl⟩
      obtain ⟨ya, yn, yc, hy, hys⟩ := upto_sl H.out.1 rfl (show p ≤ r.length by omega)
      obtain ⟨za, zn, zc, hzr, hzs⟩ := from_sl H.out.1 rfl (show p ≤ r.length by omega)
      have hzs2 := hzs w H.out.1
      obtain ⟨a2, c2, X4, r4, hC, hb4⟩ := cutX_one H.out.2.1 H.out.2.2.2.2 hys hul
      have hzn : zn = (r.drop p).length := by
        obtain ⟨_, _, he, _⟩ := hzs2
        injection he with _ he _
        rw [he, iz_len]
      subst hzn
      have HF := Lib.hid (show Sl w 0 hi (.slice za (r.drop p).length zc) (iz (r.drop p)) ∧ CutX w X4 hi (.slice a2 (us.length + 1) c2) (us ++ [.slice ya yn yc]) (ls ++ [r.take p]) ∧ (ls ++ [r.take p]).flatten ++ r.drop p = b ∧ (ls ++ [r.take p]).length = k + 1 ∧ Below w.heap.size w X4 from
        ⟨hzs2, hC, by rw [List.flatten_append, List.append_assoc]; simpa using H.out.2.2.1, by rw [List.length_append, H.out.2.2.2.1]; rfl, hb4⟩)
      clear hys hzs hzs2 hC hb4
      go_wp2_with (at_builtin; refine Lib.wpList_append_run _ rfl _ _ _ _ rfl _ _ rfl rfl _ _ r4 ?_)
      refine ⟨⟨_, _, r.drop p, za, zc, k + 1, by omega, by go_num, by rw [List.length_drop], HF⟩, ?_⟩
      simp [intOf]; omega
    · obtain ⟨a2, c2, X4, r4, hC, hb4⟩ := cutX_one H.out.2.1 H.out.2.2.2.2 H.out.1 hul
      have HF := Lib.hid (show ∃ us' ls', CutX w X4 hi (.slice a2 (us.length + 1) c2) us' ls' ∧ ls'.flatten = b ∧ ls'.length ≤ 61 ∧ Below w.heap.size w X4 from
        ⟨_, ls ++ [r], hC, by rw [List.flatten_append]; simpa using H.out.2.2.1, by rw [List.length_append, H.out.2.2.2.1]; simp; omega, hb4⟩)
      clear hC hb4
      by_cases t1 : k < n
      · have t2 : ¬ 0 < r.length := fun e => hgo ⟨t1, e⟩
        clear hgo
        go_wp2_with (at_builtin; refine Lib.wpList_append_run _ rfl _ _ _ _ rfl _ _ rfl rfl _ _ r4 ?_)
        go_ret
        obtain ⟨us', ls', g1, g2, g3, g4⟩ := HF.out
        exact ⟨_, us', ls', rfl, g1, g2, g3, g4⟩
      · clear hgo
        go_wp2_with (at_builtin; refine Lib.wpList_append_run _ rfl _ _ _ _ rfl _ _ rfl rfl _ _ r4 ?_)
        go_ret
        obtain ⟨us', ls', g1, g2, g3, g4⟩ := HF.out
        exact ⟨_, us', ls', rfl, g1, g2, g3, g4⟩
theorem CutX.bl {w W : World} {v : Value} {us : List Value} {ls : List (List UInt8)} (h : CutX w W w.heap.size v us ls) (hb : Below w.heap.size w W) : Bl W v ls :=
  h.row.bl h.len fun j hj => ((h.each j hj).below hb (Nat.le_refl _)).wide (Nat.le_refl _) hb.size
theorem cutP_any {w : World} {bv cv : Value} {b : List UInt8} {n : Nat} (h : Sl w 0 w.heap.size bv (iz b)) (hc : Ints w cv n) (hbl : b.length ≤ 20000) (hn : n ≤ 60) :
    Calls Tryz.prog 23 #[bv, cv] w fun e w' => ∃ v ls, e = .returned v ∧ Bl w' v ls ∧ ls.flatten = b ∧ ls.length ≤ 61 ∧ Below w.heap.size w w' := by
  refine (cutX_any h hc hbl hn).mono ?_
  rintro e w' ⟨v, us, ls, rfl, h1, h2, h3, h4⟩
  exact ⟨v, ls, rfl, h1.bl h4, h2, h3, h4⟩
end Go.Proofs.YtkoohdacneflfaaGreatDoor

/-
  The law's pushed.
-/
namespace Go.Proofs.YtkoohdacneflfaaGreatDoor
open Go.RowKit Go.Shelf
set_option linter.unusedVariables false
set_option linter.unusedSimpArgs false
set_option maxRecDepth 100000

def PushedPost (w : World) (ls : List (List UInt8)) (e : Ending) (w' : World) : Prop :=
  ∃ v ps, e = .returned (.tuple #[v, .bool (runP [] ls).2.2, .bool true]) ∧ ps.map (·.x) = (runP [] ls).1 ∧ TI w' w.heap.size w.heap.size NoX v ps ∧ Below w.heap.size w w'

theorem runP_step (l : List UInt8) (ls : List (List UInt8)) (k : Nat) (hk : k < ls.length) :
    runP l (ls.drop k) = if (runH (l ++ ls.getD k [])).2.2 then runH (l ++ ls.getD k []) else ((runH (l ++ ls.getD k [])).1 ++ (runP (runH (l ++ ls.getD k [])).2.1 (ls.drop (k + 1))).1, (runP (runH (l ++ ls.getD k [])).2.1 (ls.drop (k + 1))).2) := by
  rw [List.drop_eq_getElem_cons hk, runP, List.getD, List.getElem?_eq_getElem hk]
  rfl
theorem flat_le (ls : List (List UInt8)) (k : Nat) (hk : k < ls.length) : (ls.take (k + 1)).flatten.length = (ls.take k).flatten.length + (ls.getD k []).length ∧ (ls.take (k + 1)).flatten.length ≤ ls.flatten.length := by
  refine ⟨?_, ?_⟩
  · rw [List.take_succ_eq_append_getElem hk, List.flatten_append, List.length_append, List.getD, List.getElem?_eq_getElem hk]
    simp
  · conv => rhs; rw [← List.take_append_drop (k + 1) ls]
    rw [List.flatten_append, List.length_append]
    omega

/-- A reader, behind an append to a row of items. -/
theorem Rk.row {w w' : World} {N N' B r : Nat} {o : Option Nat} {b : List UInt8} {out : Bool} {X : Nat → Prop} {v : Value} {l : List Rp} (h : Rk w N o r b out) (ht : TI w N' B X v l) (ha : Aside (fun b => v.ownBlock = some b) w w') (hr : X r) (ho : ∀ g, o = some g → X g) : Rk w' N o r b out :=
  h.aside ha (fun e => ht.rx r e hr) (fun g hg e => ht.rx g e (ho g hg)) fun g hg => by
    rcases ht.row.2 with ⟨e, _⟩ | ⟨g', cap, cur, e, _, hh, _⟩
    · rw [e] at hg; cases hg
    · rw [e] at hg
      have : g' = g := by injection hg
      subst this
      exact .inr (.inr ⟨_, _, _, hh, by decide⟩)

/-- How pushed's loop stands. -/
structure PdI (w : World) (ls : List (List UInt8)) (k : Nat) (v : Value) (ps : List Rp) (o : Option Nat) (l : List UInt8) (out : Bool) (W : World) : Prop where
  told : TI W w.heap.size w.heap.size (fun j => j = w.heap.size ∨ o = some j) v ps
  rk : Rk W w.heap.size o w.heap.size l out
  run : runP [] ls = if out then (ps.map (·.x), [], true) else (ps.map (·.x) ++ (runP l (ls.drop k)).1, (runP l (ls.drop k)).2)
  len : l.length ≤ (ls.take k).flatten.length
  cnt : 4 * ps.length + l.length ≤ (ls.take k).flatten.length + (if out then 4 else 0)
  bel : Below w.heap.size w W

theorem runH_cnt (b : List UInt8) : 4 * (runH b).1.length + (runH b).2.1.length ≤ b.length + (if (runH b).2.2 then 4 else 0) := by
  refine run_ind (C := fun b => 4 * (runH b).1.length + (runH b).2.1.length ≤ b.length + (if (runH b).2.2 then 4 else 0)) (fun b ih => ?_) b
  cases ho : oneH b with
  | none => rw [run_none ho]; simp
  | some y =>
    obtain ⟨x, k⟩ := y
    have hk := one_some ho
    cases hl : lastH x with
    | true => rw [run_last ho hl]; simp
    | false =>
      rw [run_go ho hl]
      have h := ih x k ho hl
      have h4 := hk.2 (last_no hl).1
      simp only [List.length_cons]
      rw [List.length_drop] at h
      omega

theorem PdI.push {w W w' : World} {ls : List (List UInt8)} {k : Nat} {v v' : Value} {ps ps' : List Rp} {o o' : Option Nat} {l p : List UInt8} (h : PdI w ls k v ps o l false W) (hk : k < ls.length) (hp : ls.getD k [] = p) (hF : ls.flatten.length ≤ 900000)
    (hm : ps'.map (·.x) = (runH (l ++ p)).1) (ht : TI w' w.heap.size W.heap.size (fun j => j = w.heap.size ∨ o' = some j) v' ps') (hr : Rk w' w.heap.size o' w.heap.size (runH (l ++ p)).2.1 (runH (l ++ p)).2.2) (ho : ∀ g, o' = some g → o = some g ∨ W.heap.size ≤ g) (ha : Aside (fun j => j = w.heap.size ∨ o = some j) W w') :
    ∃ a' c' w'', (Builtin.append_ #[32, 32] 32 #[v, v']).run Tryz.prog w' = .ok (.slice a' (ps ++ ps').length c') w'' ∧ (runH (l ++ p)).2.1.length ≤ 69631 ∧
      PdI w ls (k + 1) (.slice a' (ps ++ ps').length c') (ps ++ ps') o' (runH (l ++ p)).2.1 (runH (l ++ p)).2.2 w'' := by
  have hfl := flat_le ls k hk
  rw [hp] at hfl
  have hcn := runH_cnt (l ++ p)
  rw [List.length_append] at hcn
  have hg4 : (if (runH (l ++ p)).2.2 then 4 else 0 : Nat) ≤ 4 := by split <;> omega
  have hleft : (runH (l ++ p)).2.1.length ≤ l.length + p.length := by
    cases hx : (runH (l ++ p)).2.2 with
    | true => rw [(run_rest (l ++ p)).1 hx]; simp
    | false => rw [hx] at hcn; simp at hcn; omega
  have hpl : ps'.length = (runH (l ++ p)).1.length := by rw [← hm, List.length_map]
  have hlen := h.len
  have hcnt : 4 * ps.length + l.length ≤ (ls.take k).flatten.length := h.cnt
  have hws := h.bel.size
  have hrl := h.rk.lt
  have h1 : TI w' w.heap.size w.heap.size (fun j => j = w.heap.size ∨ o' = some j) v ps := h.told.aside ha (fun _ _ h => h) fun x hx e => by
    rcases e with e | e
    · exact .inl e
    · rcases ho x e with e | e
      · exact .inr e
      · omega
  have hn : (runH (l ++ p)).1.length ≤ 300000 := by have := hfl.2; omega
  obtain ⟨a', c', w'', r1, r2, r3⟩ := ti_cat (B' := 0) h1 (ht.base (Nat.le_refl _) hws) (by have := hfl.2; omega) (by have := ha.size; omega) (fun b hb => by
    rcases hb with hb | hb
    · have := hr.lt; omega
    · exact (hr.olt b hb).2.1)
  rw [← List.length_append] at r1 r2
  refine ⟨a', c', w'', r1, run_most (l ++ p), r2, hr.row h1 r3 (.inl rfl) fun g hg => .inr hg, ?_, ?_, ?_, ?_⟩
  · rw [h.run, if_neg (by simp), runP_step l ls k hk, hp]
    cases hx : (runH (l ++ p)).2.2 with
    | true =>
      have hrest := (run_rest (l ++ p)).1 hx
      simp only [if_true, List.map_append, hm, Prod.mk.injEq, true_and]
      exact Prod.ext hrest hx
    | false =>
      simp only [List.map_append, hm, List.append_assoc]
      rfl
  · omega
  · rw [List.length_append, hpl]
    have := hfl.1
    omega
  · have hb : Below w.heap.size w w' := h.bel.trans (ha.below fun j hj => ⟨by omega, fun e => by
      rcases e with e | e
      · omega
      · have := (h.rk.olt j e).1; omega⟩)
    exact hb.trans (r3.below fun j hj => ⟨by have := hb.size; omega, fun e => by have := (h1.lt j e).1; omega⟩)

set_option maxHeartbeats 4000000 in
theorem pushed_any {w : World} {v : Value} {ls : List (List UInt8)} (h : Bl w v ls) (hE : Env w) (hl : ls.length ≤ 1000000) (hF : ls.flatten.length ≤ 900000) :
    Calls Tryz.prog 22 #[v] w (PushedPost w ls) := by
  have HN := Lib.hid (new_any w w.heap.size (Nat.le_refl _))
  have e9 := ptr_not
  obtain ⟨a, c, rfl, hlc, hel⟩ := h.one
  have HE := Lib.hid hel
  have HEN := Lib.hid (EnvN.of hE)
  have HF := Lib.hid hF
  clear h hel hE hF
  go_enter Tryz.func22, Tryz.ntmps22
  go_wp2_with fail
  refine HN.out.mono ?_; rintro e w1 ⟨rfl, r1, b1⟩
  have HI0 := Lib.hid (show PdI w ls 0 (.slice none 0 0) [] none [] false w1 from ⟨TI.nil _ _ _ _, r1, by rw [if_neg (by simp), List.drop_zero]; simp, by simp, by simp, b1⟩)
  clear r1 b1
  go_wp2_with fail
  go_loopw [6, 7, 8, 9] (fun ov i _ _ wr => ∃ (ps : List Rp) (k : Nat) (o : Option Nat) (l : List UInt8) (out : Bool) (oa : Option Addr) (oc : Nat), k ≤ ls.length ∧ i = .int .i64 k ∧ ov = .slice oa ps.length oc ∧ Hid (PdI w ls k (.slice oa ps.length oc) ps o l out wr)) (fun _ i _ _ _ => ls.length - (intOf i).toNat)
  case atStart => exact ⟨[], 0, none, [], false, none, 0, Nat.zero_le _, rfl, rfl, HI0⟩
  case round =>
    obtain ⟨ps, k, o, l, out, oa, oc, hk, rfl, rfl, HI⟩ := hrel
    have HOV := Lib.hid (over_any HI.out.rk)
    by_cases hlt : k < ls.length
    · have t1 : (k : Int) < ls.length := by omega
      obtain ⟨eb, eo, ek, eu, ea, hel1, hel2, hel3, hel4⟩ := HE.out k hlt
      subst ea
      have q1 := ((Aside.of_all (G := fun _ => False) HI.out.bel).cell (p := ⟨eb, eo + k, none⟩) hel1 fun h => h).trans hel3
      have HSE := Lib.hid (sl_apart2 (b := ls.getD k []) hel4 (Aside.of_all (G := fun _ => False) HI.out.bel) fun h => h)
      clear hel3 hel4
      cases out with
      | true =>
        have HF2 := Lib.hid (show PushedPost w ls (.returned (.tuple #[.slice oa ps.length oc, .bool true, .bool true])) wr by
          have hr := HI.out.run
          rw [if_pos rfl] at hr
          exact ⟨_, ps, by rw [hr], by rw [hr], HI.out.told.less fun _ _ h => h.elim, HI.out.bel⟩)
        go_wp2_with fail
        refine HOV.out.mono ?_; rintro e w2 ⟨rfl, rfl⟩
        go_wp2_with fail
        refine HOV.out.mono ?_; rintro e w3 ⟨rfl, rfl⟩
        go_wp2_with fail
        refine bodyPost_ret (results_tmp3 rfl _ _ _) rfl ?_
        exact HF2.out
      | false =>
        obtain ⟨p, hp⟩ : ∃ p, ls.getD k [] = p := ⟨_, rfl⟩
        rw [hp] at HSE
        have hfl := flat_le ls k hlt
        rw [hp] at hfl
        have HPU := Lib.hid (push_any HI.out.rk HSE.out (HEN.out.below HI.out.bel) (by rw [List.length_append]; have h1 := HI.out.len; have h2 := HF.out; have h3 := hfl.1; have h4 := hfl.2; omega))
        clear hfl
        go_wp2_with fail
        refine HOV.out.mono ?_; rintro e w2 ⟨rfl, rfl⟩
        go_wp2_with fail
        refine HPU.out.mono ?_; rintro e w3 ⟨v3, ps3, o3, rfl, hm3, ht3, hr3, ho3, ha3⟩
        obtain ⟨a4, c4, w4, hrun, hmost, hI4⟩ := HI.out.push hlt hp HF.out hm3 ht3 hr3 ho3 ha3
        have HL := Lib.hid (left_any hr3)
        obtain ⟨va, vc, rfl⟩ := ht3.shape
        have HI4 := Lib.hid hI4
        have HMO := Lib.hid hmost
        obtain ⟨ln, hln⟩ : ∃ n, (runH (l ++ p)).2.1.length = n := ⟨_, rfl⟩
        rw [hln] at HL HMO
        have t3 : ¬ (69631 : Int) < (ln : Int) := by have := HMO.out; omega
        clear hm3 ht3 hr3 ho3 ha3 hI4 hmost HPU HOV hln
        go_wp2_with fail
        refine HL.out.mono ?_; rintro e w5 ⟨rfl, rfl⟩
        go_wp2_with (at_builtin; refine Lib.wpList_append_run _ rfl _ _ _ _ rfl _ _ rfl rfl _ _ hrun ?_)
        refine ⟨⟨_, k + 1, _, _, _, _, _, by omega, by go_num, by rw [← List.length_append], HI4⟩, ?_⟩
        simp [intOf]; omega
    · have t1 : ¬ (k : Int) < ls.length := by omega
      have HF2 := Lib.hid (show PushedPost w ls (.returned (.tuple #[.slice oa ps.length oc, .bool out, .bool true])) wr by
        have hr := HI.out.run
        rw [List.drop_of_length_le (by omega), runP] at hr
        refine ⟨_, ps, by rw [hr]; cases out <;> rfl, by rw [hr]; cases out <;> simp, HI.out.told.less fun _ _ h => h.elim, HI.out.bel⟩)
      go_wp2_with fail
      refine HOV.out.mono ?_; rintro e w3 ⟨rfl, rfl⟩
      go_wp2_with fail
      refine bodyPost_ret (results_tmp3 rfl _ _ _) rfl ?_
      exact HF2.out
end Go.Proofs.YtkoohdacneflfaaGreatDoor

/-
  The law HttpCuts.
-/
namespace Go.Proofs.YtkoohdacneflfaaGreatDoor
open Go.RowKit Go.Shelf
set_option linter.unusedVariables false
set_option linter.unusedSimpArgs false
set_option maxRecDepth 100000

theorem Ints.below {w w' : World} {v : Value} {n : Nat} (h : Ints w v n) (hb : Below w.heap.size w w') : Ints w' v n := by
  obtain ⟨a, c, rfl, h1⟩ := h
  refine ⟨a, c, rfl, fun h0 => ?_⟩
  obtain ⟨b, off, rfl, hlt, h2⟩ := h1 h0
  refine ⟨b, off, rfl, Nat.lt_of_lt_of_le hlt hb.size, fun j hj => ?_⟩
  obtain ⟨x, hx⟩ := h2 j hj
  exact ⟨x, ((Aside.of_all (G := fun _ => False) hb).cell (p := ⟨b, off + j, none⟩) hlt fun h => h).trans hx⟩
theorem slUp {w w' : World} {v : Value} {l : List Int} (h : Sl w 0 w.heap.size v l) (hb : Below w.heap.size w w') : Sl w' 0 w'.heap.size v l := (h.below hb (Nat.le_refl _)).wide (Nat.le_refl _) hb.size
theorem runP_cnt (ls : List (List UInt8)) : 4 * (runP [] ls).1.length ≤ ls.flatten.length + 4 := by
  rw [runP_flat ls [] one_nil, List.nil_append]
  have h := runH_cnt ls.flatten
  have h4 : (if (runH ls.flatten).2.2 then 4 else 0 : Nat) ≤ 4 := by split <;> omega
  omega

set_option maxHeartbeats 4000000 in
theorem cuts_any {w : World} {bv cv ov : Value} {b : List UInt8} {n n' : Nat} (h : Sl w 0 w.heap.size bv (iz b)) (hc : Ints w cv n) (ho : Ints w ov n') (hE : Env w) (hb : b.length ≤ 9223372036854775807) (hn : n ≤ 9223372036854775807) (hn' : n' ≤ 9223372036854775807) :
    Calls Tryz.prog 6 #[bv, cv, ov] w (Tells w (.bool true)) := by
  have HK := Lib.hid (known_any hE)
  have HS := Lib.hid h
  have HC := Lib.hid hc
  have HO := Lib.hid ho
  have HE := Lib.hid hE
  obtain ⟨a, c, rfl, _⟩ := h
  obtain ⟨ca, cc, rfl, _⟩ := hc
  obtain ⟨oa, oc, rfl, _⟩ := ho
  rw [iz_len] at HS ⊢
  clear hE
  by_cases hg : 9000 < b.length ∨ 60 < n ∨ 60 < n'
  · have key : Calls Tryz.prog 6 #[.slice a b.length c, .slice ca n cc, .slice oa n' oc] w (Tells w (.bool true)) := by
      by_cases t3 : 9000 < b.length
      · have t3' : (9000 : Int) < b.length := by omega
        clear hg
        go_enter Tryz.func6, Tryz.ntmps6
        go_wp2_with fail
        refine HK.out.mono ?_; rintro e w1 ⟨rfl, b1⟩
        have B1 := Lib.hid b1
        clear b1
        go_wp2_with fail
        go_ret
        exact ⟨rfl, B1.out⟩
      · have t3' : ¬ (9000 : Int) < b.length := by omega
        by_cases t4 : 60 < n
        · have t4' : (60 : Int) < n := by omega
          clear hg
          go_enter Tryz.func6, Tryz.ntmps6
          go_wp2_with fail
          refine HK.out.mono ?_; rintro e w1 ⟨rfl, b1⟩
          have B1 := Lib.hid b1
          clear b1
          go_wp2_with fail
          go_ret
          exact ⟨rfl, B1.out⟩
        · have t4' : ¬ (60 : Int) < n := by omega
          have t5' : (60 : Int) < n' := by omega
          clear hg
          go_enter Tryz.func6, Tryz.ntmps6
          go_wp2_with fail
          refine HK.out.mono ?_; rintro e w1 ⟨rfl, b1⟩
          have B1 := Lib.hid b1
          clear b1
          go_wp2_with fail
          go_ret
          exact ⟨rfl, B1.out⟩
    exact key
  · have t3 : ¬ (9000 : Int) < b.length := by omega
    have t4 : ¬ (60 : Int) < n := by omega
    have t5 : ¬ (60 : Int) < n' := by omega
    have hb2 : b.length ≤ 9000 := by omega
    have hn2 : n ≤ 60 := by omega
    have hn2' : n' ≤ 60 := by omega
    clear hg hb hn hn'
    go_enter Tryz.func6, Tryz.ntmps6
    go_wp2_with fail
    refine HK.out.mono ?_; rintro e w1 ⟨rfl, b1⟩
    have B1 := Lib.hid b1
    have HCU := Lib.hid (cutP_any (slUp HS.out b1) (HC.out.below b1) (by omega) hn2)
    clear b1
    go_wp2_with fail
    refine HCU.out.mono ?_; rintro e w2 ⟨v2, ls, rfl, l2, hfl, hll, b2⟩
    have B2 := Lib.hid (B1.out.trans (b2.mono B1.out.size))
    have HPD := Lib.hid (pushed_any l2 (HE.out.later B2.out) (by omega) (by rw [hfl]; omega))
    unfold PushedPost at HPD
    have hcnt := runP_cnt ls
    rw [hfl] at hcnt
    obtain ⟨X, hX⟩ : ∃ X, runP [] ls = X := ⟨_, rfl⟩
    rw [hX] at HPD hcnt
    obtain ⟨X1, X2, X3⟩ := X
    dsimp only at HPD hcnt
    have HX := Lib.hid (And.intro hX hfl)
    clear l2 b2 hfl hX
    go_wp2_with fail
    refine HPD.out.mono ?_; rintro e w3 ⟨v3, ps3, rfl, hm3, t3', b3⟩
    have B3 := Lib.hid (B2.out.trans (b3.mono B2.out.size))
    have T3 := Lib.hid t3'
    have M3 := Lib.hid hm3
    have HCV := Lib.hid (cutP_any (slUp HS.out B3.out) (HO.out.below B3.out) (by omega) hn2')
    clear t3' b3 hm3
    go_wp2_with fail
    refine HCV.out.mono ?_; rintro e w4 ⟨v4, ls4, rfl, l4, hfl4, hll4, b4⟩
    have B4 := Lib.hid (B3.out.trans (b4.mono B3.out.size))
    have T4 := Lib.hid (T3.out.below b4)
    have HPE := Lib.hid (pushed_any l4 (HE.out.later B4.out) (by omega) (by rw [hfl4]; omega))
    unfold PushedPost at HPE
    rw [pieces_same (show ls4.flatten = ls.flatten by rw [hfl4, HX.out.2]), HX.out.1] at HPE
    dsimp only at HPE
    clear l4 b4 hfl4
    go_wp2_with fail
    refine HPE.out.mono ?_; rintro e w5 ⟨v5, ps5, rfl, hm5, t5', b5⟩
    have B5 := Lib.hid (B4.out.trans (b5.mono B4.out.size))
    have hpl : ps3.length ≤ 1000000 := by
      have := congrArg List.length M3.out
      rw [List.length_map] at this
      omega
    have HSL := Lib.hid (sameI_yes (T4.out.below b5) t5' (M3.out.trans hm5.symm) hpl)
    obtain ⟨x1, x2, rfl⟩ := T4.out.shape
    obtain ⟨x3, x4, rfl⟩ := t5'.shape
    clear t5' b5 hm5 hpl
    cases X3
    all_goals
      go_wp2_with fail
      refine HSL.out.mono ?_; rintro e w6 ⟨rfl, b6⟩
      have B6 := Lib.hid (B5.out.trans (b6.mono B5.out.size))
      clear b6
      go_wp2_with fail
      go_ret
      exact ⟨rfl, B6.out⟩
end Go.Proofs.YtkoohdacneflfaaGreatDoor

/-
  What came in: a list of byte slices, a slice of numbers; what is laid when the call begins.
-/
namespace Go.Proofs.YtkoohdacneflfaaGreatDoor
open Go.RowKit Go.Shelf Go.Deep Go.ChangeShapes
set_option linter.unusedVariables false
set_option linter.unusedSimpArgs false
set_option maxRecDepth 100000

theorem weights_allL {H : Type} {P : Program} {e : TypeId} {d : DataW H} : ∀ {l : List (DataW H)}, d ∈ l → ∀ n ∈ d.weights P e, n ∈ DataW.weightsAll P e l
  | d0 :: r, hd, n, hn => by
    rw [DataW.weightsAll]
    rcases List.mem_cons.mp hd with rfl | hd
    · exact List.mem_append_left _ hn
    · exact List.mem_append_right _ (weights_allL hd n hn)

theorem addr_plain {w : World} {a : Addr} {v : Value} (h : w.cell? (a.add 0) = some v) : ∃ b off, a = ⟨b, off, none⟩ := by
  obtain ⟨b, off, spot⟩ := a
  have hspot : spot = none := by simpa [Addr.add] using World.cell?_spot h
  exact ⟨b, off, by rw [hspot]⟩

/-- The bytes of a row that came in. -/
theorem open_row1 {w : World} {A : Option Addr} {L C : Nat} {Z : List Int} (h1 : L ≤ C) (h2 : Z.length = C) (h3 : ∀ n ∈ Z, (Lit.int .u8 n).wf = true) (h4 : A = none → C = 0) (h5 : ∀ a', A = some a' → ∀ c, c < C → w.cell? (a'.add c) = some (.int .u8 (Z.getD c 0))) :
    ∃ l : List UInt8, l.length = L ∧ Sl w 0 w.heap.size (.slice A L C) (iz l) := by
  have hlen : (Z.take L).length = L := by rw [List.length_take]; omega
  obtain ⟨l, hl⟩ := iz_of (l := Z.take L) fun n hn => u8_of_wf (h3 n (List.mem_of_mem_take hn))
  have hll : l.length = L := by rw [← iz_len l, ← hl, hlen]
  refine ⟨l, hll, A, C, by rw [iz_len, hll], by rw [iz_len, hll]; exact h1, h4, fun h0 => ?_⟩
  rw [iz_len, hll] at h0 ⊢
  cases A with
  | none => have := h4 rfl; omega
  | some x =>
    have hx := h5 x rfl
    obtain ⟨b, off, rfl⟩ := addr_plain (hx 0 (by omega))
    have hcell : ∀ j, j < L → w.cell? ⟨b, off + j, none⟩ = some (.int .u8 ((iz l).getD j 0)) := fun j hj => by
      have := hx j (by omega)
      rw [WideShapes.add_plain] at this
      rw [this, ← hl, List.getD, List.getD, List.getElem?_take, if_pos hj]
    exact ⟨b, off, rfl, Nat.zero_le _, World.block_lt_of_cell? w _ (hcell 0 h0), hcell⟩

section
variable {H : Type} {enc : TypeId × Value → H} {w : World} {base : Nat} {held : Bool} {fuel : Nat} {cs : List Value} {x : DataW H × List MemPlace}
theorem open_bl (h : DataW.trod enc Tryz.prog w base (fun _ => true) held fuel 22 cs = some x) (hw : ∀ n ∈ x.1.weights Tryz.prog 22, n ≤ reachBytes) :
    ∃ a len cap ls, cs = [.slice a len cap] ∧ Bl w (.slice a len cap) ls ∧ ls.length ≤ 140737488355328 ∧ ∀ j, j < ls.length → (ls.getD j []).length ≤ 140737488355328 := by
  rcases open_int_rows Tryz.underlying22 Tryz.underlying28 Tryz.underlying5 (by kernel_rfl) (by kernel_rfl) h with ⟨rfl, rfl⟩ | ⟨a, len, cap, A, L, C, Z, rfl, hb, hl, hm, rfl, hr⟩
  · exact ⟨none, 0, 0, [], rfl, ⟨none, 0, rfl, Nat.le_refl _, fun h => by simp at h⟩, by simp, fun j hj => by simp at hj⟩
  · have hex : ∀ r, r < len → ∃ l : List UInt8, l.length = L r ∧ Sl w 0 w.heap.size (.slice (A r) (L r) (C r)) (iz l) := fun r hrl => by
      obtain ⟨_, h1, _, h2, h3, h4, h5⟩ := hr r (by omega)
      exact open_row1 h1 h2 h3 h4 fun a' ha' => (h5 a' ha').2
    have hbyt : Tryz.prog.bytesOf 5 = 1 := by kernel_rfl
    have hbyS : Tryz.prog.bytesOf 28 = 24 := by kernel_rfl
    have hreach : reachBytes = 140737488351232 := by decide
    have hcap : cap ≤ 140737488355328 := by
      have := hw (len * 24 + (cap - len) * 24) (by
        simp only [DataW.weights, Tryz.underlying22, hbyS, List.length_map, List.length_range]
        rw [← Nat.add_mul]; exact List.mem_cons_self)
      omega
    have hLr : ∀ r, r < len → L r ≤ 140737488355328 := fun r hrl => by
      obtain ⟨_, h1, _, h2, h3, h4, h5⟩ := hr r (by omega)
      cases hA : A r with
      | none => have := h4 hA; omega
      | some a' =>
        have := hw (C r) (by
          simp only [DataW.weights, Tryz.underlying22]
          refine List.mem_cons_of_mem _ (List.mem_append_left _ (weights_allL (d := intRow .u8 (A r) (L r) (Z r)) (List.mem_map.mpr ⟨r, List.mem_range.mpr hrl, rfl⟩) _ ?_))
          rw [hA]
          simp only [intRow, DataW.weights, Tryz.underlying28, hbyt, lits, List.length_map, List.length_take, List.length_drop, Nat.mul_one]
          rw [show min (L r) (Z r).length + ((Z r).length - L r) = C r by omega]
          exact List.mem_cons_self)
        omega
    obtain ⟨f, hf⟩ : ∃ f : Nat → List UInt8, ∀ r, r < len → (f r).length = L r ∧ Sl w 0 w.heap.size (.slice (A r) (L r) (C r)) (iz (f r)) :=
      ⟨fun r => if hrl : r < len then (hex r hrl).choose else [], fun r hrl => by simp only [dif_pos hrl]; exact (hex r hrl).choose_spec⟩
    have hll : ((List.range len).map f).length = len := by simp
    have hget : ∀ j, j < len → ((List.range len).map f).getD j [] = f j := fun j hj => by
      rw [List.getD, List.getElem?_map, List.getElem?_range hj]; rfl
    refine ⟨some a, len, cap, (List.range len).map f, rfl, ⟨some a, cap, by rw [hll], by rw [hll]; exact hl, fun h0 => ?_⟩, by rw [hll]; omega, fun j hj => ?_⟩
    · rw [hll] at h0 ⊢
      obtain ⟨b, off, rfl⟩ := addr_plain (hr 0 (by omega)).1
      refine ⟨b, off, rfl, World.block_lt_of_cell? w _ (hr 0 (by omega)).1, fun j hj => ⟨.slice (A j) (L j) (C j), ?_, ?_⟩⟩
      · have := (hr j (by omega)).1
        rwa [WideShapes.add_plain] at this
      · rw [hget j hj]; exact (hf j hj).2
    · rw [hll] at hj
      rw [hget j hj, (hf j hj).1]
      exact hLr j hj
end

/-- A slice of numbers that came in. -/
theorem ints_in {w : World} {a : Option Addr} {len cap : Nat} {zs : List Int}
    (h : (a = none ∧ len = 0 ∧ cap = 0 ∧ zs = []) ∨ ∃ x, a = some x ∧ len ≤ cap ∧ cap ≤ maxLen ∧ zs.length = cap ∧ (∀ i, i < zs.length → w.cell? (x.add i) = some (.int .i64 (zs.getD i 0))) ∧ ∀ n ∈ zs, (Lit.int .i64 n).wf = true) :
    Ints w (.slice a len cap) len := by
  rcases h with ⟨rfl, rfl, rfl, rfl⟩ | ⟨x, rfl, hl, hm, hz, hc, hw⟩
  · exact ⟨none, 0, rfl, fun h => by omega⟩
  · refine ⟨some x, cap, rfl, fun h0 => ?_⟩
    obtain ⟨b, off, rfl⟩ := addr_plain (hc 0 (by omega))
    refine ⟨b, off, rfl, World.block_lt_of_cell? w _ (hc 0 (by omega)), fun j hj => ⟨zs.getD j 0, ?_⟩⟩
    have := hc j (by omega)
    rwa [WideShapes.add_plain] at this

end Go.Proofs.YtkoohdacneflfaaGreatDoor
