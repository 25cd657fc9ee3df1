/-
  The law FrameKnown: the walk.
-/
import Derived.Test.YtlkafakanoefmaaDoorZ07
import Derived.Deep.LoopGhost
namespace Go.Proofs.YtlkafakanoefmaaDoor
open Go.RowKit Go.Shelf
set_option linter.unusedVariables false
set_option linter.unusedSimpArgs false
set_option maxRecDepth 100000

set_option maxHeartbeats 8000000 in
theorem known_any (w : World) : Calls Tryd.prog 6 #[] w fun e w' => e = .returned (.bool true) ∧ Below w.heap.size w w' := by
  obtain ⟨f1, f2, f3, f4, f5⟩ := known_facts
  have H12 := Lib.hid twelve_any
  have HA := Lib.hid awake_any
  have F1 := Lib.hid f1
  have F2 := Lib.hid f2
  have F3 := Lib.hid f3
  have F4 := Lib.hid f4
  have F5 := Lib.hid f5
  clear f1 f2 f3 f4 f5
  go_enter Tryd.func6, Tryd.ntmps6
  go_wp2_with fail
  refine (H12.out _).mono ?_; rintro e w1 ⟨v1, rfl, o1, b1⟩
  have HP := Lib.hid (put_ok o1.sl (by decide) (by decide))
  have B1 := Lib.hid b1
  clear o1 b1
  go_wp2_with fail
  refine HP.out.mono ?_; rintro e w2 ⟨v2, rfl, o2, b2⟩
  have B2 := Lib.hid (B1.out.trans (b2.mono B1.out.size))
  have o2' : OwnB w2 w1.heap.size v2 B12 := o2
  obtain ⟨g, c, rfl, hg⟩ := o2'.some_ (by rw [F1.out]; decide)
  rw [F1.out] at hg o2' ⊢
  have hgl := (o2'.lt g hg).2
  have hgB := (o2'.lt g hg).1
  have O2 := Lib.hid o2'
  have hs1 := B1.out.size
  clear o2 o2' b2
  have HN := Lib.hid (new_ok w2 12 (by decide) (by decide))
  go_wp2_with fail
  refine HN.out.mono ?_; rintro e w3 ⟨rfl, r3, b3⟩
  have B3 := Lib.hid (B2.out.trans (b3.mono B2.out.size))
  have R3 := Lib.hid r3
  have O3 := Lib.hid (O2.out.below b3)
  have hs3 := r3.lt
  clear r3 b3
  go_wp2_with fail
  refine (H12.out _).mono ?_; rintro e w4 ⟨v4, rfl, o4, b4⟩
  obtain ⟨g4, c4, rfl, hg4⟩ := o4.some_ (by decide)
  have hin4 : Sl w4 g4 (g4 + 1) (.slice (some ⟨g4, 0, none⟩) tw12.length c4) (iz tw12) := o4.in_ hg4
  rw [show tw12.length = 12 from rfl]
  obtain ⟨sa, sn, sc, hcut0, hcs⟩ := upto_sl hin4 rfl (show 11 ≤ tw12.length by decide)
  have hcut11 : ∀ wx, (Instr.slice 22 (.slice (some ⟨g4, 0, none⟩) 12 c4) none (some (.int .i64 11)) none).run Tryd.prog wx = .ok (.slice sa sn sc) wx := hcut0
  have HP11 := Lib.hid (put_no hcs (.inl (by decide)) 4 (by decide))
  have B4 := Lib.hid (B3.out.trans (b4.mono B3.out.size))
  have R4 := Lib.hid (R3.out.below b4)
  have O4 := Lib.hid (O3.out.below b4)
  have hs4 := b4.size
  have HN11 := Lib.hid (new_no w4 11 (.inl (by decide)))
  have HN66 := Lib.hid (new_no w4 65536 (.inr (by decide)))
  clear hin4 hcs hcut0 o4 b4
  go_wp2_with fail
  refine HP11.out.mono ?_; rintro e w5 ⟨rfl, rfl⟩
  go_wp2_with fail
  refine HN11.out.mono ?_; rintro e w6 ⟨rfl, rfl⟩
  go_wp2_with fail
  refine HN66.out.mono ?_; rintro e w7 ⟨rfl, rfl⟩
  -- the first byte
  have hin7 : Sl w7 g (g + 1) (.slice (some ⟨g, 0, none⟩) B12.length c) (iz B12) := by rw [F1.out]; exact O4.out.in_ hg
  obtain ⟨ya, yn, yc, hcy0, hys⟩ := upto_sl hin7 rfl (show 1 ≤ B12.length by rw [F1.out]; decide)
  rw [F1.out] at hcy0
  have hcy : ∀ wx, (Instr.slice 22 (.slice (some ⟨g, 0, none⟩) 14 c) none (some (.int .i64 1)) none).run Tryd.prog wx = .ok (.slice ya yn yc) wx := hcy0
  have HPU := Lib.hid (push_any R4.out hys (by omega) (by omega) (by simp) (runF_nil 12) (by decide) (by decide) (by decide) (by decide))
  rw [List.nil_append] at HPU
  unfold PushFPost at HPU
  rw [F2.out] at HPU
  clear hin7 hys hcy0
  go_wp2_with fail
  refine HPU.out.mono ?_; rintro e w8 ⟨v8, us8, o8, rfl, _, r8, ho8, ha8⟩
  have hR8 : ∀ g', o8 = some g' → w7.heap.size ≤ g' := fun g' h => (ho8 g' h).resolve_left (by simp)
  have hA8 : Aside (fun j => j = w2.heap.size) w7 w8 := ha8.mono fun j _ h => by
    rcases h with h | h
    · exact h
    · simp at h
  have B8 := Lib.hid (B4.out.trans (hA8.below fun k hk => ⟨by omega, by omega⟩))
  have R8 := Lib.hid r8
  have O8 := Lib.hid (O4.out.aside hA8 fun b hb e => by have := (O2.out.lt b hb).2; omega)
  have HO8 := Lib.hid hR8
  have hs8 := hA8.size
  clear r8 ho8 ha8 hA8 hR8 HPU
  -- two more
  have hin8 : Sl w8 g (g + 1) (.slice (some ⟨g, 0, none⟩) (iz B12).length c) (iz B12) := by rw [iz_len, F1.out]; exact O8.out.in_ hg
  obtain ⟨sv, hcz0, hzs⟩ := slice_cut hin8 (p := 1) (m := 2) (by rw [iz_len, F1.out]; decide)
  rw [iz_len, F1.out] at hcz0
  rw [iz_cut] at hzs
  have hcz : ∀ wx, (Instr.slice 22 (.slice (some ⟨g, 0, none⟩) 14 c) (some (.int .i64 1)) (some (.int .i64 3)) none).run Tryd.prog wx = .ok sv wx := hcz0
  have HPU := Lib.hid (push_any R8.out hzs (by omega) (by omega) (fun e => by have := HO8.out g e; omega) F2.out (by decide) (by decide) (by decide) (by decide))
  unfold PushFPost at HPU
  rw [F3.out, F4.out] at HPU
  clear hin8 hzs hcz0
  go_wp2_with fail
  refine HPU.out.mono ?_; rintro e w9 ⟨v9, us9, o9, rfl, _, r9, ho9, ha9⟩
  have hR9 : ∀ g', o9 = some g' → w7.heap.size ≤ g' := fun g' h => by
    rcases ho9 g' h with h | h
    · exact HO8.out g' h
    · omega
  have B9 := Lib.hid (B8.out.trans (ha9.below (B := w.heap.size) fun k hk => ⟨by omega, fun e => by
    rcases e with e | e
    · omega
    · have := HO8.out k e; omega⟩))
  have O9 := Lib.hid (O8.out.aside ha9 fun b hb e => by
    have := (O2.out.lt b hb).2
    rcases e with e | e
    · omega
    · have := HO8.out b e; omega)
  have R9 := Lib.hid r9
  have HO9 := Lib.hid hR9
  have hs9 := ha9.size
  clear r9 ho9 ha9 hR9 HPU
  -- the rest, and two bytes behind it
  have hin9 : Sl w9 g (g + 1) (.slice (some ⟨g, 0, none⟩) B12.length c) (iz B12) := by rw [F1.out]; exact O9.out.in_ hg
  obtain ⟨ta, tn, tc, hct0, hts⟩ := from_sl hin9 rfl (show 3 ≤ B12.length by rw [F1.out]; decide)
  rw [F1.out] at hct0
  have hct : ∀ wx, (Instr.slice 22 (.slice (some ⟨g, 0, none⟩) 14 c) (some (.int .i64 3)) none none).run Tryd.prog wx = .ok (.slice ta tn tc) wx := hct0
  have HCP := Lib.hid (copy_any (hts w9 hin9) (by decide))
  unfold CopyPost at HCP
  clear hin9 hts hct0
  go_wp2_with fail
  refine HCP.out.mono ?_; rintro e w10 ⟨v10, rfl, o10, b10⟩
  obtain ⟨v11, w11, r11, o11, b11⟩ := app2_run o10 0 13 (by decide) b10.size
  have hbb : Below w9.heap.size w9 w11 := b10.trans b11
  have o11' : OwnR w11 w9.heap.size v11 (iz (B12.drop 3 ++ [0, 13])) := o11
  have R11 := Lib.hid (R9.out.below hbb)
  have B11 := Lib.hid (B9.out.trans (hbb.mono (by omega)))
  have hs11 := hbb.size
  have hne11 : w9.heap.size < w11.heap.size := by
    rcases o11'.2 with ⟨_, h⟩ | ⟨g', cap, cur, _, h1, h2, _⟩
    · exact absurd h (by decide)
    · have := (Array.getElem?_eq_some_iff.mp h2).1; omega
  obtain ⟨k, hk1, hk2, hks⟩ := Sl.one o11'.sl hne11
  have HPU := Lib.hid (push_any R11.out hks hk2 (by omega) (fun e => by have := (R9.out.olt k e).1; omega) F4.out (by decide) (by decide) (by decide) (by decide))
  unfold PushFPost at HPU
  rw [F5.out] at HPU
  clear o10 b10 o11 b11 hbb o11' hks
  go_wp2_with (at_builtin; refine Lib.wpList_append_run _ rfl _ _ _ _ rfl _ _ rfl rfl _ _ r11 ?_)
  refine HPU.out.mono ?_; rintro e w12 ⟨v12, us12, o12, rfl, t12, r12, ho12, ha12⟩
  have R12 := Lib.hid (show Rr w12 o12 w2.heap.size _ 12 [] true from r12)
  have L12 := Lib.hid (show Bl w12 v12 [tw12] from t12.bl)
  have B12' := Lib.hid (B11.out.trans (ha12.below (B := w.heap.size) fun k hk => ⟨by omega, fun e => by
    rcases e with e | e
    · omega
    · have := HO9.out k e; omega⟩))
  have hs12 := ha12.size
  clear r12 t12 ho12 ha12 HPU
  have HPO := Lib.hid (push_out (bv := .slice none 0 0) R12.out)
  go_wp2_with fail
  refine HPO.out.mono ?_; rintro e w13 ⟨rfl, b13⟩
  have R13 := Lib.hid (R12.out.below b13)
  have L13 := Lib.hid (L12.out.below b13)
  have B13 := Lib.hid (B12'.out.trans (b13.mono B12'.out.size))
  clear b13
  go_wp2_with fail
  refine (HA.out _).mono ?_; rintro e w14 ⟨rfl, b14⟩
  have R14 := Lib.hid (R13.out.below b14)
  have L14 := Lib.hid (L13.out.below b14)
  have B14 := Lib.hid (B13.out.trans (b14.mono B13.out.size))
  clear b14
  go_wp2_with fail
  refine (H12.out _).mono ?_; rintro e w15 ⟨v15, rfl, o15, b15⟩
  have bal : Below w15.heap.size w15 (w15.alloc (.cells #[v15] 22)) := (Below.refl _ _).alloc (Nat.le_refl _) _
  have R16 := Lib.hid ((R14.out.below b15).below bal)
  have B16 := Lib.hid ((B14.out.trans (b15.mono B14.out.size)).trans (bal.mono (B14.out.trans (b15.mono B14.out.size)).size))
  have HSL := Lib.hid (sameL_any ((L14.out.below b15).below bal) (bl_one o15) (by decide))
  obtain ⟨a15, c15, hv15⟩ := o15.shape
  subst hv15
  clear o15 b15 bal
  go_wp2_with fail
  refine HSL.out.mono ?_; rintro e w17 ⟨rfl, b17⟩
  have R17 := Lib.hid (R16.out.below b17)
  have B17 := Lib.hid (B16.out.trans (b17.mono B16.out.size))
  have HBR := Lib.hid (broken_any R17.out)
  have HLF := Lib.hid (left_any R17.out)
  clear b17
  go_wp2_with fail
  refine HBR.out.mono ?_; rintro e w18 ⟨rfl, rfl⟩
  go_wp2_with fail
  refine HLF.out.mono ?_; rintro e w19 ⟨rfl, n19, rfl⟩
  go_wp2_with fail
  go_ret
  exact ⟨rfl, below_drewN B17.out _⟩
end Go.Proofs.YtlkafakanoefmaaDoor

/-
  Told messages behind told messages; the law's pushed: its pieces.
-/
namespace Go.Proofs.YtlkafakanoefmaaDoor
open Go.RowKit Go.Shelf
set_option linter.unusedVariables false
set_option linter.unusedSimpArgs false
set_option maxRecDepth 100000

/-- append of no byte slices. -/
theorem run_appS0 {w : World} (B : Nat) (v : Value) (us : List Value) (ad : Option Addr) (c : Nat) (hown : OwnS w B v us) :
    (Builtin.append_ #[31, 31] 31 #[v, .slice ad 0 c]).run Tryd.prog w = .ok v w := by
  obtain ⟨i0, hi, hz0, hz1, hz2⟩ := info_parts Tryd.infoS
  rcases hown with ⟨rfl, rfl⟩ | ⟨g, cap, rfl, hbg, hlc, hcm, hg⟩
  · cases ad <;> simp [Builtin.append_, run_underlying Tryd.underlying31, sizeOf, typeInfo, hi, Builtin.lenOf, Builtin.firstCells, loadCells, loadCellsFrom]
  · cases ad <;> simp [Builtin.append_, run_underlying Tryd.underlying31, sizeOf, typeInfo, hi, Builtin.lenOf, Builtin.firstCells, loadCells, loadCellsFrom, storeCells, hlc]

theorem told_cat {W : World} {B : Nat} {v v' : Value} {us us' : List Value} {ls ls' : List (List UInt8)} {X : Nat → Prop} (h : ToldN W B v us ls X) (h' : ToldN W B v' us' ls' X) (hB : B ≤ W.heap.size) (hul : us.length + us'.length ≤ 1000000)
    (hX : ∀ b, X b → b < B ∨ (∃ z fz, W.heap[b]? = some (.cells z 5 fz))) :
    ∃ a2 c2 X4, (Builtin.append_ #[31, 31] 31 #[v, v']).run Tryd.prog W = .ok (.slice a2 (us ++ us').length c2) X4 ∧
      ToldN X4 B (.slice a2 (us ++ us').length c2) (us ++ us') (ls ++ ls') X ∧ Aside (fun b => v.ownBlock = some b) W X4 := by
  obtain ⟨i0, hi, hz0, hz1, hz2⟩ := info_parts Tryd.infoS
  obtain ⟨va, vc, hvs⟩ := h.told.row.shape
  rcases h'.told.row with ⟨e1, e2⟩ | ⟨g, cap, e1, hBg, hcl, hcm, hg⟩
  · subst e1; subst e2
    have e3 : ls' = [] := List.eq_nil_of_length_eq_zero (h'.told.len.symm)
    subst e3
    refine ⟨va, vc, W, ?_, ?_, Aside.refl _ _⟩
    · rw [List.append_nil, ← hvs]; exact run_appS0 B v us none 0 h.told.row
    · rw [List.append_nil, List.append_nil, ← hvs]; exact h
  · obtain ⟨v2, X4, r2, s4, g4⟩ := run_append_Z (P := Tryd.prog) (w := W) B 31 31 22 i0 (.slice none 0 0) 24 Tryd.underlying31 hi hz0 hz1 hz2 rfl v us h.told.row ⟨g, 0, none⟩ us'.length cap us' rfl
      (fun j x hx => by
        rw [WideShapes.add_plain, Nat.zero_add, World.cell?, hg]
        have hj := (List.getElem?_eq_some_iff.mp hx).1
        simp [List.getElem?_append_left hj, hx])
      (fun x hx => by
        obtain ⟨m, hm⟩ := h'.own hx
        obtain ⟨a, c, rfl⟩ := hm.shape
        rfl) (by unfold maxLen; omega) (by omega) hB
    have s4' : OwnS X4 B v2 (us ++ us') := s4
    obtain ⟨a2, c2, hv2⟩ := s4'.shape
    subst hv2
    have hA : Aside (fun b => v.ownBlock = some b) W X4 := aside_grown g4
    have keep : ∀ B' v' l', OwnB W B' v' l' → OwnB X4 B' v' l' := fun B' v' l' hx => hx.aside hA (h.told.row.ne hx)
    have hll := h.told.len
    have hll' := h'.told.len
    refine ⟨a2, c2, X4, by rw [e1]; exact r2, ⟨⟨s4', by rw [List.length_append, List.length_append, hll, hll'], fun j hj => ?_⟩, fun b hb hx => ?_, fun u hu b hb => ?_⟩, hA⟩
    · by_cases hj2 : j < ls.length
      · have e1 : (us ++ us').getD j (.slice none 0 0) = us.getD j (.slice none 0 0) := by
          rw [List.getD, List.getElem?_append_left (by omega)]; rfl
        have e2 : (ls ++ ls').getD j [] = ls.getD j [] := by
          rw [List.getD, List.getElem?_append_left hj2]; rfl
        rw [e1, e2]
        exact keep _ _ _ (h.told.each j hj2)
      · rw [List.length_append] at hj
        have e1 : (us ++ us').getD j (.slice none 0 0) = us'.getD (j - ls.length) (.slice none 0 0) := by
          rw [List.getD, List.getElem?_append_right (by omega), hll]; rfl
        have e2 : (ls ++ ls').getD j [] = ls'.getD (j - ls.length) [] := by
          rw [List.getD, List.getElem?_append_right (by omega)]; rfl
        rw [e1, e2]
        exact keep _ _ _ (h'.told.each _ (by omega))
    · have hlt := (OwnZ.lt s4 b hb).1
      rcases hX b hx with h1 | ⟨z, fz, h1⟩
      · omega
      · have hbW := (Array.getElem?_eq_some_iff.mp h1).1
        have hnv : ¬ v.ownBlock = some b := fun e => h.row b e hx
        have h2 := (hA.block b hbW hnv).trans h1
        rcases s4' with ⟨e, _⟩ | ⟨g', cap', e, _, _, _, hg'⟩
        · rw [e] at hb; cases hb
        · rw [e] at hb
          have e2 : g' = b := by injection hb
          subst e2
          rw [h2] at hg'
          injection hg' with hg'
          injection hg' with _ h3 _
          exact absurd h3 (by decide)
    · rcases List.mem_append.mp hu with hu | hu
      · exact h.each u hu b hb
      · exact h'.each u hu b hb

/-- A told list is as it was. -/
theorem ToldN.below {W W' : World} {B : Nat} {v : Value} {us : List Value} {ls : List (List UInt8)} {X : Nat → Prop} (h : ToldN W B v us ls X) (hb : Below W.heap.size W W') : ToldN W' B v us ls X :=
  h.aside (G := fun _ => False) (Aside.of_all hb) (fun _ _ _ h => h.elim) fun _ _ _ h => h

theorem Bl.one {w : World} {v : Value} {l : List (List UInt8)} (h : Bl w v l) : ∃ a c, v = .slice a l.length c ∧ l.length ≤ c ∧ ∀ j, j < l.length → ∃ b off k u, a = some ⟨b, off, none⟩ ∧ b < w.heap.size ∧ k < w.heap.size ∧ w.cell? ⟨b, off + j, none⟩ = some u ∧ Sl w k (k + 1) u (iz (l.getD j [])) := by
  obtain ⟨a, c, rfl, h1, h2⟩ := h
  refine ⟨a, c, rfl, h1, fun j hj => ?_⟩
  obtain ⟨b, off, rfl, hlt, h3⟩ := h2 (by omega)
  obtain ⟨u, h4, h5⟩ := h3 j hj
  obtain ⟨k, _, hk, h6⟩ := Sl.one h5 (by omega)
  exact ⟨b, off, k, u, rfl, hlt, hk, h4, h6⟩
end Go.Proofs.YtlkafakanoefmaaDoor

/-
  The law's pushed: the walk.
-/
namespace Go.Proofs.YtlkafakanoefmaaDoor
open Go.RowKit Go.Shelf
set_option linter.unusedVariables false
set_option linter.unusedSimpArgs false
set_option maxRecDepth 100000

def PushedPost (w : World) (M : Nat) (ls : List (List UInt8)) (e : Ending) (w' : World) : Prop :=
  ∃ v, e = .returned (.tuple #[v, .int .i64 (pushF M [] ls).2, .bool true]) ∧ Bl w' v (pushF M [] ls).1 ∧ Below w.heap.size w w'

theorem pushF_step (M : Nat) (l : List UInt8) (ls : List (List UInt8)) (k : Nat) (hk : k < ls.length) :
    pushF M l (ls.drop k) = if (runF M (l ++ ls.getD k [])).2.2 = 0 then ((runF M (l ++ ls.getD k [])).1 ++ (pushF M (runF M (l ++ ls.getD k [])).2.1 (ls.drop (k + 1))).1, (pushF M (runF M (l ++ ls.getD k [])).2.1 (ls.drop (k + 1))).2) else ((runF M (l ++ ls.getD k [])).1, (runF M (l ++ ls.getD k [])).2.2) := by
  rw [List.drop_eq_getElem_cons hk, pushF, List.getD, List.getElem?_eq_getElem hk]
  rfl

/-- How pushed's loop stands. -/
structure PdI (w : World) (M : Nat) (ls : List (List UInt8)) (k : Nat) (v : Value) (us : List Value) (lsO : List (List UInt8)) (o : Option Nat) (l : List UInt8) (t : Nat) (W : World) : Prop where
  told : ToldN W (w.heap.size + 1) v us lsO (fun b => o = some b)
  rr : Rr W o w.heap.size t M l false
  still : runF M l = ([], l, 0)
  run : pushF M [] ls = (lsO ++ (pushF M l (ls.drop k)).1, (pushF M l (ls.drop k)).2)
  len : 14 * lsO.length + l.length ≤ (ls.take k).flatten.length
  tlen : t ≤ (ls.take k).flatten.length
  off : ∀ g, o = some g → w.heap.size + 1 ≤ g
  bel : Below w.heap.size w W

theorem PdI.drewN {w W : World} {M k t : Nat} {ls lsO : List (List UInt8)} {v : Value} {us : List Value} {o : Option Nat} {l : List UInt8} (h : PdI w M ls k v us lsO o l t W) (n : Nat) : PdI w M ls k v us lsO o l t (W.drewN n) :=
  ⟨h.told.below (below_drewN (Below.refl _ _) n), h.rr.drewN n, h.still, h.run, h.len, h.tlen, h.off, below_drewN h.bel n⟩

theorem flat_drop_le (ls : List (List UInt8)) (k : Nat) (hk : k < ls.length) : (ls.take k).flatten.length + (ls.getD k []).length ≤ ls.flatten.length := by
  rw [← flat_take ls k hk]; exact flat_le ls (k + 1)

/-- One piece pushed, and what it tells laid behind. -/
theorem PdI.push {w wr w2 : World} {M k t T : Nat} {ls lsO : List (List UInt8)} {ov vx : Value} {us usx : List Value} {o o2 : Option Nat} {l p : List UInt8} (h : PdI w M ls k ov us lsO o l t wr) (hM : 12 ≤ M) (hk : k < ls.length) (hF : ls.flatten.length ≤ 900000) (hp : ls.getD k [] = p)
    (hT : ToldN w2 wr.heap.size vx usx (runF M (l ++ p)).1 (fun b => o2 = some b)) (hR : Rr w2 o2 w.heap.size T M (runF M (l ++ p)).2.1 (decide ((runF M (l ++ p)).2.2 ≠ 0))) (hTt : T = t + p.length) (ho : ∀ g, o2 = some g → o = some g ∨ wr.heap.size ≤ g) (ha : Aside (fun j => j = w.heap.size ∨ o = some j) wr w2) :
    ∃ n a2 c2 X4, (Builtin.append_ #[31, 31] 31 #[ov, vx]).run Tryd.prog w2 = .ok (.slice a2 n c2) X4 ∧ Hid (Rr X4 o2 w.heap.size T M (runF M (l ++ p)).2.1 (decide ((runF M (l ++ p)).2.2 ≠ 0)) ∧ (runF M (l ++ p)).2.1.length ≤ M + 1 ∧
      ((runF M (l ++ p)).2.2 = 0 → ∃ usN lsN, n = usN.length ∧ PdI w M ls (k + 1) (.slice a2 n c2) usN lsN o2 (runF M (l ++ p)).2.1 T X4) ∧
      ((runF M (l ++ p)).2.2 ≠ 0 → ∀ B, Below X4.heap.size X4 B → PushedPost w M ls (.returned (.tuple #[.slice a2 n c2, .int .i64 (runF M (l ++ p)).2.2, .bool true])) B)) := by
  obtain ⟨told, rr, still, run, len, tlen, off, bel⟩ := h
  have hRlt : w.heap.size < wr.heap.size := rr.lt
  have hlen := (runF_len M (l ++ p)).1
  have hrest := runF_rest M hM (l ++ p)
  have hft := flat_take ls k hk
  have hfd := flat_drop_le ls k hk
  rw [hp] at hft hfd
  have hst := pushF_step M l ls k hk
  rw [hp] at hst
  rw [List.length_append] at hlen
  obtain ⟨X, hX⟩ : ∃ X, runF M (l ++ p) = X := ⟨_, rfl⟩
  rw [hX] at hT hR hlen hrest hst ⊢
  have told2 : ToldN w2 (w.heap.size + 1) ov us lsO (fun b => o2 = some b) := told.aside ha (fun b hb hlt hg => by
    rcases hg with e | e
    · omega
    · exact e) (fun b hb hlt hx => by
    rcases ho b hx with e | e
    · exact e
    · omega)
  have hT2 := hT.mono (show w.heap.size + 1 ≤ wr.heap.size from hRlt)
  have off2 : ∀ g, o2 = some g → w.heap.size + 1 ≤ g := fun g hg => by
    rcases ho g hg with e | e
    · exact off g e
    · omega
  have hul : us.length + usx.length ≤ 1000000 := by rw [told.told.len, hT.told.len]; omega
  obtain ⟨a2, c2, X4, r4, hT4, hA4⟩ := told_cat told2 hT2 (by have := ha.size; omega) hul (fun b hb => .inr (hR.typed b hb))
  have hov : ∀ b, ov.ownBlock = some b → w.heap.size + 1 ≤ b ∧ o2 ≠ some b := fun b hb => ⟨(OwnZ.lt told2.told.row b hb).1, fun e => told2.row b hb e⟩
  have hR4 := hR.aside hA4 (fun e => by have := (hov _ e).1; omega) (fun g hg e => (hov g e).2 hg)
  have hbel2 : Below w.heap.size w w2 := bel.trans (ha.below fun b hb => ⟨by omega, fun e => by
    rcases e with e | e
    · omega
    · have := off b e; omega⟩)
  have hbel4 : Below w.heap.size w X4 := hbel2.trans (hA4.below fun b hb => ⟨by have := ha.size; omega, fun e => by have := (hov b e).1; omega⟩)
  refine ⟨_, a2, c2, X4, r4, Lib.hid ⟨hR4, hrest.1, fun h0 => ⟨us ++ usx, lsO ++ X.1, rfl, hT4, ?_, ?_, ?_, ?_, ?_, off2, hbel4⟩, fun h0 B hB => ⟨.slice a2 (us ++ usx).length c2, ?_, ?_, hbel4.trans (hB.mono hbel4.size)⟩⟩⟩
  · have : decide (X.2.2 ≠ 0) = false := decide_eq_false (by simpa using h0)
    rw [this] at hR4
    exact hR4
  · exact Prod.ext (by rw [(hrest.2.1 h0)]) (by rw [(hrest.2.1 h0)])
  · rw [run, hst, if_pos h0, List.append_assoc]
  · rw [hft, List.length_append]; omega
  · rw [hft]; omega
  · rw [run, hst, if_neg h0]
  · have e : (pushF M [] ls).1 = lsO ++ X.1 := by rw [run, hst, if_neg h0]
    rw [e]
    exact hT4.bl.below hB

set_option maxHeartbeats 4000000 in
theorem pushed_any {w : World} {M : Nat} {v : Value} {ls : List (List UInt8)} (h : Bl w v ls) (hM1 : 12 ≤ M) (hM2 : M ≤ 65535) (hl : ls.length ≤ 1000000) (hF : ls.flatten.length ≤ 900000) :
    Calls Tryd.prog 28 #[.int .i64 M, v] w (PushedPost w M ls) := by
  have HN := Lib.hid (new_ok w M hM1 hM2)
  obtain ⟨a, c, rfl, hlc, hel⟩ := h.one
  have HE := Lib.hid hel
  clear h hel
  go_enter Tryd.func28, Tryd.ntmps28
  go_wp2_with fail
  refine HN.out.mono ?_; rintro e w1 ⟨rfl, r1, b1⟩
  have HI0 := Lib.hid (show PdI w M ls 0 (.slice none 0 0) [] [] none [] 0 w1 from ⟨ToldN.nil _ _ _, r1, runF_nil M, by rw [List.drop_zero, List.nil_append], by simp, by simp, fun g hg => by simp at hg, b1⟩)
  clear r1 b1
  go_wp2_with fail
  go_loopw [9, 10, 11, 12] (fun ov i _ _ wr => ∃ (us : List Value) (lsO : List (List UInt8)) (k : Nat) (o : Option Nat) (l : List UInt8) (t : Nat), k ≤ ls.length ∧ i = .int .i64 k ∧ Hid (PdI w M ls k ov us lsO o l t wr)) (fun _ i _ _ _ => ls.length - (intOf i).toNat)
  case atStart => exact ⟨[], [], 0, none, [], 0, Nat.zero_le _, rfl, HI0⟩
  case round =>
    obtain ⟨us, lsO, k, o, l, t, hk, rfl, HI⟩ := hrel
    obtain ⟨oa, oc, hov⟩ := HI.out.told.told.row.shape
    by_cases hlt : k < ls.length
    · have t1 : (k : Int) < ls.length := by omega
      obtain ⟨eb, eo, ek, eu, ea, hel1, hel2, hel3, hel4⟩ := HE.out k hlt
      subst ea
      have q1 := ((Aside.of_all (G := fun _ => False) HI.out.bel).cell (p := ⟨eb, eo + k, none⟩) hel1 fun h => h).trans hel3
      have hsz := HI.out.bel.size
      have hS : Sl wr ek (ek + 1) eu (iz (ls.getD k [])) := sl_apart hel4 (Aside.of_all (G := fun _ => False) HI.out.bel) hel2 fun h => h
      obtain ⟨p, hp⟩ : ∃ p, ls.getD k [] = p := ⟨_, rfl⟩
      rw [hp] at hS
      have hfd := flat_drop_le ls k hlt
      rw [hp] at hfd
      have HPU := Lib.hid (push_any HI.out.rr hS (by omega) (by omega) (fun e => by have := HI.out.off ek e; omega) HI.out.still hM1 hM2 (by have := HI.out.tlen; omega) (by rw [List.length_append]; have := HI.out.len; omega))
      unfold PushFPost at HPU
      clear hS hfd
      subst hov
      go_wp2_with fail
      refine HPU.out.mono ?_; rintro e w2 ⟨vx, usx, o2, rfl, t2, r2, ho2, ha2⟩
      obtain ⟨nn, a2, c2, X4, r4, HX⟩ := HI.out.push hM1 hlt hF hp t2 r2 rfl ho2 ha2
      obtain ⟨⟨xm, xa, xb⟩, hX⟩ : ∃ X : List (List UInt8) × List UInt8 × Int, runF M (l ++ p) = X := ⟨_, rfl⟩
      rw [hX] at HX ⊢
      dsimp only at HX ⊢
      have HLF := Lib.hid (left_any HX.out.1)
      have hle := HX.out.2.1
      obtain ⟨xva, xvc, hxv⟩ := t2.told.row.shape
      subst hxv
      clear t2 r2 ho2 ha2 hX hp HPU
      have t2 : ¬ ((M : Int) + 1 < xa.length) := by omega
      by_cases hb0 : xb = 0
      · subst hb0
        obtain ⟨usN, lsN, hnn, hI⟩ := HX.out.2.2.1 rfl
        subst hnn
        have HI4 := Lib.hid hI
        clear hI
        go_wp2_with (at_builtin; refine Lib.wpList_append_run _ rfl _ _ _ _ rfl _ _ rfl rfl _ _ r4 ?_)
        refine HLF.out.mono ?_; rintro e w5 ⟨rfl, n5, rfl⟩
        go_wp2_with fail
        refine ⟨⟨usN, lsN, k + 1, o2, xa, _, by omega, by go_num, HI4.out.drewN n5⟩, ?_⟩
        simp [intOf]; omega
      · have hbn : (xb != 0) = true := by simpa using hb0
        have HF := Lib.hid (HX.out.2.2.2 hb0)
        go_wp2_with (at_builtin; refine Lib.wpList_append_run _ rfl _ _ _ _ rfl _ _ rfl rfl _ _ r4 ?_)
        refine HLF.out.mono ?_; rintro e w5 ⟨rfl, n5, rfl⟩
        go_wp2_with fail
        refine bodyPost_ret (results_tmp3 rfl _ _ _) rfl ?_
        exact HF.out _ (below_drewN (Below.refl _ _) n5)
    · have t1 : ¬ (k : Int) < ls.length := by omega
      have hkl : k = ls.length := by omega
      have HF := Lib.hid (show PushedPost w M ls (.returned (.tuple #[.slice oa us.length oc, .int .i64 0, .bool true])) wr by
        have hr := HI.out.run
        rw [List.drop_of_length_le (by omega), pushF] at hr
        refine ⟨.slice oa us.length oc, by rw [hr], ?_, HI.out.bel⟩
        rw [hr, List.append_nil, ← hov]
        exact HI.out.told.bl)
      subst hov
      clear hkl
      go_wp2_with fail
      refine bodyPost_ret (results_tmp3 rfl _ _ _) rfl ?_
      exact HF.out
end Go.Proofs.YtlkafakanoefmaaDoor

/-
  The law FrameCuts.
-/
namespace Go.Proofs.YtlkafakanoefmaaDoor
open Go.RowKit Go.Shelf
set_option linter.unusedVariables false
set_option linter.unusedSimpArgs false
set_option maxRecDepth 100000

theorem Ints.below {w w' : World} {v : Value} {n : Nat} (h : Ints w v n) (hb : Below w.heap.size w w') : Ints w' v n := by
  obtain ⟨a, c, rfl, h1⟩ := h
  refine ⟨a, c, rfl, fun h0 => ?_⟩
  obtain ⟨b, off, rfl, hlt, h2⟩ := h1 h0
  refine ⟨b, off, rfl, Nat.lt_of_lt_of_le hlt hb.size, fun j hj => ?_⟩
  obtain ⟨x, hx⟩ := h2 j hj
  exact ⟨x, ((Aside.of_all (G := fun _ => False) hb).cell (p := ⟨b, off + j, none⟩) hlt fun h => h).trans hx⟩

theorem pushF_len (M : Nat) (hM : 12 ≤ M) (ls : List (List UInt8)) : 14 * (pushF M [] ls).1.length ≤ ls.flatten.length := by
  have h := (runF_len M ls.flatten).1
  rw [pushF_all M hM ls [] (runF_nil M), List.nil_append]
  show 14 * (runF M ls.flatten).1.length ≤ _
  omega

set_option maxHeartbeats 4000000 in
theorem cuts_any {w : World} {m : Int} {bv cv ov : Value} {b : List UInt8} {n n' : Nat} (h : Sl w 0 w.heap.size bv (iz b)) (hc : Ints w cv n) (ho : Ints w ov n') (hb : b.length ≤ 9223372036854775807) (hn : n ≤ 9223372036854775807) (hn' : n' ≤ 9223372036854775807) :
    Calls Tryd.prog 7 #[.int .i64 m, bv, cv, ov] w fun e w' => e = .returned (.bool true) ∧ Below w.heap.size w w' := by
  have HK := Lib.hid (known_any w)
  have HS := Lib.hid h
  have HC := Lib.hid hc
  have HO := Lib.hid ho
  obtain ⟨a, c, rfl, _⟩ := h
  obtain ⟨ca, cc, rfl, _⟩ := hc
  obtain ⟨oa, oc, rfl, _⟩ := ho
  rw [iz_len] at HS ⊢
  by_cases hg : m < 12 ∨ 65535 < m ∨ 20000 < b.length ∨ 60 < n ∨ 60 < n'
  · have key : Calls Tryd.prog 7 #[.int .i64 m, .slice a b.length c, .slice ca n cc, .slice oa n' oc] w fun e w' => e = .returned (.bool true) ∧ Below w.heap.size w w' := by
      by_cases t1 : m < 12
      · clear hg
        go_enter Tryd.func7, Tryd.ntmps7
        go_wp2_with fail
        refine HK.out.mono ?_; rintro e w1 ⟨rfl, b1⟩
        have B1 := Lib.hid b1
        clear b1
        go_wp2_with fail
        go_ret
        exact ⟨rfl, B1.out⟩
      · by_cases t2 : 65535 < m
        · clear hg
          go_enter Tryd.func7, Tryd.ntmps7
          go_wp2_with fail
          refine HK.out.mono ?_; rintro e w1 ⟨rfl, b1⟩
          have B1 := Lib.hid b1
          clear b1
          go_wp2_with fail
          go_ret
          exact ⟨rfl, B1.out⟩
        · by_cases t3 : 20000 < b.length
          · have t3' : (20000 : Int) < b.length := by omega
            clear hg
            go_enter Tryd.func7, Tryd.ntmps7
            go_wp2_with fail
            refine HK.out.mono ?_; rintro e w1 ⟨rfl, b1⟩
            have B1 := Lib.hid b1
            clear b1
            go_wp2_with fail
            go_ret
            exact ⟨rfl, B1.out⟩
          · have t3' : ¬ (20000 : Int) < b.length := by omega
            by_cases t4 : 60 < n
            · have t4' : (60 : Int) < n := by omega
              clear hg
              go_enter Tryd.func7, Tryd.ntmps7
              go_wp2_with fail
              refine HK.out.mono ?_; rintro e w1 ⟨rfl, b1⟩
              have B1 := Lib.hid b1
              clear b1
              go_wp2_with fail
              go_ret
              exact ⟨rfl, B1.out⟩
            · have t4' : ¬ (60 : Int) < n := by omega
              have t5' : (60 : Int) < n' := by omega
              clear hg
              go_enter Tryd.func7, Tryd.ntmps7
              go_wp2_with fail
              refine HK.out.mono ?_; rintro e w1 ⟨rfl, b1⟩
              have B1 := Lib.hid b1
              clear b1
              go_wp2_with fail
              go_ret
              exact ⟨rfl, B1.out⟩
    exact key
  · obtain ⟨M, rfl⟩ : ∃ M : Nat, m = M := ⟨m.toNat, by omega⟩
    have hM1 : 12 ≤ M := by omega
    have hM2 : M ≤ 65535 := by omega
    have t1 : ¬ (M : Int) < 12 := by omega
    have t2 : ¬ (65535 : Int) < M := by omega
    have t3 : ¬ (20000 : Int) < b.length := by omega
    have t4 : ¬ (60 : Int) < n := by omega
    have t5 : ¬ (60 : Int) < n' := by omega
    have hb2 : b.length ≤ 20000 := by omega
    have hn2 : n ≤ 60 := by omega
    have hn2' : n' ≤ 60 := by omega
    clear hg hb hn hn'
    go_enter Tryd.func7, Tryd.ntmps7
    go_wp2_with fail
    refine HK.out.mono ?_; rintro e w1 ⟨rfl, b1⟩
    have B1 := Lib.hid b1
    have HCU := Lib.hid (cut_any (sl_up HS.out b1) (HC.out.below b1) hb2 hn2)
    clear b1
    go_wp2_with fail
    refine HCU.out.mono ?_; rintro e w2 ⟨v2, ls, rfl, l2, hfl, hll, b2⟩
    have B2 := Lib.hid (B1.out.trans (b2.mono B1.out.size))
    have HPD := Lib.hid (pushed_any l2 hM1 hM2 (by omega) (by rw [hfl]; omega))
    unfold PushedPost at HPD
    have hlen := pushF_len M hM1 ls
    rw [hfl] at hlen
    obtain ⟨⟨X, E⟩, hX⟩ : ∃ X, pushF M [] ls = X := ⟨_, rfl⟩
    rw [hX] at HPD hlen
    dsimp only at HPD hlen
    have HX := Lib.hid (And.intro hX hfl)
    clear l2 b2 hfl hX
    go_wp2_with fail
    refine HPD.out.mono ?_; rintro e w3 ⟨v3, rfl, l3, b3⟩
    have B3 := Lib.hid (B2.out.trans (b3.mono B2.out.size))
    have L3 := Lib.hid l3
    have HCV := Lib.hid (cut_any (sl_up HS.out B3.out) (HO.out.below B3.out) hb2 hn2')
    clear l3 b3
    go_wp2_with fail
    refine HCV.out.mono ?_; rintro e w4 ⟨v4, ls4, rfl, l4, hfl4, hll4, b4⟩
    have B4 := Lib.hid (B3.out.trans (b4.mono B3.out.size))
    have L4 := Lib.hid (L3.out.below b4)
    have HPE := Lib.hid (pushed_any l4 hM1 hM2 (by omega) (by rw [hfl4]; omega))
    unfold PushedPost at HPE
    rw [pushF_cut M hM1 ls4 ls (by rw [hfl4, HX.out.2]), HX.out.1] at HPE
    dsimp only at HPE
    clear l4 b4 hfl4
    go_wp2_with fail
    refine HPE.out.mono ?_; rintro e w5 ⟨v5, rfl, l5, b5⟩
    have B5 := Lib.hid (B4.out.trans (b5.mono B4.out.size))
    have HSL := Lib.hid (sameL_any (L4.out.below b5) l5 (by omega))
    obtain ⟨x1, x2, rfl, _⟩ := id L4.out
    obtain ⟨x3, x4, rfl, _⟩ := id l5
    clear l5 b5
    go_wp2_with fail
    refine HSL.out.mono ?_; rintro e w6 ⟨rfl, b6⟩
    have B6 := Lib.hid (B5.out.trans (b6.mono B5.out.size))
    clear b6
    go_wp2_with fail
    go_ret
    exact ⟨rfl, B6.out⟩
end Go.Proofs.YtlkafakanoefmaaDoor

/-
  The law FrameBack.
-/
namespace Go.Proofs.YtlkafakanoefmaaDoor
open Go.RowKit Go.Shelf
set_option linter.unusedVariables false
set_option linter.unusedSimpArgs false
set_option maxRecDepth 100000

theorem Tryd.sizeBs (w : World) : (sizeOf (Tryd.prog.elem 31)).run Tryd.prog w = .ok 1 w := by kernel_rfl

/-- The first byte slices of a list. -/
theorem bl_upto {w : World} {n c p : Nat} {a : Option Addr} {ls : List (List UInt8)} (h : Bl w (.slice a n c) ls) (hp : p ≤ ls.length) :
    ∃ sa sn sc, (∀ wx, (Instr.slice 31 (.slice a n c) none (some (.int .i64 p)) none).run Tryd.prog wx = .ok (.slice sa sn sc) wx) ∧ Bl w (.slice sa sn sc) (ls.take p) := by
  obtain ⟨a', c', he, hlc, hel⟩ := h
  injection he with e1 e2 e3
  subst e1; subst e2; subst e3
  have hpl : (ls.take p).length = p := by rw [List.length_take]; omega
  refine ⟨_, _, _, fun wx => ?_, if c = 0 then a else a.map (·.add (0 * 1)), c - 0, rfl, ?_, ?_⟩
  · rw [run_slice_h (P := Tryd.prog) wx 31 a ls.length c Tryd.underlying31 .i64 p (by omega) (by omega), Tryd.sizeBs]
    simp only [Result.andThen, Int.toNat_natCast]
    unfold sliced
    rw [hpl, Nat.sub_zero]
  · rw [hpl]; omega
  · rw [hpl]
    intro h0
    obtain ⟨b, off, rfl, hlt, h2⟩ := hel (by omega)
    refine ⟨b, off, ?_, hlt, fun j hj => ?_⟩
    · rw [if_neg (by omega)]
      simp [Addr.add]
    · obtain ⟨u, h3, h4⟩ := h2 j (by omega)
      refine ⟨u, h3, ?_⟩
      have : (ls.take p).getD j [] = ls.getD j [] := by rw [List.getD, List.getElem?_take, if_pos hj]; rfl
      rw [this]
      exact h4

theorem upto_step (M : Nat) (ls : List (List UInt8)) (k : Nat) (hk : k < ls.length) : upto M (ls.take (k + 1)) = if upto M (ls.take k) < k then upto M (ls.take k) else if M < (ls.getD k []).length then k else k + 1 := by
  unfold upto
  have hl : (ls.take k).length = k := by rw [List.length_take]; omega
  rw [List.take_add_one, List.getElem?_eq_getElem hk, List.findIdx_append, hl, List.getD, List.getElem?_eq_getElem hk]
  by_cases h1 : (ls.take k).findIdx (fun m => decide (M < m.length)) < k
  · rw [if_pos h1, if_pos h1]
  · rw [if_neg h1, if_neg h1]
    simp only [Option.toList_some, List.findIdx_cons, List.findIdx_nil, Option.getD_some]
    by_cases h2 : M < ls[k].length
    · rw [decide_eq_true h2, if_pos h2]; simp
    · rw [decide_eq_false h2, if_neg h2]; simp; omega

theorem upto_le (M : Nat) (ls : List (List UInt8)) : upto M ls ≤ ls.length := List.findIdx_le_length

theorem frmF_len (m : List UInt8) : (frmF m).length = m.length + 2 := by unfold frmF; simp

theorem frms_len (ls : List (List UInt8)) (h : ∀ m ∈ ls, m.length ≤ 600) : (ls.flatMap frmF).length ≤ 602 * ls.length := by
  induction ls with
  | nil => simp
  | cons m ls ih =>
    have h1 := ih fun x hx => h x (List.mem_cons_of_mem _ hx)
    have h2 := h m List.mem_cons_self
    rw [List.flatMap_cons, List.length_append, frmF_len, List.length_cons]
    omega

theorem take_frms (ls : List (List UInt8)) (k : Nat) (hk : k < ls.length) : (ls.take (k + 1)).flatMap frmF = (ls.take k).flatMap frmF ++ frmF (ls.getD k []) := by
  rw [List.take_add_one, List.getElem?_eq_getElem hk, List.flatMap_append, List.getD, List.getElem?_eq_getElem hk]
  simp

/-- Of so many messages all that is wanted. -/
structure BkI (w : World) (M : Nat) (ls : List (List UInt8)) (k : Nat) (v : Value) (n : Nat) (wt : Int) (W : World) : Prop where
  row : OwnB W w.heap.size v ((ls.take k).flatMap frmF)
  all : ∀ m ∈ ls.take k, 12 ≤ m.length ∧ m.length ≤ 600
  num : n = upto M (ls.take k)
  want : wt = if upto M (ls.take k) < k then 3 else 0
  bel : Below w.heap.size w W

theorem pushF_frames (M : Nat) (hM : 12 ≤ M) (ls ps : List (List UInt8)) (h : ∀ m ∈ ls, 12 ≤ m.length ∧ m.length ≤ 600) (hf : ps.flatten = ls.flatMap frmF) :
    pushF M [] ps = (ls.take (upto M ls), if upto M ls < ls.length then 3 else 0) := by
  rw [pushF_all M hM ps [] (runF_nil M), List.nil_append, hf]
  obtain ⟨h1, h2⟩ := runF_frames M ls fun m hm => ⟨(h m hm).1, by have := (h m hm).2; omega⟩
  rw [h1, h2]

theorem BkI.flen {w W : World} {M k q : Nat} {ls : List (List UInt8)} {v : Value} {wt : Int} (h : BkI w M ls k v q wt W) (hk : k ≤ 20) : ((ls.take k).flatMap frmF).length ≤ 12040 := by
  have h1 := frms_len (ls.take k) fun m hm => (h.all m hm).2
  have h2 : (ls.take k).length ≤ k := by rw [List.length_take]; omega
  omega

/-- One more message. -/
theorem BkI.next {w wr w2 X : World} {M k q : Nat} {ls : List (List UInt8)} {v v' : Value} {wt : Int} {p : List UInt8} (h : BkI w M ls k v q wt wr) (hk : k < ls.length) (hp : ls.getD k [] = p) (h1 : 12 ≤ p.length) (h2 : p.length ≤ 600) (hb : Below wr.heap.size wr w2) (ha : Aside (fun b => v.ownBlock = some b) w2 X) (ho : OwnB X w.heap.size v' ((ls.take k).flatMap frmF ++ frmF p)) :
    (q < k → wt = 3 ∧ BkI w M ls (k + 1) v' q 3 X) ∧ (¬ q < k → wt = 0 ∧ q = k ∧ (M < p.length → BkI w M ls (k + 1) v' q 3 X) ∧ (¬ M < p.length → BkI w M ls (k + 1) v' (q + 1) 0 X)) := by
  have hb2 : Below w.heap.size w w2 := h.bel.trans (hb.mono h.bel.size)
  have hrow := h.row.lt
  have hX : Below w.heap.size w X := hb2.trans (ha.below fun b hb => ⟨by have := h.bel.size; have := hb2.size; omega, fun e => by have := (hrow b e).1; omega⟩)
  have hO : OwnB X w.heap.size v' ((ls.take (k + 1)).flatMap frmF) := by rw [take_frms ls k hk, hp]; exact ho
  have hall : ∀ m ∈ ls.take (k + 1), 12 ≤ m.length ∧ m.length ≤ 600 := fun m hm => by
    rw [List.take_add_one, List.getElem?_eq_getElem hk] at hm
    rcases List.mem_append.mp hm with hm | hm
    · exact h.all m hm
    · simp at hm; subst hm
      rw [List.getD, List.getElem?_eq_getElem hk] at hp
      simp at hp; rw [hp]; exact ⟨h1, h2⟩
  have hst := upto_step M ls k hk
  rw [hp] at hst
  have hle := upto_le M (ls.take k)
  rw [List.length_take, Nat.min_eq_left (by omega)] at hle
  have hn := h.num
  have hw := h.want
  rw [← hn] at hst hw hle
  refine ⟨fun hq => ?_, fun hq => ?_⟩
  · rw [if_pos hq] at hw hst
    exact ⟨hw, hO, hall, hst.symm, by rw [hst, if_pos (by omega)], hX⟩
  · rw [if_neg hq] at hw hst
    have hqk : q = k := by omega
    refine ⟨hw, hqk, fun hM => ?_, fun hM => ?_⟩
    · rw [if_pos hM] at hst
      exact ⟨hO, hall, by rw [hst, hqk], by rw [hst, if_pos (by omega)], hX⟩
    · rw [if_neg hM] at hst
      exact ⟨hO, hall, by rw [hst, hqk], by rw [hst, if_neg (by omega)], hX⟩
end Go.Proofs.YtlkafakanoefmaaDoor

/-
  The law FrameBack: the walk.
-/
namespace Go.Proofs.YtlkafakanoefmaaDoor
open Go.RowKit Go.Shelf
set_option linter.unusedVariables false
set_option linter.unusedSimpArgs false
set_option maxRecDepth 100000

set_option maxHeartbeats 8000000 in
theorem backF_any {w : World} {m : Int} {lv cv : Value} {ls : List (List UInt8)} {n : Nat} (h : Bl w lv ls) (hc : Ints w cv n) (hl : ls.length ≤ 140737488355328) (hn : n ≤ 9223372036854775807) (he : ∀ j, j < ls.length → (ls.getD j []).length ≤ 140737488355328) :
    Calls Tryd.prog 8 #[.int .i64 m, lv, cv] w fun e w' => e = .returned (.bool true) ∧ Below w.heap.size w w' := by
  have HA := Lib.hid (awake_any w)
  have HB := Lib.hid h
  have HC := Lib.hid hc
  obtain ⟨a, c, rfl, hlc, hel⟩ := h.one
  have HE := Lib.hid hel
  have HEL := Lib.hid he
  obtain ⟨ca, cc, rfl, _⟩ := hc
  clear h hel he
  by_cases hg : m < 12 ∨ 65535 < m ∨ 20 < ls.length ∨ 60 < n
  · by_cases t1 : m < 12
    · clear hg
      go_enter Tryd.func8, Tryd.ntmps8
      go_wp2_with fail
      refine HA.out.mono ?_; rintro e w1 ⟨rfl, b1⟩
      have B1 := Lib.hid b1
      clear b1
      go_wp2_with fail
      go_ret
      exact ⟨rfl, B1.out⟩
    · by_cases t2 : 65535 < m
      · clear hg
        go_enter Tryd.func8, Tryd.ntmps8
        go_wp2_with fail
        refine HA.out.mono ?_; rintro e w1 ⟨rfl, b1⟩
        have B1 := Lib.hid b1
        clear b1
        go_wp2_with fail
        go_ret
        exact ⟨rfl, B1.out⟩
      · by_cases t3 : 20 < ls.length
        · have t3' : (20 : Int) < ls.length := by omega
          clear hg
          go_enter Tryd.func8, Tryd.ntmps8
          go_wp2_with fail
          refine HA.out.mono ?_; rintro e w1 ⟨rfl, b1⟩
          have B1 := Lib.hid b1
          clear b1
          go_wp2_with fail
          go_ret
          exact ⟨rfl, B1.out⟩
        · have t3' : ¬ (20 : Int) < ls.length := by omega
          have t4' : (60 : Int) < n := by omega
          clear hg
          go_enter Tryd.func8, Tryd.ntmps8
          go_wp2_with fail
          refine HA.out.mono ?_; rintro e w1 ⟨rfl, b1⟩
          have B1 := Lib.hid b1
          clear b1
          go_wp2_with fail
          go_ret
          exact ⟨rfl, B1.out⟩
  · obtain ⟨M, rfl⟩ : ∃ M : Nat, m = M := ⟨m.toNat, by omega⟩
    have hM1 : 12 ≤ M := by omega
    have hM2 : M ≤ 65535 := by omega
    have t1 : ¬ (M : Int) < 12 := by omega
    have t2 : ¬ (65535 : Int) < M := by omega
    have t3 : ¬ (20 : Int) < ls.length := by omega
    have t4 : ¬ (60 : Int) < n := by omega
    have hl2 : ls.length ≤ 20 := by omega
    have hn2 : n ≤ 60 := by omega
    clear hg hl hn
    go_enter Tryd.func8, Tryd.ntmps8
    go_wp2_with fail
    refine HA.out.mono ?_; rintro e w1 ⟨rfl, b1⟩
    have HI0 := Lib.hid (show BkI w M ls 0 (.slice none 0 0) 0 0 w1 from ⟨OwnB.nil _ _, fun m hm => by simp at hm, rfl, by rfl, b1⟩)
    clear b1
    go_wp2_with fail
    go_loopw [8, 9, 10, 11, 12, 13] (fun bv nv wv i _ _ wr => ∃ (k q : Nat) (wt : Int), k ≤ ls.length ∧ i = .int .i64 k ∧ nv = .int .i64 q ∧ wv = .int .i64 wt ∧ Hid (BkI w M ls k bv q wt wr)) (fun _ _ _ i _ _ _ => ls.length - (intOf i).toNat)
    case atStart => exact ⟨0, 0, 0, Nat.zero_le _, rfl, rfl, rfl, HI0⟩
    case round =>
      obtain ⟨k, q, wt, hk, rfl, rfl, rfl, HI⟩ := hrel
      obtain ⟨oa, oc, hov⟩ := HI.out.row.shape
      obtain ⟨B0, hB0⟩ : ∃ B, (ls.take k).flatMap frmF = B := ⟨_, rfl⟩
      rw [hB0] at hov
      subst hov
      have HB0 := Lib.hid hB0
      clear hB0
      by_cases hlt : k < ls.length
      · have u1 : (k : Int) < ls.length := by omega
        obtain ⟨eb, eo, ek, eu, ea, hel1, hel2, hel3, hel4⟩ := HE.out k hlt
        subst ea
        have q1 := ((Aside.of_all (G := fun _ => False) HI.out.bel).cell (p := ⟨eb, eo + k, none⟩) hel1 fun h => h).trans hel3
        have hS : Sl wr ek (ek + 1) eu (iz (ls.getD k [])) := sl_apart hel4 (Aside.of_all (G := fun _ => False) HI.out.bel) hel2 fun h => h
        have hpl := HEL.out k hlt
        obtain ⟨p, hp⟩ : ∃ p, ls.getD k [] = p := ⟨_, rfl⟩
        rw [hp] at hS hpl
        obtain ⟨pa, pc, heu⟩ : ∃ pa pc, eu = .slice pa p.length pc := by
          obtain ⟨pa, pc, h, _⟩ := id hS
          rw [iz_len] at h
          exact ⟨pa, pc, h⟩
        subst heu
        clear hel3 hel4
        by_cases h600 : 600 < p.length
        · have u2 : (600 : Int) < p.length := by omega
          have B1 := Lib.hid HI.out.bel
          clear hS
          go_wp2_with fail
          go_ret
          exact ⟨rfl, B1.out⟩
        · have u2 : ¬ (600 : Int) < p.length := by omega
          have HP := Lib.hid (put_any hS)
          unfold PutP at HP
          by_cases h12 : p.length < 12
          · have u3 : ¬ (12 : Int) ≤ p.length := by omega
            have e1 : putE p = 4 := if_pos h12
            rw [e1] at HP
            clear hS e1
            go_wp2_with fail
            refine HP.out.mono ?_; rintro e w2 ⟨v2, rfl, o2, b2⟩
            have q2 := ((Aside.of_all (G := fun _ => False) b2).cell (World.block_lt_of_cell? wr _ q1) fun h => h).trans q1
            have B2 := Lib.hid (HI.out.bel.trans (b2.mono HI.out.bel.size))
            clear o2 b2
            go_wp2_with fail
            go_ret
            exact ⟨rfl, B2.out⟩
          · have u3 : (12 : Int) ≤ p.length := by omega
            have e1 : putE p = 0 := by unfold putE; rw [if_neg h12, if_neg (by omega)]
            have e2 : putB p = frmF p := by unfold putB; rw [if_pos (by omega)]
            rw [e1, e2] at HP
            clear hS e1 e2
            go_wp2_with fail
            refine HP.out.mono ?_; rintro e w2 ⟨v2, rfl, o2, b2⟩
            have hbl := World.block_lt_of_cell? wr _ q1
            have q2 := ((Aside.of_all (G := fun _ => False) b2).cell hbl fun h => h).trans q1
            have hfl := HI.out.flen (by omega)
            have hrow := HI.out.row.below b2
            rw [HB0.out] at hfl hrow
            have hpf := frmF_len p
            obtain ⟨F, hF⟩ : ∃ F, frmF p = F := ⟨_, rfl⟩
            rw [hF] at o2 hpf
            obtain ⟨a3, c3, X3, r3, o3, g3⟩ := run_appBs w.heap.size _ v2 _ F hrow o2.sl (by omega) (by have := HI.out.bel.size; have := b2.size; omega)
            have hnx := HI.out.next hlt hp (by omega) (by omega) b2 g3 (by rw [HB0.out, hF]; exact o3)
            have q3 := (g3.cell (p := ⟨eb, eo + k, none⟩) (Nat.lt_of_lt_of_le hbl b2.size) fun e => by have := (HI.out.row.lt eb e).1; omega).trans q2
            obtain ⟨xa, xc, hxv⟩ := o2.shape
            subst hxv
            clear o2 b2 o3 g3 hfl hrow hpf hF
            by_cases hq : q < k
            · obtain ⟨hw3, hI3⟩ := hnx.1 hq
              subst hw3
              have HI3 := Lib.hid hI3
              clear hI3 hnx hp
              go_wp2_with (at_builtin; refine Lib.wpList_append_run _ rfl _ _ _ _ rfl _ _ rfl rfl _ _ r3 ?_)
              refine ⟨⟨k + 1, q, 3, by omega, by go_num, rfl, rfl, HI3⟩, ?_⟩
              simp [intOf]; omega
            · obtain ⟨hw0, hqk, hIa, hIb⟩ := hnx.2 hq
              subst hw0
              by_cases hM : M < p.length
              · have u4 : (M : Int) < p.length := by omega
                have HI3 := Lib.hid (hIa hM)
                clear hIa hIb hnx hp
                go_wp2_with (at_builtin; refine Lib.wpList_append_run _ rfl _ _ _ _ rfl _ _ rfl rfl _ _ r3 ?_)
                refine ⟨⟨k + 1, k, 3, by omega, by go_num, rfl, rfl, by have h := HI3; rw [hqk] at h; exact h⟩, ?_⟩
                simp [intOf]; omega
              · have u4 : ¬ (M : Int) < p.length := by omega
                have HI3 := Lib.hid (hIb hM)
                clear hIa hIb hnx hp
                go_wp2_with (at_builtin; refine Lib.wpList_append_run _ rfl _ _ _ _ rfl _ _ rfl rfl _ _ r3 ?_)
                refine ⟨⟨k + 1, k + 1, 0, by omega, by go_num, by go_num, rfl, by have h := HI3; rw [hqk] at h; exact h⟩, ?_⟩
                simp [intOf]; omega
      · have u1 : ¬ (k : Int) < ls.length := by omega
        have hkl : k = ls.length := by omega
        have htk : ls.take k = ls := List.take_of_length_le (by omega)
        have hall := HI.out.all
        have hrow := HI.out.row
        have hnum := HI.out.num
        have hwant := HI.out.want
        have hfl := HI.out.flen (by omega)
        rw [htk] at hall hrow hnum hwant
        have hB0 := HB0.out
        rw [htk] at hB0
        rw [HB0.out] at hfl
        rw [hB0] at hrow
        have hqle : q ≤ ls.length := by rw [hnum]; exact upto_le M ls
        rw [← hnum, hkl] at hwant
        have BW := Lib.hid HI.out.bel
        have HCU := Lib.hid (cut_any (hrow.sl.wide (Nat.zero_le _) (Nat.le_refl _)) (HC.out.below HI.out.bel) (by omega) hn2)
        have HPF := Lib.hid (fun ps (h : List.flatten ps = B0) => pushF_frames M hM1 ls ps hall (h.trans hB0.symm))
        have hsz := HI.out.bel.size
        have HFL := Lib.hid hfl
        have HQ := Lib.hid (And.intro hnum hwant)
        clear hall hrow hfl hB0 htk hnum hwant
        go_wp2_with fail
        refine HCU.out.mono ?_; rintro e w2 ⟨v2, ps, rfl, l2, hpf, hpl, b2⟩
        have B2 := Lib.hid (BW.out.trans (b2.mono hsz))
        have HPD := Lib.hid (pushed_any l2 hM1 hM2 (by omega) (by rw [hpf]; have := HFL.out; omega))
        unfold PushedPost at HPD
        rw [HPF.out ps hpf, ← HQ.out.1, ← HQ.out.2] at HPD
        dsimp only at HPD
        obtain ⟨LQ, hLQ⟩ : ∃ L, ls.take q = L := ⟨_, rfl⟩
        have hLl : LQ.length ≤ 20 := by rw [← hLQ, List.length_take]; omega
        rw [hLQ] at HPD
        clear l2 b2 hpf
        go_wp2_with fail
        refine HPD.out.mono ?_; rintro e w3 ⟨v3, rfl, l3, b3⟩
        have B3 := Lib.hid (B2.out.trans (b3.mono B2.out.size))
        obtain ⟨sa, sn, sc, hcut, hbl⟩ := bl_upto (HB.out.below B3.out) hqle
        rw [hLQ] at hbl
        have HSL := Lib.hid (sameL_any l3 hbl (by omega))
        obtain ⟨x1, x2, rfl, _⟩ := id l3
        clear l3 b3 hbl hLQ
        go_wp2_with fail
        refine HSL.out.mono ?_; rintro e w6 ⟨rfl, b6⟩
        have B6 := Lib.hid (B3.out.trans (b6.mono B3.out.size))
        clear b6
        go_wp2_with fail
        go_ret
        exact ⟨rfl, B6.out⟩
end Go.Proofs.YtlkafakanoefmaaDoor

/-
  What FrameScript wants besides: CopyBytes, OverBytes of any rows, both readers pushed.
-/
namespace Go.Proofs.YtlkafakanoefmaaDoor
open Go.RowKit Go.Shelf
set_option linter.unusedVariables false
set_option linter.unusedSimpArgs false
set_option maxRecDepth 100000

set_option maxHeartbeats 1000000 in
/-- CopyBytes: a row of the call's own. -/
theorem copyB_any {w : World} {lo hi : Nat} {v : Value} {l : List UInt8} (h : Sl w lo hi v (iz l)) (hl : l.length ≤ 900000) :
    Calls Tryd.prog 19 #[v] w fun e w' => ∃ v', e = .returned v' ∧ OwnB w' w.heap.size v' l ∧ Below w.heap.size w w' := by
  have HS := Lib.hid h
  obtain ⟨a, c, rfl, _⟩ := h
  rw [iz_len] at HS ⊢
  have o1 : OwnB (w.alloc (.cells #[] 5)) w.heap.size (.slice (some ⟨w.heap.size, 0, none⟩) 0 0) [] :=
    .inr ⟨w.heap.size, 0, (0, 0), rfl, Nat.le_refl _, Nat.le_refl _, Nat.zero_le _, .inl rfl, heap_alloc_new w _⟩
  have b1 : Below w.heap.size w (w.alloc (.cells #[] 5)) := (Below.refl _ _).alloc (Nat.le_refl _) _
  obtain ⟨a1, c1, X2, r1, o2, g2⟩ := run_appBs w.heap.size _ _ [] l o1 (HS.out.later b1) (by simpa using (by omega : l.length ≤ 1000000)) (by simp)
  simp only [List.length_nil, Nat.zero_add, List.nil_append] at r1 o2
  have b2 : Below w.heap.size w X2 := b1.trans (g2.below fun k hk => ⟨by simp; omega, fun e => by have e2 : w.heap.size = k := (by injection e); omega⟩)
  have HF := Lib.hid (And.intro o2 b2)
  clear o1 o2 b1 b2 g2
  go_enter Tryd.func19, Tryd.ntmps19
  go_wp2_with (at_builtin; refine Lib.wpList_append_run _ rfl _ _ _ _ rfl _ _ rfl rfl _ _ r1 ?_)
  go_ret
  exact ⟨_, rfl, HF.out⟩

set_option maxHeartbeats 400000 in
theorem over_keep (w : World) (g n c : Nat) (hn : n ≤ c) (hc : c ≤ 9223372036854775807) (h : Bytes w g c) : Calls Tryd.prog 13 #[.slice (some ⟨g, 0, none⟩) n c] w fun e w' => e = .returned (.tuple #[]) ∧ Only g w w' ∧ Bytes w' g c := by
  have H := Lib.hid h
  clear h
  go_enter Tryd.func13, Tryd.ntmps13
  go_wp2
  go_loopw [3] (fun i wr => ∃ k : Nat, k ≤ c ∧ i = .int .i64 k ∧ Hid (Bytes wr g c) ∧ Hid (Only g w wr)) (fun i _ => c - (intOf i).toNat)
  case atStart => exact ⟨0, Nat.zero_le _, rfl, H, Lib.hid (Only.refl g w)⟩
  case round =>
    obtain ⟨k, hk, rfl, HB, HO⟩ := hrel
    by_cases hlt : k < c
    · obtain ⟨x, hx⟩ := HB.out.cell hlt
      have hf := HB.out.frozen hlt
      go_wp2
      go_roundw
      case rel => exact ⟨k + 1, by omega, by go_num, Lib.hid (HB.out.set _), Lib.hid (HO.out.set _)⟩
      case measure => simp [intOf]; omega
    · go_wp2
      go_end0
      exact ⟨rfl, HO.out, HB.out⟩

/-- A row of bytes, whatever they are. -/
def OvB (W : World) (B : Nat) (u : Value) : Prop := u = .slice none 0 0 ∨ ∃ g n c, u = .slice (some ⟨g, 0, none⟩) n c ∧ n ≤ c ∧ c ≤ maxLen ∧ B ≤ g ∧ Bytes W g c

theorem OwnB.ov {w : World} {B : Nat} {v : Value} {l : List UInt8} (h : OwnB w B v l) : OvB w B v := by
  rcases h with ⟨rfl, rfl⟩ | ⟨g, cap, fz, rfl, hB, hl, hm, hz, hg⟩
  · exact .inl rfl
  · have hlist : rowB l cap = (iz l ++ List.replicate (cap - l.length) 0).map (Value.int .u8) := by
      unfold rowB
      rw [List.map_append, ub_iz, List.map_replicate]
    exact .inr ⟨g, _, cap, rfl, hl, hm, hB, iz l ++ List.replicate (cap - l.length) 0, fz, by simp; omega, hz, by rw [hg, hlist]⟩

theorem over_ov {w : World} {B : Nat} {v : Value} (h : OvB w B v) : Calls Tryd.prog 13 #[v] w fun e w' => e = .returned (.tuple #[]) ∧ Aside (fun b => v.ownBlock = some b) w w' ∧ ∀ B' u, OvB w B' u → OvB w' B' u := by
  rcases h with rfl | ⟨g, n, c, rfl, hn, hc, hB, hby⟩
  · exact (over_nil w).mono fun e w' ⟨he, hw⟩ => ⟨he, by subst hw; exact ⟨Aside.refl _ w, fun _ _ h => h⟩⟩
  · refine (over_keep w g n c hn (by unfold maxLen at hc; omega) hby).mono fun e w' ⟨he, hw, hb2⟩ => ⟨he, ⟨hw.1, hw.2.1, hw.2.2.1, by rw [hw.2.2.2.1]; exact Nat.le_refl _, fun k hk hk2 => hw.2.2.2.2 k fun e => hk2 (by subst e; rfl)⟩, fun B' u hu => ?_⟩
    rcases hu with h | ⟨g', n', c', h1, h2, h3, h4, h5⟩
    · exact .inl h
    · refine .inr ⟨g', n', c', h1, h2, h3, h4, ?_⟩
      by_cases e : g' = g
      · subst e
        obtain ⟨l1, f1, e1, _, e2⟩ := hby
        obtain ⟨l2, f2, e3, _, e4⟩ := h5
        rw [e2] at e4
        injection e4 with e4
        injection e4 with e5 _ _
        have e6 := congrArg Array.size e5
        simp at e6
        have : c = c' := by omega
        rw [← this]; exact hb2
      · obtain ⟨l2, f2, e3, e5, e4⟩ := h5
        exact ⟨l2, f2, e3, e5, (hw.2.2.2.2 g' e).trans e4⟩

/-- A row of byte slices is another block than those slices'. -/
theorem OwnS.apart {W : World} {B B' : Nat} {v u : Value} {us : List Value} (h : OwnS W B v us) (h' : OvB W B' u) : ∀ b, v.ownBlock = some b → ¬ u.ownBlock = some b := by
  intro b hb hb'
  rcases h with ⟨rfl, _⟩ | ⟨g, cap, rfl, _, _, _, hg⟩
  · cases hb
  rcases h' with rfl | ⟨g', n, c, rfl, _, _, _, l2, f2, _, _, hg'⟩
  · cases hb'
  have e1 : g = b := by injection hb
  have e2 : g' = b := by injection hb'
  subst e1; subst e2
  rw [hg] at hg'
  injection hg' with hg'
  injection hg' with _ h3 _
  exact absurd h3 (by decide)

/-- What a push comes to, whether the reader is broken or not. -/
def stepS (M : Nat) (l : List UInt8) (out : Bool) (p : List UInt8) : List (List UInt8) × List UInt8 × Int × Bool :=
  if out then ([], [], 9, true) else ((runF M (l ++ p)).1, (runF M (l ++ p)).2.1, (runF M (l ++ p)).2.2, decide ((runF M (l ++ p)).2.2 ≠ 0))

/-- What a reader keeps may be. -/
def okS (M : Nat) (l : List UInt8) (out : Bool) : Prop := if out then l = [] else runF M l = ([], l, 0)

theorem okS_step (M : Nat) (hM : 12 ≤ M) (l : List UInt8) (out : Bool) (p : List UInt8) : okS M (stepS M l out p).2.1 (stepS M l out p).2.2.2 := by
  unfold okS stepS
  cases out with
  | true => simp
  | false =>
    have h := runF_rest M hM (l ++ p)
    by_cases h0 : (runF M (l ++ p)).2.2 = 0
    · simp [h0]
      exact Prod.ext (by rw [h.2.1 h0]) (by rw [h.2.1 h0])
    · simp [h0]
      exact h.2.2 h0

theorem okS_len {M : Nat} {l : List UInt8} {out : Bool} (hM : 12 ≤ M) (h : okS M l out) : l.length ≤ M + 1 := by
  cases out with
  | true => have : l = [] := h; subst this; simp
  | false =>
    have h1 : runF M l = ([], l, 0) := h
    have := (runF_rest M hM l).1
    rw [h1] at this
    exact this

theorem stepS_len (M : Nat) (l : List UInt8) (out : Bool) (p : List UInt8) : 14 * (stepS M l out p).1.length ≤ l.length + p.length := by
  unfold stepS
  cases out with
  | true => simp
  | false =>
    have := (runF_len M (l ++ p)).1
    rw [List.length_append] at this
    simp only [if_neg (by decide : ¬ false = true)]
    omega

/-- The landed reader pushed. -/
def PushB (w : World) (o : Option Nat) (r T M : Nat) (l : List UInt8) (out : Bool) (p : List UInt8) (e : Ending) (w' : World) : Prop :=
  ∃ vx usx o2, e = .returned (.tuple #[vx, .int .i64 (stepS M l out p).2.2.1]) ∧ ToldN w' w.heap.size vx usx (stepS M l out p).1 (fun b => o2 = some b) ∧ Rr w' o2 r T M (stepS M l out p).2.1 (stepS M l out p).2.2.2 ∧ (∀ g, o2 = some g → o = some g ∨ w.heap.size ≤ g) ∧ Aside (fun j => j = r ∨ o = some j) w w'

theorem pushB_any {w : World} {o : Option Nat} {r t M k : Nat} {l p : List UInt8} {out : Bool} {bv : Value} (h : Rr w o r t M l out) (hv : Sl w k (k + 1) bv (iz p)) (hk : k < w.heap.size) (hkr : k ≠ r) (hko : o ≠ some k) (hst : okS M l out) (hM1 : 12 ≤ M) (hM2 : M ≤ 65535) (ht : t + p.length ≤ 100000000) (hL : (l ++ p).length ≤ 1000000) :
    Calls Tryd.prog 20 #[.pointer (some ⟨r, 0, none⟩), bv] w (PushB w o r (t + p.length) M l out p) := by
  cases out with
  | false =>
    refine (push_any h hv hk hkr hko hst hM1 hM2 ht hL).mono ?_
    rintro e w' ⟨v, us, o2, rfl, h1, h2, h3, h4⟩
    exact ⟨v, us, o2, rfl, h1, h2, h3, h4⟩
  | true =>
    have hl : l = [] := hst
    subst hl
    refine (push_out h).mono ?_
    rintro e w' ⟨rfl, hb⟩
    exact ⟨.slice none 0 0, [], o, rfl, ToldN.nil _ _ _, (h.below hb).le (Nat.le_add_right _ _), fun g hg => .inl hg, Aside.of_all hb⟩

/-- The document's reader pushed. -/
def PushC (w : World) (r M : Nat) (l : List UInt8) (out : Bool) (p : List UInt8) (e : Ending) (w' : World) : Prop :=
  ∃ vy usy, e = .returned (.tuple #[vy, .int .i64 (stepS M l out p).2.2.1]) ∧ Told w' w.heap.size vy usy (stepS M l out p).1 ∧ Rd w' r M w.heap.size (stepS M l out p).2.1 (stepS M l out p).2.2.2 ∧ Aside (fun j => j = r) w w'

theorem pushC_any {w : World} {r M B : Nat} {l p : List UInt8} {out : Bool} {bv : Value} (h : Rd w r M B l out) (hv : Sl w 0 w.heap.size bv (iz p)) (hst : okS M l out) (hM2 : M ≤ 65535) (hL : l.length + p.length ≤ 900000) :
    Calls Tryd.prog 21 #[.pointer (some ⟨r, 0, none⟩), bv] w (PushC w r M l out p) := by
  cases out with
  | false =>
    refine (pushR h hv hL hM2).mono ?_
    rintro e w' ⟨v, us, rfl, h1, h2, h3⟩
    exact ⟨v, us, rfl, h1, h2, h3⟩
  | true =>
    have hl : l = [] := hst
    subst hl
    refine (pushR_out h bv).mono ?_
    rintro e w' ⟨rfl, rfl⟩
    obtain ⟨v, c0, c1, c2, c3, a, c, rfl, s1, s2, s3⟩ := h
    exact ⟨.slice none 0 0, [], rfl, Told.nil _ _, ⟨_, c0, c1, c2, c3, a, c, rfl, s1, s2, fun h => absurd h (by simp [stepS, iz])⟩, Aside.refl _ _⟩
end Go.Proofs.YtlkafakanoefmaaDoor
