/-
  What is parsed may be, but for how long it is; blanks; a byte 10 in a line.
-/
import Derived.Test.YtkoohdacneflfaaGreatDoorZ11
import Derived.Test.YtkoohdacneflfaaGreatDoorZ10
import Derived.Test.YtkoohdacneflfaaGreatDoorZ02
import Derived.Deep.RegionHeld
namespace Go.Proofs.YtkoohdacneflfaaGreatDoor
open Go.RowKit Go.Shelf
set_option linter.unusedVariables false
set_option linter.unusedSimpArgs false
set_option maxRecDepth 100000

theorem par2_fail (h : Hd) (ls : List (List UInt8)) (hf : (par2 h ls).2 ≠ 200) : (par2 h ls).1 = z0 := by
  unfold par2 at hf ⊢
  split
  · rfl
  · rename_i h1
    rw [if_neg h1] at hf
    split
    · rfl
    · rename_i h2
      rw [if_neg h2] at hf
      exact absurd rfl hf
/-- **A status alone comes with no head.** -/
theorem par_fail (b : List UInt8) (h : (parH b).2 ≠ 200) : (parH b).1 = z0 := by
  unfold parH at h ⊢
  split
  · rfl
  · rename_i h1
    rw [if_neg h1] at h
    cases hl : linesB b with
    | nil => rfl
    | cons l ls =>
      rw [hl] at h
      rw [par1] at h ⊢
      split
      · rfl
      · rename_i h2
        rw [if_neg h2] at h
        exact par2_fail _ _ h

theorem spl_size (c : UInt8) (l : List UInt8) : ((spl c l).map fun w => w.length + 1).sum = l.length + 1 := by
  induction l with
  | nil => rfl
  | cons x r ih =>
    have hne := spl_ne c r
    unfold spl
    split
    · rw [List.map_cons, List.sum_cons, ih]; simp; omega
    · cases h : spl c r with
      | nil => exact absurd h hne
      | cons w ws =>
        rw [h, List.map_cons, List.sum_cons] at ih
        simp only [List.map_cons, List.sum_cons, List.length_cons] at ih ⊢
        omega
theorem verN_ok {n : List UInt8} (h : (verN n).2 = 200) : n.length = 3 ∧ ((verN n).1 = 0 ∨ (verN n).1 = 1) := by
  match n, h with
  | [], h => cases h
  | [_], h => cases h
  | [_, _], h => cases h
  | [a, b, c], h =>
    refine ⟨rfl, ?_⟩
    have e : verN [a, b, c] = if onlyR dR [a] && (b == 46 && onlyR dR [c]) then (if [a, b, c] = [49, 46, 48] then (0, 200) else if [a, b, c] = [49, 46, 49] then (1, 200) else (0, 505)) else (0, 400) := rfl
    rw [e] at h ⊢
    by_cases h1 : (onlyR dR [a] && (b == 46 && onlyR dR [c])) = true
    · rw [if_pos h1] at h ⊢
      by_cases h2 : [a, b, c] = [49, 46, 48]
      · rw [if_pos h2]; exact .inl rfl
      · rw [if_neg h2] at h ⊢
        by_cases h3 : [a, b, c] = [49, 46, 49]
        · rw [if_pos h3]; exact .inr rfl
        · rw [if_neg h3] at h; cases h
    · rw [if_neg h1] at h; cases h
  | _ :: _ :: _ :: _ :: _, h => cases h
theorem verL_ok {w : List UInt8} (h : (verL w).2 = 200) : w.length = 8 ∧ ((verL w).1 = 0 ∨ (verL w).1 = 1) := by
  unfold verL at h ⊢
  split
  · rename_i h1
    rw [if_pos h1] at h
    obtain ⟨h2, h3⟩ := verN_ok h
    rw [List.length_drop] at h2
    exact ⟨by omega, h3⟩
  · rename_i h1
    rw [if_neg h1] at h
    cases h
theorem fst_ok {l : List UInt8} (h : (fstL l).2 = 200) : wordL (fstL l).1.m 16 = true ∧ tgtL (fstL l).1.t = true ∧ ((fstL l).1.v = 0 ∨ (fstL l).1.v = 1) ∧ l.length = (fstL l).1.m.length + (fstL l).1.t.length + 10 := by
  by_cases h3 : (spl 32 l).length = 3
  · obtain ⟨a, b, c, hs⟩ : ∃ a b c, spl 32 l = [a, b, c] := by
      match hs : spl 32 l, h3 with
      | [a, b, c], _ => exact ⟨a, b, c, rfl⟩
    have hz := spl_size 32 l
    rw [hs] at hz
    rw [fstL_3 hs] at h ⊢
    unfold fst3 at h ⊢
    split
    · rename_i h1; rw [if_pos h1] at h; cases h
    · rename_i h1
      rw [if_neg h1] at h
      split
      · rename_i h2; rw [if_pos h2] at h; cases h
      · rename_i h2
        rw [if_neg h2] at h
        split
        · rename_i h4
          rw [if_pos h4] at h
          exact absurd h h4
        · rename_i h4
          rw [if_neg h4] at h
          split
          · rename_i h5; rw [if_pos h5] at h; cases h
          · rename_i h5
            rw [if_neg h5] at h
            split
            · rename_i h6; rw [if_pos h6] at h; cases h
            · rename_i h6
              have h4 : (verL c).2 = 200 := by simpa using h4
              obtain ⟨v1, v2⟩ := verL_ok h4
              simp only [List.map_cons, List.map_nil, List.sum_cons, List.sum_nil] at hz
              exact ⟨by simpa using h2, by simpa using h6, v2, by simp only; omega⟩
  · rw [fstL_no h3] at h; cases h
theorem bad_no {l : List UInt8} (h : badF l = false) : okF (ahd l, trimB (bhd l)) = true ∧ (ahd l).length + (trimB (bhd l)).length + 1 ≤ l.length := by
  unfold badF at h
  simp only [Bool.or_eq_false_iff, Bool.not_eq_false'] at h
  obtain ⟨h1, h2, h3⟩ := h
  refine ⟨by unfold okF; simp only [h2, h3]; rfl, ?_⟩
  have hm : (58 : UInt8) ∈ l := by simpa using h1
  have h4 := (tw_at l 58 hm).2
  have h5 : (bhd l).length = l.length - (ahd l).length - 1 := by
    unfold bhd ahd
    rw [List.length_drop, ← tw_drop, List.length_drop]
  have h6 : (ahd l).length < l.length := h4
  have h7 := trimB_len (bhd l)
  omega
theorem flds_ok : ∀ (ls : List (List UInt8)) (acc : List Fd), (fldsA acc ls).2 = 200 → ∃ fs, (fldsA acc ls).1 = acc ++ fs ∧ (∀ f ∈ fs, okF f = true) ∧ szF fs + 3 * fs.length ≤ (joinL ls).length
  | [], acc, _ => ⟨[], by simp [fldsA], by simp, by simp [szF]⟩
  | l :: r, acc, h => by
    by_cases h32 : acc.length = 32
    · rw [fldsA_stop h32] at h; cases h
    · cases hb : badF l with
      | true => rw [fldsA_bad h32 hb] at h; cases h
      | false =>
        rw [fldsA_go h32 hb] at h ⊢
        obtain ⟨fs, h1, h2, h3⟩ := flds_ok r _ h
        obtain ⟨h4, h5⟩ := bad_no hb
        refine ⟨(ahd l, trimB (bhd l)) :: fs, by rw [h1]; simp, fun f hf => ?_, ?_⟩
        · rcases List.mem_cons.mp hf with rfl | hf
          · exact h4
          · exact h2 f hf
        · have e : szF ((ahd l, trimB (bhd l)) :: fs) = ((ahd l).length + (trimB (bhd l)).length) + szF fs := by simp [szF]
          have e2 : (joinL (l :: r)).length = l.length + 2 + (joinL r).length := by unfold joinL; rw [List.flatMap_cons, List.length_append, List.length_append]; rfl
          rw [e, e2, List.length_cons]
          omega
/-- What a head that is parsed is. -/
theorem par_ok {b : List UInt8} (h : (parH b).2 = 200) : wordL (parH b).1.m 16 = true ∧ tgtL (parH b).1.t = true ∧ ((parH b).1.v = 0 ∨ (parH b).1.v = 1) ∧ (parH b).1.fs.length ≤ 32 ∧ (∀ f ∈ (parH b).1.fs, okF f = true) ∧ hostL (parH b).1.fs (parH b).1.v = true ∧
    (wrH (parH b).1).length ≤ b.length + 32 ∧ b.length ≤ 4096 := by
  unfold parH at h ⊢
  by_cases h1 : 4096 < b.length
  · rw [if_pos h1] at h; cases h
  · rw [if_neg h1] at h ⊢
    cases hl : linesB b with
    | nil => rw [hl] at h; cases h
    | cons l ls =>
      have hz := lines_size hl
      rw [hl] at h
      rw [par1] at h ⊢
      by_cases h2 : (fstL l).2 ≠ 200
      · rw [if_pos h2] at h; exact absurd h h2
      · rw [if_neg h2] at h ⊢
        obtain ⟨f1, f2, f3, f4⟩ := fst_ok (by simpa using h2)
        unfold par2 at h ⊢
        by_cases h3 : (fldsA [] ls).2 ≠ 200
        · rw [if_pos h3] at h; exact absurd h h3
        · rw [if_neg h3] at h ⊢
          by_cases h4 : hostL (fldsA [] ls).1 (fstL l).1.v = false
          · rw [if_pos h4] at h; cases h
          · rw [if_neg h4]
            obtain ⟨fs, g1, g2, g3⟩ := flds_ok ls [] (by simpa using h3)
            have g4 := (flds_len ls [] (by simp)).1
            rw [g1, List.nil_append] at g4
            rw [g1, List.nil_append] at h4 ⊢
            refine ⟨f1, f2, f3, g4, g2, by simpa using h4, ?_, by omega⟩
            rw [wrH_len]
            have e2 : (joinL (l :: ls)).length = l.length + 2 + (joinL ls).length := by unfold joinL; rw [List.flatMap_cons, List.length_append, List.length_append]; rfl
            rw [hz, e2]
            simp only
            omega
theorem par_may {b : List UInt8} (h : (parH b).2 = 200) : mayH (parH b).1 = decide ((wrH (parH b).1).length ≤ 4096) := by
  obtain ⟨h1, h2, h3, h4, h5, h6, _⟩ := par_ok h
  unfold mayH
  have hv : ((parH b).1.v == 0 || (parH b).1.v == 1) = true := by rcases h3 with e | e <;> rw [e] <;> rfl
  have ha : ((parH b).1.fs.all fun f => wordL f.1 64 && valL f.2) = true := List.all_eq_true.mpr h5
  rw [h1, h2, hv, decide_eq_true h4, ha, h6]
  simp
end Go.Proofs.YtkoohdacneflfaaGreatDoor

/-
  The statement HeadKnown.
-/
namespace Go.Proofs.YtkoohdacneflfaaGreatDoor
open Go.RowKit Go.Shelf
set_option linter.unusedVariables false
set_option linter.unusedSimpArgs false
set_option maxRecDepth 100000

def k7 : List UInt8 := [55]
end Go.Proofs.YtkoohdacneflfaaGreatDoor

/-
  The statement HeadBack.
-/
namespace Go.Proofs.YtkoohdacneflfaaGreatDoor
open Go.RowKit Go.Shelf
set_option linter.unusedVariables false
set_option linter.unusedSimpArgs false
set_option maxRecDepth 100000

theorem Ho.agg {w : World} {B : Nat} {v : Value} {h : Hd} (hh : Ho w B v h) : ∃ a c, v = .agg #[.string (bs h.m), .string (bs h.t), .int .i64 h.v, .slice a h.fs.length c] ∧ OwnF w B (.slice a h.fs.length c) h.fs := by
  obtain ⟨sl, rfl, ho⟩ := hh
  obtain ⟨a, c, rfl⟩ := OwnF.shape ho
  exact ⟨a, c, rfl, ho⟩
theorem slb {w w' : World} {v : Value} {l : List UInt8} (h : Sl w 0 w.heap.size v (iz l)) (hb : Below w.heap.size w w') : Sl w' 0 w'.heap.size v (iz l) := (h.below hb (Nat.le_refl _)).wide (Nat.le_refl _) hb.size

end Go.Proofs.YtkoohdacneflfaaGreatDoor

/-
  The document's lines.
-/
namespace Go.Proofs.YtkoohdacneflfaaGreatDoor
open Go.RowKit Go.Shelf
set_option linter.unusedVariables false
set_option linter.unusedSimpArgs false
set_option maxRecDepth 100000

theorem fine_step {x : List UInt8} {r : List (List UInt8)} : fineR (x :: r) = (if (x == []) != (r == []) then false else fineR r) := by
  cases r with
  | nil =>
    rw [fineR]
    cases x <;> simp [fineR]
  | cons y t =>
    rw [fineR]
    cases h : x == []
    · simp [bne, h]
    · simp [bne, h]
theorem u8_ne {x : UInt8} {n : Nat} (hn : n < 256) (h : x ≠ UInt8.ofNat n) : ((x.toNat : Int) == (n : Int)) = false ∧ ((x.toNat : Int) != (n : Int)) = true := by
  have : ¬ ((x.toNat : Int) = (n : Int)) := fun e => h (by
    have e' : x.toNat = n := by exact_mod_cast e
    rw [← e']; simp)
  exact ⟨beq_eq_false_iff_ne.mpr this, bne_iff_ne.mpr this⟩
theorem slb_cell {w : World} {lo hi n c : Nat} {a : Option Addr} {b : List UInt8} (h : Sl w lo hi (.slice a n c) (iz b)) (hn : n = b.length) (h0 : 0 < n) : ∃ g off, a = some ⟨g, off, none⟩ ∧ ∀ k (hk : k < b.length), w.cell? ⟨g, off + k, none⟩ = some (.int .u8 (b[k].toNat : Nat)) := by
  obtain ⟨a', c', he, hc, _, hp⟩ := h
  injection he with e1 e2 e3
  subst e1
  obtain ⟨g, off, rfl, _, _, hx⟩ := hp (by rw [iz_len]; omega)
  exact ⟨g, off, rfl, fun k hk => by rw [hx k (by rw [iz_len]; exact hk), iz_get b k hk]⟩
theorem slb_one {w : World} {lo hi n c k : Nat} {a : Option Addr} {b : List UInt8} (h : Sl w lo hi (.slice a n c) (iz b)) (hn : n = b.length) (hk : k < b.length) :
    ∃ sv, (∀ wx, (Instr.slice 28 (.slice a n c) (some (.int .i64 k)) (some (.int .i64 ((k : Int) + 1))) none).run Tryz.prog wx = .ok sv wx) ∧ (convert 28 9 sv).run Tryz.prog w = .ok (.string (bs [b[k]])) w := by
  have h' : Sl w lo hi (.slice a (iz b).length c) (iz b) := by rw [iz_len, ← hn]; exact h
  obtain ⟨sv, h1, h2⟩ := slice_cut (p := k) (m := 1) h' (by rw [iz_len]; omega)
  rw [iz_len, ← hn] at h1
  rw [iz_cut, List.drop_eq_getElem_cons hk] at h2
  have h3 := conv_sl h2
  rw [strz] at h3
  exact ⟨sv, h1, h3⟩

/-- Lines, told, or not. -/
def RlPost (w : World) (X : Option (List (List UInt8))) (e : Ending) (w' : World) : Prop := ∃ v, e = .returned (.tuple #[v, .bool X.isSome]) ∧ OwnT w' w.heap.size v (X.getD []) ∧ Below w.heap.size w w'
theorem rl_none {w w' : World} (hb : Below w.heap.size w w') : RlPost w none (.returned (.tuple #[.slice none 0 0, .bool false])) w' := ⟨_, rfl, OwnT.nil _ _, hb⟩

set_option maxHeartbeats 8000000 in
theorem rlines_any {w : World} {v : Value} (b : List UInt8) (hs : Sl w 0 w.heap.size v (iz b)) (hl : b.length ≤ 100000) : Calls Tryz.prog 54 #[v] w (RlPost w (docL b)) := by
  obtain ⟨Z, hZ⟩ : ∃ Z, docL b = Z := ⟨_, rfl⟩
  rw [hZ]
  unfold docL at hZ
  obtain ⟨R, hR⟩ : ∃ R, rawS false [] [] b = R := ⟨_, rfl⟩
  rw [hR] at hZ
  obtain ⟨a, c, rfl⟩ := sl_shape hs rfl
  have HS := Lib.hid hs
  have HZ := Lib.hid hZ
  have H0 := Lib.hid (show rawS false [] [] (b.drop 0) = R from hR)
  have HB := Lib.hid (Below.refl w.heap.size w)
  clear hs hZ hR
  go_enter Tryz.func54, Tryz.ntmps54
  go_wp2_with fail
  go_loopg [4, 5, 6] b.length (fun g v4 v5 v6 wr => ∃ (k : Nat) (out : List (List UInt8)) (l : List UInt8), k + g = b.length ∧ v6 = .int .i64 k ∧ v5 = .string (bs l) ∧ out.length + l.length ≤ k ∧ Hid (OwnT wr w.heap.size v4 out) ∧ Hid (rawS false out l (b.drop k) = R) ∧ Hid (Below w.heap.size w wr))
  case atStart => exact ⟨0, [], [], by omega, rfl, rfl, by simp, OwnT.nil _ _, H0, HB⟩
  case round =>
    clear H0 HB
    obtain ⟨k, out, l, hk, rfl, rfl, hlen, HO, HR, HB⟩ := hrel
    obtain ⟨a4, c4, rfl⟩ := HO.out.shape
    have hkb : k ≤ 100000 := by omega
    by_cases hlt : k < b.length
    · have hsr : Sl wr 0 w.heap.size (.slice a b.length c) (iz b) := HS.out.below HB.out (Nat.le_refl _)
      obtain ⟨sv, hsv, hcv⟩ := slb_one (k := k) hsr rfl hlt
      obtain ⟨g, off, rfl, hc⟩ := slb_cell hsr rfl (by omega)
      have q0 := hc k hlt
      have hdr : b.drop k = b[k] :: b.drop (k + 1) := List.drop_eq_getElem_cons hlt
      have hr := HR.out
      rw [hdr] at hr
      have HC := Lib.hid hc
      obtain ⟨x, hx⟩ : ∃ x, b[k] = x := ⟨_, rfl⟩
      rw [hx] at q0 hr hcv
      clear hsr hc hdr hx HR
      by_cases hx10 : x = 10
      · subst hx10
        have HF := Lib.hid (show R = none by rw [← hr, raw_lf])
        clear hr hsv hcv
        go_wp2_with fail
        go_ret2
        have e : Z = none := by rw [← HZ.out, HF.out]; rfl
        exact e ▸ rl_none HB.out
      · by_cases hx13 : x = 13
        · subst hx13
          by_cases hk1 : k + 1 < b.length
          · have t1 : ¬ ((b.length : Int) ≤ (k : Int) + 1) := by omega
            have q1 := HC.out (k + 1) hk1
            have hdr2 : b.drop (k + 1) = b[k + 1] :: b.drop (k + 2) := List.drop_eq_getElem_cons hk1
            rw [hdr2] at hr
            obtain ⟨y, hy⟩ : ∃ y, b[k + 1] = y := ⟨_, rfl⟩
            rw [hy] at q1 hr
            clear hdr2 hy hsv hcv
            by_cases hy10 : y = 10
            · subst hy10
              have HR2 := Lib.hid (show rawS false (out ++ [l]) [] (b.drop (k + 2)) = R by rw [← hr, raw_end])
              clear hr
              go_wp2_with (at_builtin; refine wpList_appT rfl (.tmp 54) (.tmp 56) rfl rfl w.heap.size ?l1 ?h1 _ _ out [l] rfl rfl ?a1 ?b1 ?c1 ?d1 ?_)
              case l1 => exact wr.heap.size
              case h1 => exact wr.heap.size + 1
              case a1 => exact HO.out.below ((Below.refl _ _).alloc (Nat.le_refl _) _)
              case b1 => exact st_one wr l
              case c1 => first | omega | (simp; omega)
              case d1 => have := HB.out.size; simp; omega
              intro a' c' w' HO3 hb3
              have HB3 := Lib.hid ((HB.out.alloc HB.out.size _).trans hb3.out)
              clear hb3
              go_wp2_with fail
              go_roundg (b.length - (k + 2))
              case measure => omega
              case rel => exact ⟨k + 2, out ++ [l], [], by omega, by go_num, rfl, by simp; omega, HO3, HR2, HB3⟩
            · have HF := Lib.hid (show R = none by rw [← hr, raw_cr _ _ _ (by simpa using hy10)])
              have t2 : ((y.toNat : Int) != 10) = true := (u8_ne (n := 10) (by decide) hy10).2
              clear hr hy10
              go_wp2_with fail
              go_ret2
              have e : Z = none := by rw [← HZ.out, HF.out]; rfl
              exact e ▸ rl_none HB.out
          · have t1 : ((b.length : Int) ≤ (k : Int) + 1) := by omega
            have HF := Lib.hid (show R = none by
              rw [← hr, raw_cr _ _ _ (by rw [List.drop_of_length_le (by omega)]; simp)])
            clear hr hsv hcv
            go_wp2_with fail
            go_ret2
            have e : Z = none := by rw [← HZ.out, HF.out]; rfl
            exact e ▸ rl_none HB.out
        · have HR2 := Lib.hid (show rawS false out (l ++ [x]) (b.drop (k + 1)) = R by rw [← hr, raw_go _ _ _ _ ⟨hx13, hx10⟩])
          have t1 : ((x.toNat : Int) != 13) = true := (u8_ne (n := 13) (by decide) hx13).2
          have t2 : ((x.toNat : Int) != 10) = true := (u8_ne (n := 10) (by decide) hx10).2
          have r1 : ∀ w, (Op.stringOp .add (bs l) (bs [x])).run Tryz.prog w = .ok (.string (bs (l ++ [x]))) w := fun w => adds_run l [x] (by omega) (by simp) w
          clear hr hx10 hx13
          go_wp2_with fail
          go_roundg (b.length - (k + 1))
          case measure => omega
          case rel => exact ⟨k + 1, out, l ++ [x], by omega, by go_num, rfl, by simp; omega, HO, HR2, HB⟩
    · have t1 : ¬ ((k : Int) < b.length) := by omega
      have HF := Lib.hid (show (if l = [] ∧ out ≠ [] then some out else none) = R by rw [← HR.out, List.drop_of_length_le (by omega), rawS])
      clear HR
      cases l with
      | cons x l =>
        have HF2 := Lib.hid (show R = none by rw [← HF.out, if_neg (by simp)])
        have tl : ¬ (bs (x :: l)).toList = [] := by rw [bs_toList]; simp
        go_wp2_with fail
        go_ret2
        have e : Z = none := by rw [← HZ.out, HF2.out]; rfl
        exact e ▸ rl_none HB.out
      | nil =>
        have tl : (bs []).toList = [] := by rw [bs_toList]
        cases out with
        | nil =>
          have HF2 := Lib.hid (show R = none by rw [← HF.out, if_neg (by simp)])
          go_wp2_with fail
          go_ret2
          have e : Z = none := by rw [← HZ.out, HF2.out]; rfl
          exact e ▸ rl_none HB.out
        | cons y o =>
          obtain ⟨out, ho⟩ : ∃ out, y :: o = out := ⟨_, rfl⟩
          have HF2 := Lib.hid (show R = some out by rw [← HF.out, if_pos (by simp), ho])
          have h0 : 0 < out.length := by rw [← ho]; simp
          have t2 : (((out.length : Nat) : Int) == 0) = false := by rw [beq_eq_false_iff_ne]; omega
          have hob : out.length ≤ 100000 := by rw [← ho]; omega
          rw [ho] at HO ⊢
          have HZ2 := Lib.hid (show (if fineR out then some out else none) = Z by
            have := HZ.out
            rw [HF2.out, Option.filter_some] at this
            exact this)
          clear ho hlen HF HF2 hkb t1 hk
          go_wp2_with fail
          go_loopg [7] out.length (fun g v7 wx => ∃ i : Nat, i + g = out.length ∧ v7 = .int .i64 i ∧ Hid (fineR (out.drop i) = fineR out) ∧ wr = wx)
          case atStart => exact ⟨0, by omega, rfl, Lib.hid rfl, rfl⟩
          case round =>
            obtain ⟨i, hi, rfl, HI, rfl⟩ := hrel
            have hib : i ≤ 100000 := by omega
            by_cases hlt2 : i < out.length
            · obtain ⟨g, off, rfl, _, _, hc⟩ := st_at HO.out.st h0
              have q0 := hc i hlt2
              have hdr : out.drop i = out[i] :: out.drop (i + 1) := List.drop_eq_getElem_cons hlt2
              have hf := HI.out
              rw [hdr, fine_step] at hf
              have hnil : (out.drop (i + 1) == []) = ((i : Int) == out.length - 1) := by
                rw [Bool.eq_iff_iff, beq_iff_eq, beq_iff_eq, List.drop_eq_nil_iff]
                omega
              rw [hnil] at hf
              obtain ⟨x, hx⟩ : ∃ x, out[i] = x := ⟨_, rfl⟩
              rw [hx] at q0 hf
              obtain ⟨E, tx⟩ : ∃ E, ((bs x).toList == []) = E := ⟨_, rfl⟩
              obtain ⟨L, te⟩ : ∃ L, ((i : Int) == out.length - 1) = L := ⟨_, rfl⟩
              rw [te, show (x == []) = E by rw [← tx, bs_toList]] at hf
              have HF3 := Lib.hid hf
              clear hdr hnil hx hc HI hf
              have HN : E ≠ L → Z = none := fun h => by
                have h1 := HF3.out
                rw [if_pos (by simpa using h)] at h1
                rw [← HZ2.out, ← h1]; rfl
              have HN2 := Lib.hid HN
              have HY : Hid (E = L → fineR (out.drop (i + 1)) = fineR out) := Lib.hid fun h => by
                have h1 := HF3.out
                rwa [if_neg (by simp [h])] at h1
              clear HF3 HN
              cases E with
              | true =>
                cases L with
                | true =>
                  have HI2 := Lib.hid (HY.out rfl)
                  go_wp2_with fail
                  go_roundg (out.length - (i + 1))
                  case measure => omega
                  case rel => exact ⟨i + 1, by omega, by go_num, HI2, rfl⟩
                | false =>
                  go_wp2_with fail
                  go_ret2
                  exact HN2.out (by simp) ▸ rl_none HB.out
              | false =>
                cases L with
                | true =>
                  go_wp2_with fail
                  go_ret2
                  exact HN2.out (by simp) ▸ rl_none HB.out
                | false =>
                  have HI2 := Lib.hid (HY.out rfl)
                  go_wp2_with fail
                  go_roundg (out.length - (i + 1))
                  case measure => omega
                  case rel => exact ⟨i + 1, by omega, by go_num, HI2, rfl⟩
            · have t1 : ¬ ((i : Int) < out.length) := by omega
              have e : some out = Z := by
                have h1 := HI.out
                rw [List.drop_of_length_le (by omega)] at h1
                rw [← HZ2.out, ← h1]; rfl
              have HE := Lib.hid e
              clear e HI HZ2
              go_wp2_with fail
              go_ret2
              rw [← HE.out]
              exact ⟨_, rfl, HO.out, HB.out⟩
end Go.Proofs.YtkoohdacneflfaaGreatDoor

/-
  Heads, in the order in which the document's text looks at them.
-/
namespace Go.Proofs.YtkoohdacneflfaaGreatDoor
open Go.RowKit Go.Shelf
set_option linter.unusedVariables false
set_option linter.unusedSimpArgs false
set_option maxRecDepth 100000

/-! ### the first line -/
theorem par1_no {l : List UInt8} {ls : List (List UInt8)} {st : Int} {h : Hd} (hf : fstL l = (h, st)) (hs : st ≠ 200) : par1 (l :: ls) = (z0, st) := by
  rw [par1, hf, if_pos hs]
theorem par1_yes {l : List UInt8} {ls : List (List UInt8)} {h : Hd} (hf : fstL l = (h, 200)) : par1 (l :: ls) = par2 h ls := by
  rw [par1, hf, if_neg (by simp)]
theorem fst3_e {a b c : List UInt8} (h : a = [] ∨ b = [] ∨ c = []) : fst3 a b c = (z0, 400) := by rw [fst3, if_pos h]
theorem fst3_w {a b c : List UInt8} (h : ¬ (a = [] ∨ b = [] ∨ c = [])) (hw : wordL a 16 = false) : fst3 a b c = (z0, 400) := by rw [fst3, if_neg h, if_pos hw]
theorem fst3_v {a b c : List UInt8} {st : Int} (h : ¬ (a = [] ∨ b = [] ∨ c = [])) (hw : wordL a 16 = true) (hv : verL c = (0, st)) (hs : st ≠ 200) : fst3 a b c = (z0, st) := by
  rw [fst3, if_neg h, if_neg (by rw [hw]; simp), hv, if_pos hs]
theorem fst3_l {a b c : List UInt8} {v : Int} (h : ¬ (a = [] ∨ b = [] ∨ c = [])) (hw : wordL a 16 = true) (hv : verL c = (v, 200)) (hl : 2048 < b.length) : fst3 a b c = (z0, 414) := by
  rw [fst3, if_neg h, if_neg (by rw [hw]; simp), hv, if_neg (by simp), if_pos hl]
theorem fst3_t {a b c : List UInt8} {v : Int} (h : ¬ (a = [] ∨ b = [] ∨ c = [])) (hw : wordL a 16 = true) (hv : verL c = (v, 200)) (hl : ¬ 2048 < b.length) (ht : tgtD b = false) : fst3 a b c = (z0, 400) := by
  rw [fst3, if_neg h, if_neg (by rw [hw]; simp), hv, if_neg (by simp), if_neg hl, if_pos (by rw [← tgt_eq b (by omega)]; exact ht)]
theorem fst3_ok {a b c : List UInt8} {v : Int} (h : ¬ (a = [] ∨ b = [] ∨ c = [])) (hw : wordL a 16 = true) (hv : verL c = (v, 200)) (hl : ¬ 2048 < b.length) (ht : tgtD b = true) : fst3 a b c = (⟨a, b, v, []⟩, 200) := by
  rw [fst3, if_neg h, if_neg (by rw [hw]; simp), hv, if_neg (by simp), if_neg hl, if_neg (by rw [← tgt_eq b (by omega), ht]; simp)]
theorem ver_len {c : List UInt8} (h : c.length ≠ 8) : verL c = (0, 400) := by
  unfold verL
  split
  · rename_i h5
    refine verN_no fun h3 => h ?_
    have := congrArg List.length h5
    rw [List.length_take] at this
    simp [http] at this
    rw [List.length_drop] at h3
    omega
  · rfl
theorem ver_pre {c : List UInt8} (h : c.take 5 ≠ http) : verL c = (0, 400) := by rw [verL, if_neg h]
theorem ver_d1 {x y z : UInt8} (h : inR dR x.toNat = false) : verL [72, 84, 84, 80, 47, x, y, z] = (0, 400) := by
  rw [verL, if_pos (show List.take 5 _ = http from rfl)]
  show verN [x, y, z] = _
  rw [verN, if_neg]
  simp [onlyR, h]
theorem ver_dot {x y z : UInt8} (h : y ≠ 46) : verL [72, 84, 84, 80, 47, x, y, z] = (0, 400) := by
  rw [verL, if_pos (show List.take 5 _ = http from rfl)]
  show verN [x, y, z] = _
  rw [verN, if_neg]
  simp [h]
theorem ver_d2 {x y z : UInt8} (h : inR dR z.toNat = false) : verL [72, 84, 84, 80, 47, x, y, z] = (0, 400) := by
  rw [verL, if_pos (show List.take 5 _ = http from rfl)]
  show verN [x, y, z] = _
  rw [verN, if_neg]
  simp [onlyR, h]
theorem ver_505 {x z : UInt8} (h1 : inR dR x.toNat = true) (h2 : inR dR z.toNat = true) (h0 : [x, 46, z] ≠ [49, 46, 48]) (h : [x, 46, z] ≠ [49, 46, 49]) : verL [72, 84, 84, 80, 47, x, 46, z] = (0, 505) := by
  rw [verL, if_pos (show List.take 5 _ = http from rfl)]
  show verN [x, 46, z] = _
  rw [verN, if_pos (by simp [onlyR, h1, h2]), if_neg h0, if_neg h]

/-! ### a field's line -/
theorem col_iff (l : List UInt8) : l.contains 58 = decide ((ahd l).length < l.length) := by
  rw [Bool.eq_iff_iff, decide_eq_true_iff, List.contains_iff_mem]
  constructor
  · exact fun h => (tw_at l 58 h).2
  · intro h
    refine Classical.byContradiction fun hn => ?_
    unfold ahd at h
    rw [(tw_all l 58 hn).1] at h
    omega
theorem ahd_at {l : List UInt8} (h : (ahd l).length < l.length) : l[(ahd l).length]? = some 58 := by
  have h2 : (58 : UInt8) ∈ l := by rw [← List.contains_iff_mem, col_iff, decide_eq_true_iff]; exact h
  exact (tw_at l 58 h2).1
theorem ahd_before {l : List UInt8} {k : Nat} (hk : k < (ahd l).length) (hl : k < l.length) : l[k] ≠ 58 := by
  have := tw_before 58 l k hk
  rw [List.getElem?_eq_getElem hl] at this
  exact fun h => this (by rw [h])
theorem ahd_take (l : List UInt8) : l.take (ahd l).length = ahd l := tw_take l 58
theorem bhd_drop (l : List UInt8) : l.drop ((ahd l).length + 1) = bhd l := by
  unfold bhd ahd
  rw [← tw_drop l 58, List.drop_drop]
theorem badF_1 {l : List UInt8} (h : ¬ (ahd l).length < l.length) : badF l = true := by rw [badF, col_iff, decide_eq_false h]; rfl
theorem badF_2 {l : List UInt8} (h : wordL (ahd l) 64 = false) : badF l = true := by rw [badF, h]; simp
theorem badF_3 {l : List UInt8} (h : valL (trimB (bhd l)) = false) : badF l = true := by rw [badF, h]; simp
theorem badF_ok {l : List UInt8} (h : (ahd l).length < l.length) (hw : wordL (ahd l) 64 = true) (hv : valL (trimB (bhd l)) = true) : badF l = false := by
  rw [badF, col_iff, decide_eq_true h, hw, hv]; rfl

/-! ### texts in a row -/
def Tx (w : World) (g o : Nat) (L : List (List UInt8)) : Prop := ∀ j (hj : j < L.length), w.cell? ⟨g, o + j, none⟩ = some (.string (bs L[j]))
theorem Tx.later {w w' : World} {B g o : Nat} {L : List (List UInt8)} (h : Tx w g o L) (hb : Below B w w') (hg : g < B) : Tx w' g o L := fun j hj => (hb.cell (p := ⟨g, o + j, none⟩) hg).trans (h j hj)

end Go.Proofs.YtkoohdacneflfaaGreatDoor

/-
  A region whose loads are fixed by what holds till its last operation, a store, comes up.
-/
namespace Go.Proofs.YtkoohdacneflfaaGreatDoor
open Go.RowKit Go.Shelf
set_option linter.unusedVariables false
set_option linter.unusedSimpArgs false

section
variable {P : Program} {md : Region.Mode} {ops : Array Oper} {Q : Exit → Act → World → Prop} {S : World → Prop} {k : Nat}

/-- In whatever order; S holds behind each operation but number k. -/
def Till (P : Program) (md : Region.Mode) (ops : Array Oper) (Q : Exit → Act → World → Prop) (S : World → Prop) (k : Nat) (n : Nat) (l : Array Bool) (a : Act) (w : World) : Prop :=
  match n with
  | 0 => Region.ready md ops l = [] ∧ Q .normal a w
  | n + 1 => (Region.ready md ops l = [] → Q .normal a w) ∧ ∀ i, i ∈ Region.ready md ops l → wpOp P ops Q i (fun a' w' => (i ≠ k → S w') ∧ Till P md ops Q S k n (l.setIfInBounds i true) a' w') a w

theorem Till.any (n : Nat) : ∀ (l : Array Bool) (a : Act) (w : World), Till P md ops Q S k n l a w → wpAny P md ops Q n l a w := by
  induction n with
  | zero => exact fun _ _ _ h => h
  | succ n ih => exact fun l a w h => ⟨h.1, fun i hi => wpOp_mono (fun a' w' hh => ih _ a' w' hh.2) (h.2 i hi)⟩

/-- While i has not come up, nothing that waits for it may. -/
theorem not_ready {i j : Nat} {l : Array Bool} (hi : i ∈ Region.ready md ops l) {o : Oper} (ho : ops[j]? = some o) (hj : j ∈ Region.ready md ops l) {e : Edge} (he : e ∈ o.after) (hb : Region.binds md e = true) : e.on ≠ i := by
  rintro rfl
  obtain ⟨_, o', ho', hall⟩ := mem_ready.1 hj
  obtain rfl : o = o' := by rw [ho] at ho'; exact Option.some.inj ho'
  have h1 := hall e he hb
  have h0 := (mem_ready.1 hi).1
  by_cases hs : e.on < l.size
  · simp only [Array.getD, hs, dite_true] at h0 h1
    rw [h0] at h1
    cases h1
  · simp only [Array.getD, hs, dite_false] at h1
    cases h1

/-- What yields the same wherever S holds may be taken first, if number k waits for it. -/
theorem till_first {i : Nat} {oi ok : Oper} {v : Value} (hi : ops[i]? = some oi) (hk : ops[k]? = some ok) {e : Edge} (he : e ∈ ok.after) (hbe : Region.binds md e = true) (hei : e.on = i) (hns : Region.noSelect ops = true)
    (hQ : ∀ c a w, Q (.panic c) (a.put oi.dst v) w → Q (.panic c) a w) (n : Nat) : ∀ (l : Array Bool) (a : Act) (w : World),
      (∀ j oj, ops[j]? = some oj → j ≠ i → l.getD j true = false → (∀ e ∈ oj.after, Region.binds md e = true → e.on ≠ i) → oi.apart ops oj = true) →
      i ∈ Region.ready md ops l → YieldsIf P ops S oi v a → S w → Till P md ops Q S k n (l.setIfInBounds i true) (a.put oi.dst v) w → Till P md ops Q S k (n + 1) l a w := by
  have hsel := Region.noSelect_spec hns
  induction n with
  | zero =>
    intro l a w _ hr hy hS H
    refine ⟨fun h => absurd (h ▸ hr) (by simp), fun j hj => ?_⟩
    rcases Nat.decEq j i with hji | rfl
    · have hm := ready_mono hj hji
      rw [H.1] at hm
      exact absurd hm (by simp)
    · exact hy.wpOp hi hS ⟨fun _ => hS, H⟩
  | succ n ih =>
    intro l a w hf hr hy hS H
    refine ⟨fun h => absurd (h ▸ hr) (by simp), fun j hj => ?_⟩
    rcases Nat.decEq j i with hji | rfl
    · obtain ⟨hun, oj, hoj, _⟩ := mem_ready.1 hj
      have hjk : j ≠ k := by
        rintro rfl
        exact not_ready hr hk hj he hbe hei
      have hap := hf j oj hoj hji hun fun e' he' hb' => not_ready hr hoj hj he' hb'
      refine wpOp_mono ?_ (wpOp_putIf hoj hap (fun cs b => hsel i oi cs b hi) (fun cs b => hsel j oj cs b hoj) hQ hy (H.2 j (ready_mono hj hji)))
      rintro a' w' ⟨hy', hS', hT⟩
      refine ⟨hS', ih _ a' w' (fun m om hm hmi hmu hmn => hf m om hm hmi ?_ hmn) (ready_mono hr (Ne.symm hji)) hy' (hS' hjk) ?_⟩
      · rcases Nat.decEq j m with hjm | rfl
        · rwa [getD_set_ne true hjm] at hmu
        · exact hun
      · rw [Array.setIfInBounds_comm _ _ hji]
        exact hT
    · exact hy.wpOp hi hS ⟨fun _ => hS, H⟩

/-- Number k waits for number i. -/
def waitsB (md : Region.Mode) (ops : Array Oper) (k i : Nat) : Bool := match ops[k]? with
  | some o => o.after.any fun e => Region.binds md e && e.on == i
  | none => false

theorem till_take {i : Nat} {oi : Oper} {v : Value} {n : Nat} {l : Array Bool} {a : Act} {w : World} (hi : ops[i]? = some oi) (hs : Region.noSelect ops = true) (hf : Region.free md ops l i = true)
    (hr : (Region.ready md ops l).contains i = true) (hQ : ∀ c a w, Q (.panic c) (a.put oi.dst v) w → Q (.panic c) a w) (hy : YieldsIf P ops S oi v a) (hS : S w)
    (h : Till P md ops Q S k n (l.setIfInBounds i true) (a.put oi.dst v) w) (hw : waitsB md ops k i = true := by kernel_rfl) : Till P md ops Q S k (n + 1) l a w := by
  unfold waitsB at hw
  split at hw
  · rename_i ok hk
    obtain ⟨e, he, hbe⟩ := Array.any_eq_true'.mp hw
    rw [Bool.and_eq_true] at hbe
    exact till_first hi hk he hbe.1 (by simpa using hbe.2) hs hQ n l a w (Region.free_spec hi hf) (by simpa using hr) hy hS h
  · cases hw

def TillAll (P : Program) (md : Region.Mode) (ops : Array Oper) (Q : Exit → Act → World → Prop) (S : World → Prop) (k : Nat) (n : Nat) (l : Array Bool) (a : Act) (w : World) (rs : List Nat) : Prop :=
  ∀ i, i ∈ rs → wpOp P ops Q i (fun a' w' => (i ≠ k → S w') ∧ Till P md ops Q S k n (l.setIfInBounds i true) a' w') a w
theorem TillAll.nil {n : Nat} {l : Array Bool} {a : Act} {w : World} : TillAll P md ops Q S k n l a w [] := fun _ h => by cases h
theorem TillAll.cons {n : Nat} {l : Array Bool} {a : Act} {w : World} {i : Nat} {o : Oper} {rs : List Nat} (ho : ops[i]? = some o)
    (h : ∀ K' : Act → World → Prop, Shut (∀ a w, S w → (S w → Till P md ops Q S k n (l.setIfInBounds i true) a w) → K' a w) → if Region.wanted o (yielded ops a.tmps) = true then Oper.wp P o a w K' Q else K' (a.put o.dst undef) w)
    (hs : TillAll P md ops Q S k n l a w rs) (hik : i ≠ k := by decide) : TillAll P md ops Q S k n l a w (i :: rs) := fun j hj => by
  rcases List.mem_cons.1 hj with rfl | hj
  · exact wpOp_step ho fun K' hK => h K' fun a w hS hW => hK a w ⟨fun _ => hS, hW hS⟩
  · exact hs j hj
/-- The last one. -/
theorem TillAll.last {n : Nat} {l : Array Bool} {a : Act} {w : World} {o : Oper} {rs : List Nat} (ho : ops[k]? = some o)
    (h : ∀ K' : Act → World → Prop, Shut (∀ a w, True → (True → Till P md ops Q S k n (l.setIfInBounds k true) a w) → K' a w) → if Region.wanted o (yielded ops a.tmps) = true then Oper.wp P o a w K' Q else K' (a.put o.dst undef) w)
    (hs : TillAll P md ops Q S k n l a w rs) : TillAll P md ops Q S k n l a w (k :: rs) := fun j hj => by
  rcases List.mem_cons.1 hj with rfl | hj
  · exact wpOp_step ho fun K' hK => h K' fun a w _ hW => hK a w ⟨fun hk => absurd rfl hk, hW trivial⟩
  · exact hs j hj
theorem till_ready {rs : List Nat} {n : Nat} {l : Array Bool} {a : Act} {w : World} (hr : Region.ready md ops l = rs) (hne : rs ≠ []) (h : TillAll P md ops Q S k n l a w rs) : Till P md ops Q S k (n + 1) l a w :=
  ⟨fun h0 => absurd (hr ▸ h0) hne, hr ▸ h⟩
theorem till_done {l : Array Bool} {a : Act} {w : World} (hr : Region.ready md ops l = []) (h : Q .normal a w) (n : Nat) : Till P md ops Q S k n l a w := by
  cases n with
  | zero => exact ⟨hr, h⟩
  | succ n => exact ⟨fun _ => h, fun i hi => by rw [hr] at hi; cases hi⟩
theorem wp_region_till {id : Nat} {a : Act} {w : World} (k : Nat) (hm : P.follows .mixedOrders = true) (hS : S w.drew)
    (h : S w.drew → Till P .any ops Q S k ops.size (Array.replicate ops.size false) a w.drew) : (Code.region id ops true).wp P Q a w :=
  wp_region_any hm (Till.any _ _ _ _ (h hS))
end
end Go.Proofs.YtkoohdacneflfaaGreatDoor
