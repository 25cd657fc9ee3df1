/-
  What is parsed may be, but for how long it is; blanks; a byte 10 in a line.
-/
import Derived.Test.YtknfgcmidpgifaaGreatDoorZ12
import Derived.Test.YtknfgcmidpgifaaGreatDoorZ01
namespace Go.Proofs.YtknfgcmidpgifaaGreatDoor
open Go.RowKit Go.Shelf
set_option linter.unusedVariables false
set_option linter.unusedSimpArgs false
set_option maxRecDepth 100000

theorem fst3_fail (a b c : List UInt8) : (fst3 a b c).2 ≠ 200 → (fst3 a b c).1 = z0 := by
  unfold fst3
  intro h
  split
  · rfl
  · rename_i h1
    rw [if_neg h1] at h
    split
    · rfl
    · rename_i h2
      rw [if_neg h2] at h
      split
      · rfl
      · rename_i h3
        rw [if_neg h3] at h
        split
        · rfl
        · rename_i h4
          rw [if_neg h4] at h
          split
          · rfl
          · rename_i h5
            rw [if_neg h5] at h
            exact absurd rfl h
theorem par2_fail (h : Hd) (ls : List (List UInt8)) (hf : (par2 h ls).2 ≠ 200) : (par2 h ls).1 = z0 := by
  unfold par2 at hf ⊢
  split
  · rfl
  · rename_i h1
    rw [if_neg h1] at hf
    split
    · rfl
    · rename_i h2
      rw [if_neg h2] at hf
      exact absurd rfl hf
/-- **A status alone comes with no head.** -/
theorem par_fail (b : List UInt8) (h : (parH b).2 ≠ 200) : (parH b).1 = z0 := by
  unfold parH at h ⊢
  split
  · rfl
  · rename_i h1
    rw [if_neg h1] at h
    cases hl : linesB b with
    | nil => rfl
    | cons l ls =>
      rw [hl] at h
      rw [par1] at h ⊢
      split
      · rfl
      · rename_i h2
        rw [if_neg h2] at h
        exact par2_fail _ _ h

theorem spl_size (c : UInt8) (l : List UInt8) : ((spl c l).map fun w => w.length + 1).sum = l.length + 1 := by
  induction l with
  | nil => rfl
  | cons x r ih =>
    have hne := spl_ne c r
    unfold spl
    split
    · rw [List.map_cons, List.sum_cons, ih]; simp; omega
    · cases h : spl c r with
      | nil => exact absurd h hne
      | cons w ws =>
        rw [h, List.map_cons, List.sum_cons] at ih
        simp only [List.map_cons, List.sum_cons, List.length_cons] at ih ⊢
        omega
theorem verN_ok {n : List UInt8} (h : (verN n).2 = 200) : n.length = 3 ∧ ((verN n).1 = 0 ∨ (verN n).1 = 1) := by
  match n, h with
  | [], h => cases h
  | [_], h => cases h
  | [_, _], h => cases h
  | [a, b, c], h =>
    refine ⟨rfl, ?_⟩
    have e : verN [a, b, c] = if onlyR dR [a] && (b == 46 && onlyR dR [c]) then (if [a, b, c] = [49, 46, 48] then (0, 200) else if [a, b, c] = [49, 46, 49] then (1, 200) else (0, 505)) else (0, 400) := rfl
    rw [e] at h ⊢
    by_cases h1 : (onlyR dR [a] && (b == 46 && onlyR dR [c])) = true
    · rw [if_pos h1] at h ⊢
      by_cases h2 : [a, b, c] = [49, 46, 48]
      · rw [if_pos h2]; exact .inl rfl
      · rw [if_neg h2] at h ⊢
        by_cases h3 : [a, b, c] = [49, 46, 49]
        · rw [if_pos h3]; exact .inr rfl
        · rw [if_neg h3] at h; cases h
    · rw [if_neg h1] at h; cases h
  | _ :: _ :: _ :: _ :: _, h => cases h
theorem verL_ok {w : List UInt8} (h : (verL w).2 = 200) : w.length = 8 ∧ ((verL w).1 = 0 ∨ (verL w).1 = 1) := by
  unfold verL at h ⊢
  split
  · rename_i h1
    rw [if_pos h1] at h
    obtain ⟨h2, h3⟩ := verN_ok h
    rw [List.length_drop] at h2
    exact ⟨by omega, h3⟩
  · rename_i h1
    rw [if_neg h1] at h
    cases h
theorem fst_ok {l : List UInt8} (h : (fstL l).2 = 200) : wordL (fstL l).1.m 16 = true ∧ tgtL (fstL l).1.t = true ∧ ((fstL l).1.v = 0 ∨ (fstL l).1.v = 1) ∧ l.length = (fstL l).1.m.length + (fstL l).1.t.length + 10 := by
  by_cases h3 : (spl 32 l).length = 3
  · obtain ⟨a, b, c, hs⟩ : ∃ a b c, spl 32 l = [a, b, c] := by
      match hs : spl 32 l, h3 with
      | [a, b, c], _ => exact ⟨a, b, c, rfl⟩
    have hz := spl_size 32 l
    rw [hs] at hz
    rw [fstL_3 hs] at h ⊢
    unfold fst3 at h ⊢
    split
    · rename_i h1; rw [if_pos h1] at h; cases h
    · rename_i h1
      rw [if_neg h1] at h
      split
      · rename_i h2; rw [if_pos h2] at h; cases h
      · rename_i h2
        rw [if_neg h2] at h
        split
        · rename_i h4
          rw [if_pos h4] at h
          exact absurd h h4
        · rename_i h4
          rw [if_neg h4] at h
          split
          · rename_i h5; rw [if_pos h5] at h; cases h
          · rename_i h5
            rw [if_neg h5] at h
            split
            · rename_i h6; rw [if_pos h6] at h; cases h
            · rename_i h6
              have h4 : (verL c).2 = 200 := by simpa using h4
              obtain ⟨v1, v2⟩ := verL_ok h4
              simp only [List.map_cons, List.map_nil, List.sum_cons, List.sum_nil] at hz
              exact ⟨by simpa using h2, by simpa using h6, v2, by simp only; omega⟩
  · rw [fstL_no h3] at h; cases h
theorem bad_no {l : List UInt8} (h : badF l = false) : okF (ahd l, trimB (bhd l)) = true ∧ (ahd l).length + (trimB (bhd l)).length + 1 ≤ l.length := by
  unfold badF at h
  simp only [Bool.or_eq_false_iff, Bool.not_eq_false'] at h
  obtain ⟨h1, h2, h3⟩ := h
  refine ⟨by unfold okF; simp only [h2, h3]; rfl, ?_⟩
  have hm : (58 : UInt8) ∈ l := by simpa using h1
  have h4 := (tw_at l 58 hm).2
  have h5 : (bhd l).length = l.length - (ahd l).length - 1 := by
    unfold bhd ahd
    rw [List.length_drop, ← tw_drop, List.length_drop]
  have h6 : (ahd l).length < l.length := h4
  have h7 := trimB_len (bhd l)
  omega
theorem flds_ok : ∀ (ls : List (List UInt8)) (acc : List Fd), (fldsA acc ls).2 = 200 → ∃ fs, (fldsA acc ls).1 = acc ++ fs ∧ (∀ f ∈ fs, okF f = true) ∧ szF fs + 3 * fs.length ≤ (joinL ls).length
  | [], acc, _ => ⟨[], by simp [fldsA], by simp, by simp [szF]⟩
  | l :: r, acc, h => by
    by_cases h32 : acc.length = 32
    · rw [fldsA_stop h32] at h; cases h
    · cases hb : badF l with
      | true => rw [fldsA_bad h32 hb] at h; cases h
      | false =>
        rw [fldsA_go h32 hb] at h ⊢
        obtain ⟨fs, h1, h2, h3⟩ := flds_ok r _ h
        obtain ⟨h4, h5⟩ := bad_no hb
        refine ⟨(ahd l, trimB (bhd l)) :: fs, by rw [h1]; simp, fun f hf => ?_, ?_⟩
        · rcases List.mem_cons.mp hf with rfl | hf
          · exact h4
          · exact h2 f hf
        · have e : szF ((ahd l, trimB (bhd l)) :: fs) = ((ahd l).length + (trimB (bhd l)).length) + szF fs := by simp [szF]
          have e2 : (joinL (l :: r)).length = l.length + 2 + (joinL r).length := by unfold joinL; rw [List.flatMap_cons, List.length_append, List.length_append]; rfl
          rw [e, e2, List.length_cons]
          omega
/-- What a head that is parsed is. -/
theorem par_ok {b : List UInt8} (h : (parH b).2 = 200) : wordL (parH b).1.m 16 = true ∧ tgtL (parH b).1.t = true ∧ ((parH b).1.v = 0 ∨ (parH b).1.v = 1) ∧ (parH b).1.fs.length ≤ 32 ∧ (∀ f ∈ (parH b).1.fs, okF f = true) ∧ hostL (parH b).1.fs (parH b).1.v = true ∧
    (wrH (parH b).1).length ≤ b.length + 32 ∧ b.length ≤ 4096 := by
  unfold parH at h ⊢
  by_cases h1 : 4096 < b.length
  · rw [if_pos h1] at h; cases h
  · rw [if_neg h1] at h ⊢
    cases hl : linesB b with
    | nil => rw [hl] at h; cases h
    | cons l ls =>
      have hz := lines_size hl
      rw [hl] at h
      rw [par1] at h ⊢
      by_cases h2 : (fstL l).2 ≠ 200
      · rw [if_pos h2] at h; exact absurd h h2
      · rw [if_neg h2] at h ⊢
        obtain ⟨f1, f2, f3, f4⟩ := fst_ok (by simpa using h2)
        unfold par2 at h ⊢
        by_cases h3 : (fldsA [] ls).2 ≠ 200
        · rw [if_pos h3] at h; exact absurd h h3
        · rw [if_neg h3] at h ⊢
          by_cases h4 : hostL (fldsA [] ls).1 (fstL l).1.v = false
          · rw [if_pos h4] at h; cases h
          · rw [if_neg h4]
            obtain ⟨fs, g1, g2, g3⟩ := flds_ok ls [] (by simpa using h3)
            have g4 := (flds_len ls [] (by simp)).1
            rw [g1, List.nil_append] at g4
            rw [g1, List.nil_append] at h4 ⊢
            refine ⟨f1, f2, f3, g4, g2, by simpa using h4, ?_, by omega⟩
            rw [wrH_len]
            have e2 : (joinL (l :: ls)).length = l.length + 2 + (joinL ls).length := by unfold joinL; rw [List.flatMap_cons, List.length_append, List.length_append]; rfl
            rw [hz, e2]
            simp only
            omega
theorem par_may {b : List UInt8} (h : (parH b).2 = 200) : mayH (parH b).1 = decide ((wrH (parH b).1).length ≤ 4096) := by
  obtain ⟨h1, h2, h3, h4, h5, h6, _⟩ := par_ok h
  unfold mayH
  have hv : ((parH b).1.v == 0 || (parH b).1.v == 1) = true := by rcases h3 with e | e <;> rw [e] <;> rfl
  have ha : ((parH b).1.fs.all fun f => wordL f.1 64 && valL f.2) = true := List.all_eq_true.mpr h5
  rw [h1, h2, hv, decide_eq_true h4, ha, h6]
  simp
end Go.Proofs.YtknfgcmidpgifaaGreatDoor

/-
  The statement HeadKnown.
-/
namespace Go.Proofs.YtknfgcmidpgifaaGreatDoor
open Go.RowKit Go.Shelf
set_option linter.unusedVariables false
set_option linter.unusedSimpArgs false
set_option maxRecDepth 100000

/-- The second field's value, turned in place. -/
theorem sf_turn {w : World} {B c : Nat} {a : Option Addr} {f0 f1 : Fd} (ho : OwnF w B (.slice a 2 c) [f0, f1]) : ∃ g, a = some ⟨g, 0, none⟩ ∧ B ≤ g ∧ g < w.heap.size ∧ w.cell? ⟨g, 3, none⟩ = some (.string (bs f1.2)) ∧ w.frozen? ⟨g, 3, none⟩ = false ∧
    ∀ x : List UInt8, SF (w.setCell ⟨g, 3, none⟩ (.string (bs x))) w.heap.size (.slice a 2 c) [f0, (f1.1, x)] := by
  have hlt := World.ownsRow.lt ho
  have hs := ho.sf (by simp)
  obtain ⟨hl, h | ⟨g, cap, cur, he, hB, hg, _⟩⟩ := ho
  · simp at h
  · injection he with he1 he2 he3
    subst he1; subst he3
    obtain ⟨a', c', he, hn, hz, hx⟩ := hs
    injection he with e1 e2 e3
    subst e1; subst e3
    obtain ⟨b, off, e4, h1, h2⟩ := hx (by simp)
    injection e4 with e4
    injection e4 with e5 e6
    subst e5; subst e6
    have c0 := h2 0 (.string (bs f0.1)) rfl
    have c1 := h2 1 (.string (bs f0.2)) rfl
    have c2 := h2 2 (.string (bs f1.1)) rfl
    have c3 := h2 3 (.string (bs f1.2)) rfl
    simp only [Nat.zero_add] at c0 c1 c2 c3
    refine ⟨g, rfl, hB, h1, c3, by simp [World.frozen?, hg], fun x => ?_⟩
    refine ⟨_, _, rfl, by simp, fun h => by simp at h, fun _ => ⟨g, 0, rfl, h1, fun i u hu => ?_⟩⟩
    rw [Nat.zero_add]
    have hne : ∀ j, j ≠ 3 → (⟨g, 3, none⟩ : Addr) ≠ ⟨g, j, none⟩ := fun j hj e => hj (congrArg Addr.off e).symm
    match i, hu with
    | 0, hu => simp [acf, cf] at hu; subst hu; rw [World.cell?_setCell_other _ _ _ _ (hne 0 (by decide))]; exact c0
    | 1, hu => simp [acf, cf] at hu; subst hu; rw [World.cell?_setCell_other _ _ _ _ (hne 1 (by decide))]; exact c1
    | 2, hu => simp [acf, cf] at hu; subst hu; rw [World.cell?_setCell_other _ _ _ _ (hne 2 (by decide))]; exact c2
    | 3, hu => simp [acf, cf] at hu; subst hu; exact World.cell?_setCell_same _ _ _ c3
    | i + 4, hu => simp [acf, cf] at hu

def ks1 : List UInt8 := [71, 69, 84, 32, 47, 97, 32, 72, 84, 84, 80, 47, 49, 46, 48, 13, 10, 13, 10]
theorem kv1 : (parH ks1).2 = 200 := by rfl
def ks2 : List UInt8 := [71, 69, 84, 32, 32, 47, 97, 32, 72, 84, 84, 80, 47, 49, 46, 49, 13, 10, 13, 10]
theorem kv2 : (parH ks2).2 = 400 := by rfl
def ks3 : List UInt8 := [71, 69, 84, 32, 97, 32, 72, 84, 84, 80, 47, 49, 46, 48, 13, 10, 13, 10]
theorem kv3 : (parH ks3).2 = 400 := by rfl
def ks4 : List UInt8 := [71, 69, 84, 32, 47, 97, 32, 72, 84, 84, 80, 47, 49, 46, 48, 13, 10, 97, 13, 10, 13, 10]
theorem kv4 : (parH ks4).2 = 400 := by rfl
def ks5 : List UInt8 := [71, 69, 84, 32, 47, 97, 32, 72, 84, 84, 80, 47, 49, 46, 48, 13, 10, 97, 32, 58, 98, 13, 10, 13, 10]
theorem kv5 : (parH ks5).2 = 400 := by rfl
def ks6 : List UInt8 := []
theorem kv6 : (parH ks6).2 = 400 := by rfl
def ks7 : List UInt8 := [71, 69, 84, 32, 47, 97, 32, 72, 84, 84, 80, 47, 49, 46, 48, 10, 10]
theorem kv7 : (parH ks7).2 = 400 := by rfl
def kA : List UInt8 := [97]
def kB : List UInt8 := [98]
def kCon : List UInt8 := [99, 111, 110, 110, 101, 99, 116, 105, 111, 110]
def kKA : List UInt8 := [75, 101, 101, 112, 45, 65, 108, 105, 118, 101]
def kAC : List UInt8 := [97, 44, 32, 67, 108, 111, 115, 101]
def k7 : List UInt8 := [55]
def k07 : List UInt8 := [48, 55]
def k70 : List UInt8 := [55, 48, 48, 48, 48]
def kX : List UInt8 := [120]
theorem kl1 : lenH [(nLen, k7), (nCL, k7)] = (7, 200) := by rfl
theorem kl2 : lenH [(nLen, k7), (nCL, k07)] = (0, 400) := by rfl
theorem kl3 : lenH [(nLen, k70)] = (0, 413) := by rfl
theorem kl4 : lenH [(nLen, kX)] = (0, 400) := by rfl
theorem kl5 : lenH [(kA, k7)] = (-1, 200) := by rfl
theorem kk1 : keepH 1 [(kA, kB)] = true := by rfl
theorem kk2 : keepH 0 [(kA, kB)] = false := by rfl
theorem kk3 : keepH 0 [(kCon, kKA)] = true := by rfl
theorem kk4 : keepH 1 [(kCon, kAC)] = false := by rfl

theorem status_is {w : World} (s : List UInt8) (v : Int) (h : (parH s).2 = v) (hs : s.length ≤ 1000000) (hE : Env w) : Calls Tryz.prog 25 #[.string (bs s)] w (Tells w (.int .i64 v)) := by
  have := status_any s hs hE
  rwa [h] at this
theorem fits_all (m t : List UInt8) (v : Int) (l : List Fd) (hl : l.length ≤ 900000) (h : (l.all fun x => decide (x.1.length ≤ 900000) && decide (x.2.length ≤ 900000)) = true) : Fits ⟨m, t, v, l⟩ := ⟨hl, fun x hx => by
  have := List.all_eq_true.mp h x hx
  simp only [Bool.and_eq_true, decide_eq_true_eq] at this
  exact ⟨this.1, by omega⟩⟩
theorem len_is {w : World} {B n c : Nat} {a : Option Addr} {v : Int} (l : List Fd) (r s : Int) (ho : SF w w.heap.size (.slice a n c) l) (hr : lenH l = (r, s)) (hf : Fits ⟨mGet, tA, v, l⟩) :
    Calls Tryz.prog 21 #[.agg #[.string (bs mGet), .string (bs tA), .int .i64 v, .slice a n c]] w (Tells w (.tuple #[.int .i64 r, .int .i64 s])) := by
  have := length_any (w := w) (h := ⟨mGet, tA, v, l⟩) ⟨_, rfl, ho⟩ (Nat.le_refl _) hf
  simp only [hr] at this
  exact this
theorem keep_is {w : World} {B c : Nat} {a : Option Addr} (v : Int) (f : Fd) (k : Bool) (ho : OwnF w B (.slice a 1 c) [f]) (hr : keepH v [f] = k) (hf : Fits ⟨mGet, tA, v, [f]⟩) (h2 : f.2.length ≤ 1000000) (hE : Env w) :
    Calls Tryz.prog 23 #[.agg #[.string (bs mGet), .string (bs tA), .int .i64 v, .slice a 1 c]] w (Tells w (.bool k)) := by
  have := keep_any (w := w) (h := ⟨mGet, tA, v, [f]⟩) ⟨_, rfl, ho.sf (by simp)⟩ (Nat.le_refl _) hf (fun x hx => by simp only [List.mem_singleton] at hx; subst hx; exact h2) hE
  simp only [hr] at this
  exact this

set_option maxHeartbeats 16000000 in
theorem known_law {w : World} (hE : Env w) : Calls Tryz.prog 5 #[] w (Tells w (.bool true)) := by
  have HE := Lib.hid hE
  have HB0 := Lib.hid (Below.refl w.heap.size w)
  have HEL := Lib.hid (fun (wx : World) (hb : Below w.heap.size w wx) => hE.later hb)
  clear hE
  go_enter Tryz.func5, Tryz.ntmps5
  go_wp2_with fail
  refine (status_is (w := w) ks1 200 kv1 (by decide) (HEL.out _ HB0.out)).mono ?_; rintro e w1 ⟨rfl, hb⟩
  have HB1 := Lib.hid (bel_call HB0.out hb)
  clear hb
  go_wp2_with fail
  refine (status_is (w := w1) ks2 400 kv2 (by decide) (HEL.out _ HB1.out)).mono ?_; rintro e w2 ⟨rfl, hb⟩
  have HB2 := Lib.hid (bel_call HB1.out hb)
  clear hb
  go_wp2_with fail
  refine (status_is (w := w2) ks3 400 kv3 (by decide) (HEL.out _ HB2.out)).mono ?_; rintro e w3 ⟨rfl, hb⟩
  have HB3 := Lib.hid (bel_call HB2.out hb)
  clear hb
  go_wp2_with fail
  refine (status_is (w := w3) ks4 400 kv4 (by decide) (HEL.out _ HB3.out)).mono ?_; rintro e w4 ⟨rfl, hb⟩
  have HB4 := Lib.hid (bel_call HB3.out hb)
  clear hb
  go_wp2_with fail
  refine (status_is (w := w4) ks5 400 kv5 (by decide) (HEL.out _ HB4.out)).mono ?_; rintro e w5 ⟨rfl, hb⟩
  have HB5 := Lib.hid (bel_call HB4.out hb)
  clear hb
  go_wp2_with fail
  refine (status_is (w := w5) ks6 400 kv6 (by decide) (HEL.out _ HB5.out)).mono ?_; rintro e w6 ⟨rfl, hb⟩
  have HB6 := Lib.hid (bel_call HB5.out hb)
  clear hb
  go_wp2_with fail
  refine (status_is (w := w6) ks7 400 kv7 (by decide) (HEL.out _ HB6.out)).mono ?_; rintro e w7 ⟨rfl, hb⟩
  have HB7 := Lib.hid (bel_call HB6.out hb)
  clear hb
  go_wp2_with fail
  refine (of_any 1 nLen k7 w7).mono ?_; rintro e w8 ⟨a8, rfl, ho, hb⟩
  have hal : Below w8.heap.size w8 (w8.alloc (.cells #[.string (bs mGet), .string (bs tA), .int .i64 1, .slice a8 1 1] 24)) := (Below.refl _ _).alloc (Nat.le_refl _) _
  have hxx := cel_new4 w8 (.string (bs mGet)) (.string (bs tA)) (.int .i64 1) (.slice a8 1 1) 24
  obtain ⟨W, hW⟩ : ∃ W, w8.alloc (.cells #[.string (bs mGet), .string (bs tA), .int .i64 1, .slice a8 1 1] 24) = W := ⟨_, rfl⟩
  have HWl := Lib.hid hW
  have hoa := ho.below hal
  have HBW := Lib.hid (bel_call HB7.out (bel_call hb hal))
  rw [hW] at hal hxx hoa HBW
  have HQ := Lib.hid (show w7.heap.size ≤ w8.heap.size from hb.size)
  have HSQ := Lib.hid (show W.heap.size = w8.heap.size + 1 by rw [← hW, World.size_alloc])
  have HOW := Lib.hid hoa
  have HOQ := Lib.hid (show ∀ k, (Value.slice a8 1 1).ownBlock = some k → k ≠ w8.heap.size from fun k hk => by have := (ho.lt k hk).2; omega)
  have HXW := Lib.hid hxx
  obtain ⟨a5, k5, w6, r6, z6, f6, x6, o6, u6, s6⟩ := box_app (nCL, k7) HOW.out rfl HXW.out HOQ.out (by have := HSQ.out; have := HQ.out; omega) (by omega)
  have r6 : (Builtin.append_ #[22, 22] 22 #[.slice a8 1 1, .slice (some ⟨W.heap.size, 0, none⟩) 1 1]).run Tryz.prog (W.alloc (.cells #[.string ⟨#[67, 111, 110, 116, 101, 110, 116, 45, 76, 101, 110, 103, 116, 104]⟩, .string ⟨#[55]⟩] 44)) = .ok (.slice a5 2 k5) w6 := r6
  have s6 : Aside (fun b => b = w8.heap.size ∨ w7.heap.size ≤ b) W (w6.setCell ⟨w8.heap.size, 3, none⟩ (.slice a5 2 k5)) := s6
  have HR6 := Lib.hid r6
  have HX6 := Lib.hid x6
  have HO6 := Lib.hid (show OwnF (w6.setCell ⟨w8.heap.size, 3, none⟩ (.slice a5 2 k5)) w7.heap.size (.slice a5 2 k5) [(nLen, k7), (nCL, k7)] from o6)
  have HU6 := Lib.hid u6
  have HB6x := Lib.hid (show Below w.heap.size w (w6.setCell ⟨w8.heap.size, 3, none⟩ (.slice a5 2 k5)) from below_aside HBW.out s6 (fun b hb => ⟨by have := HBW.out.size; omega, fun h => by
    have := HB7.out.size
    have := HQ.out
    rcases h with h | h <;> omega⟩))
  have HZ6 := Lib.hid (show w8.heap.size + 1 ≤ (w6.setCell ⟨w8.heap.size, 3, none⟩ (.slice a5 2 k5)).heap.size from by have := s6.size; have := HSQ.out; omega)
  clear ho hb hal hxx hoa r6 x6 o6 u6 s6
  obtain ⟨c0, c1, c2, c3⟩ := HXW.out.four
  have cf := HXW.out.fz
  obtain ⟨m0, m1, m2, m3⟩ := HX6.out.four
  have hm := HX6.out.fz
  go_wp2_with (at_builtin; refine wpList_append_run (.tmp 41) (.tmp 43) 22 22 rfl rfl rfl rfl HR6.out ?_)
  obtain ⟨W6, hW6⟩ : ∃ W6, w6.setCell ⟨w8.heap.size, 3, none⟩ (.slice a5 2 k5) = W6 := ⟨_, rfl⟩
  rw [hW6] at HX6 HO6 HB6x HZ6 ⊢
  clear c0 c1 c2 c3 cf z6 f6 hW6 m0 m1 m2 m3 hm hW
  obtain ⟨q, hq⟩ : ∃ q, w8.heap.size = q := ⟨_, rfl⟩
  rw [hq] at HX6 HU6 HZ6
  refine (len_is (v := 1) (B := 0) [(nLen, k7), (nCL, k7)] 7 200 (HO6.out.sf (by simp)) kl1 (fits_all _ _ _ _ (by simp) (by rfl))).mono ?_; rintro e w9 ⟨rfl, hb⟩
  have HB9 := Lib.hid (bel_call HB6x.out hb)
  have HX9 := Lib.hid (HX6.out.below (by simp) hb)
  have HO9 := Lib.hid (HO6.out.below hb)
  clear hb
  obtain ⟨g, rfl, hg1, hg2, g3, gf, hturn⟩ := sf_turn HO9.out
  have hgq : g ≠ q := HU6.out g rfl
  have HT10 := Lib.hid (hturn k07)
  have HB10 := Lib.hid (show Below w.heap.size w (w9.setCell ⟨g, 3, none⟩ (.string (bs k07))) from HB9.out.setCell (p := ⟨g, 3, none⟩) (by have := HB7.out.size; show w.heap.size ≤ g; omega) _)
  have HX10 := Lib.hid (HX9.out.other (a := ⟨g, 3, none⟩) hgq (.string (bs k07)))
  have e07 : (bs k07) = ⟨#[48, 55]⟩ := rfl
  obtain ⟨c0, c1, c2, c3⟩ := HX9.out.four
  obtain ⟨m0, m1, m2, m3⟩ := HX10.out.four
  rw [e07] at m0 m1 m2 m3
  clear hturn hg1 hg2 e07
  go_wp2_with fail
  clear c0 c1 c2 c3 g3 gf m0 m1 m2 m3
  obtain ⟨W10, hW10⟩ : ∃ W, w9.setCell ⟨g, 3, none⟩ (.string (bs k07)) = W := ⟨_, rfl⟩
  have hW10' : w9.setCell ⟨g, 3, none⟩ (.string ⟨#[48, 55]⟩) = W10 := hW10
  have HT11 := Lib.hid (show SF W10 W10.heap.size (.slice (some ⟨g, 0, none⟩) 2 k5) [(nLen, k7), (nCL, k07)] from by rw [← hW10]; exact Lst.wide HT10.out (by simp [World.setCell]))
  rw [hW10] at HB10
  rw [hW10']
  clear hW10 hW10' HT10 HX10
  refine (len_is (w := W10) (v := 1) (B := 0) [(nLen, k7), (nCL, k07)] 0 400 HT11.out kl2 (fits_all _ _ _ _ (by simp) (by rfl))).mono ?_; rintro e w11 ⟨rfl, hb⟩
  have HB11 := Lib.hid (bel_call HB10.out hb)
  clear hb
  go_wp2_with fail
  refine (of_any 1 nLen k70 w11).mono ?_; rintro e w12 ⟨a12, rfl, ho, hb⟩
  have HB12 := Lib.hid (bel_call HB11.out hb)
  have HO12 := Lib.hid ho
  clear hb ho
  go_wp2_with fail
  refine (len_is (w := w12) (v := 1) (B := 0) [(nLen, k70)] (0) 413 (HO12.out.sf (by simp)) kl3 (fits_all _ _ _ _ (by simp) (by rfl))).mono ?_; rintro e w13 ⟨rfl, hb⟩
  have HB13 := Lib.hid (bel_call HB12.out hb)
  clear hb
  go_wp2_with fail
  refine (of_any 1 nLen kX w13).mono ?_; rintro e w14 ⟨a14, rfl, ho, hb⟩
  have HB14 := Lib.hid (bel_call HB13.out hb)
  have HO14 := Lib.hid ho
  clear hb ho
  go_wp2_with fail
  refine (len_is (w := w14) (v := 1) (B := 0) [(nLen, kX)] (0) 400 (HO14.out.sf (by simp)) kl4 (fits_all _ _ _ _ (by simp) (by rfl))).mono ?_; rintro e w15 ⟨rfl, hb⟩
  have HB15 := Lib.hid (bel_call HB14.out hb)
  clear hb
  go_wp2_with fail
  refine (of_any 1 kA k7 w15).mono ?_; rintro e w16 ⟨a16, rfl, ho, hb⟩
  have HB16 := Lib.hid (bel_call HB15.out hb)
  have HO16 := Lib.hid ho
  clear hb ho
  go_wp2_with fail
  refine (len_is (w := w16) (v := 1) (B := 0) [(kA, k7)] (-1) 200 (HO16.out.sf (by simp)) kl5 (fits_all _ _ _ _ (by simp) (by rfl))).mono ?_; rintro e w17 ⟨rfl, hb⟩
  have HB17 := Lib.hid (bel_call HB16.out hb)
  clear hb
  go_wp2_with fail
  refine (awake_any (HEL.out _ HB17.out)).mono ?_; rintro e w18 ⟨rfl, hb⟩
  have HB18 := Lib.hid (bel_call HB17.out hb)
  clear hb
  go_wp2_with fail
  refine (of_any 1 kA kB w18).mono ?_; rintro e w19 ⟨a19, rfl, ho, hb⟩
  have HB19 := Lib.hid (bel_call HB18.out hb)
  have HO19 := Lib.hid ho
  clear hb ho
  go_wp2_with fail
  refine (keep_is (w := w19) 1 (kA, kB) true HO19.out kk1 (fits_all _ _ _ _ (by simp) (by rfl)) (by decide) (HEL.out _ HB19.out)).mono ?_; rintro e w20 ⟨rfl, hb⟩
  have HB20 := Lib.hid (bel_call HB19.out hb)
  clear hb
  go_wp2_with fail
  refine (of_any 0 kA kB w20).mono ?_; rintro e w21 ⟨a21, rfl, ho, hb⟩
  have HB21 := Lib.hid (bel_call HB20.out hb)
  have HO21 := Lib.hid ho
  clear hb ho
  go_wp2_with fail
  refine (keep_is (w := w21) 0 (kA, kB) false HO21.out kk2 (fits_all _ _ _ _ (by simp) (by rfl)) (by decide) (HEL.out _ HB21.out)).mono ?_; rintro e w22 ⟨rfl, hb⟩
  have HB22 := Lib.hid (bel_call HB21.out hb)
  clear hb
  go_wp2_with fail
  refine (of_any 0 kCon kKA w22).mono ?_; rintro e w23 ⟨a23, rfl, ho, hb⟩
  have HB23 := Lib.hid (bel_call HB22.out hb)
  have HO23 := Lib.hid ho
  clear hb ho
  go_wp2_with fail
  refine (keep_is (w := w23) 0 (kCon, kKA) true HO23.out kk3 (fits_all _ _ _ _ (by simp) (by rfl)) (by decide) (HEL.out _ HB23.out)).mono ?_; rintro e w24 ⟨rfl, hb⟩
  have HB24 := Lib.hid (bel_call HB23.out hb)
  clear hb
  go_wp2_with fail
  refine (of_any 1 kCon kAC w24).mono ?_; rintro e w25 ⟨a25, rfl, ho, hb⟩
  have HB25 := Lib.hid (bel_call HB24.out hb)
  have HO25 := Lib.hid ho
  clear hb ho
  go_wp2_with fail
  refine (keep_is (w := w25) 1 (kCon, kAC) false HO25.out kk4 (fits_all _ _ _ _ (by simp) (by rfl)) (by decide) (HEL.out _ HB25.out)).mono ?_; rintro e w26 ⟨rfl, hb⟩
  have HB26 := Lib.hid (bel_call HB25.out hb)
  clear hb
  go_wp2_with fail
  go_ret
  exact ⟨rfl, HB26.out⟩
end Go.Proofs.YtknfgcmidpgifaaGreatDoor

/-
  The statement HeadBack.
-/
namespace Go.Proofs.YtknfgcmidpgifaaGreatDoor
open Go.RowKit Go.Shelf
set_option linter.unusedVariables false
set_option linter.unusedSimpArgs false
set_option maxRecDepth 100000

theorem parsed_big {b : List UInt8} (h : (parH b).2 = 200) : Big (parH b).1 := by
  obtain ⟨_, _, _, _, _, _, h7, h8⟩ := par_ok h
  rw [wrH_len] at h7
  refine ⟨by omega, by omega, fun x hx => ?_⟩
  have := szF_mem hx
  omega
theorem Ho.agg {w : World} {B : Nat} {v : Value} {h : Hd} (hh : Ho w B v h) : ∃ a c, v = .agg #[.string (bs h.m), .string (bs h.t), .int .i64 h.v, .slice a h.fs.length c] ∧ OwnF w B (.slice a h.fs.length c) h.fs := by
  obtain ⟨sl, rfl, ho⟩ := hh
  obtain ⟨a, c, rfl⟩ := OwnF.shape ho
  exact ⟨a, c, rfl, ho⟩
theorem slb {w w' : World} {v : Value} {l : List UInt8} (h : Sl w 0 w.heap.size v (iz l)) (hb : Below w.heap.size w w') : Sl w' 0 w'.heap.size v (iz l) := (h.below hb (Nat.le_refl _)).wide (Nat.le_refl _) hb.size

set_option maxHeartbeats 32000000 in
theorem back_law {w : World} {hi : Nat} {u bv : Value} {h : Hd} {b : List UInt8} (hh : Hv w hi u h) (h1 : hi ≤ w.heap.size) (hm : Mem h) (hs : Sl w 0 w.heap.size bv (iz b)) (hE : Env w) :
    Calls Tryz.prog 6 #[u, bv] w (Tells w (.bool true)) := by
  obtain ⟨m, t, v, l⟩ := h
  have HH := Lib.hid (And.intro hh h1)
  have HSB := Lib.hid hs
  obtain ⟨sl, rfl, hs0⟩ := hh
  simp only at hs0
  obtain ⟨a, c, rfl⟩ := Lst.shape hs0
  obtain ⟨ab, cb, rfl⟩ := sl_shape hs rfl
  have hb0 : Below w.heap.size w (w.alloc (.cells #[.string (bs m), .string (bs t), .int .i64 v, .slice a l.length c] 24)) := (Below.refl _ _).alloc (Nat.le_refl _) _
  have hx := cel_new4 w (.string (bs m)) (.string (bs t)) (.int .i64 v) (.slice a l.length c) 24
  obtain ⟨N, hN⟩ : ∃ N, w.heap.size = N := ⟨_, rfl⟩
  rw [hN] at hx
  have HB0 := Lib.hid hb0
  have HX0 := Lib.hid hx
  obtain ⟨W, hW⟩ : ∃ W, w.alloc (.cells #[.string (bs m), .string (bs t), .int .i64 v, .slice a l.length c] 24) = W := ⟨_, rfl⟩
  rw [hW] at HB0 HX0
  have HHv := Lib.hid (fun (wx : World) (hb : Below w.heap.size w wx) => (HH.out.1.below hb HH.out.2).wide (hi' := wx.heap.size) (Nat.le_trans HH.out.2 hb.size))
  have HKN := Lib.hid (known_law (hE.later HB0.out))
  have HEL := Lib.hid (fun (wx : World) (hb : Below w.heap.size w wx) => hE.later hb)
  have HSL := Lib.hid (fun (wx : World) (hb : Below w.heap.size w wx) => slb HSB.out hb)
  have HLH := Lib.hid (fun (wx : World) (hb : Below w.heap.size w wx) => longH_any (HHv.out wx hb) (Nat.le_refl _) hm)
  obtain ⟨LG, hLG⟩ : ∃ B, longH ⟨m, t, v, l⟩ = B := ⟨_, rfl⟩
  simp only [hLG] at HLH
  clear hs0 hb0 hx hm hE hs
  cases LG with
  | true =>
    clear hLG
    go_enter Tryz.func6, Tryz.ntmps6
    go_wp2_with fail
    refine (HKN.out).mono ?_; rintro e w1 ⟨rfl, hb⟩
    have HB1 := Lib.hid (HB0.out.trans (hb.mono HB0.out.size))
    have HX1 := Lib.hid (HX0.out.below (by simp) hb)
    clear hb
    obtain ⟨c0, c1, c2, c3⟩ := HX1.out.four
    go_wp2_with fail
    clear c0 c1 c2 c3
    refine (HLH.out _ HB1.out).mono ?_; rintro e w2 ⟨rfl, hb⟩
    have HB2 := Lib.hid (HB1.out.trans (hb.mono HB1.out.size))
    have HX2 := Lib.hid (HX1.out.below (by simp) hb)
    clear hb
    go_wp2_with fail
    go_ret
    exact ⟨rfl, HB2.out⟩
  | false =>
    have HBG := Lib.hid (short_big hLG)
    have HSF := Lib.hid (short_fits hLG)
    clear hLG
    by_cases hbl : 6000 < b.length
    · have t6 : (6000 : Int) < b.length := by omega
      clear hbl
      go_enter Tryz.func6, Tryz.ntmps6
      go_wp2_with fail
      refine (HKN.out).mono ?_; rintro e w1 ⟨rfl, hb⟩
      have HB1 := Lib.hid (HB0.out.trans (hb.mono HB0.out.size))
      have HX1 := Lib.hid (HX0.out.below (by simp) hb)
      clear hb
      obtain ⟨c0, c1, c2, c3⟩ := HX1.out.four
      go_wp2_with fail
      clear c0 c1 c2 c3
      refine (HLH.out _ HB1.out).mono ?_; rintro e w2 ⟨rfl, hb⟩
      have HB2 := Lib.hid (HB1.out.trans (hb.mono HB1.out.size))
      have HX2 := Lib.hid (HX1.out.below (by simp) hb)
      clear hb
      go_wp2_with fail
      go_ret
      exact ⟨rfl, HB2.out⟩
    · have t6 : ¬ ((6000 : Int) < b.length) := by omega
      have HBL := Lib.hid (show b.length ≤ 6000 by omega)
      have HWR := Lib.hid (fun (wx : World) (hb : Below w.heap.size w wx) => write_any (HHv.out wx hb) (Nat.le_refl _) HBG.out)
      have HCK := Lib.hid (fun (wx : World) (hb : Below w.heap.size w wx) => check_any (HHv.out wx hb) (Nat.le_refl _) HBG.out)
      have HPB := Lib.hid (fun (wx : World) (hb : Below w.heap.size w wx) => parse_any b (HSL.out wx hb) (HEL.out wx hb) (by have := HBL.out; omega))
      have HPW := Lib.hid (fun h => par_wr (h := ⟨m, t, v, l⟩) h)
      have HMA := Lib.hid (fun h => mayH_all (h := ⟨m, t, v, l⟩) h)
      have HPO := Lib.hid (fun h => par_ok (b := b) h)
      have HPF := Lib.hid (fun h => par_fail b h)
      have HPM := Lib.hid (fun h => par_may (b := b) h)
      have HPG := Lib.hid (fun h => parsed_big (b := b) h)
      unfold WrPost chkH at HWR
      unfold chkH at HCK
      unfold HedPost at HPB
      obtain ⟨MH, hMH⟩ : ∃ B, mayH ⟨m, t, v, l⟩ = B := ⟨_, rfl⟩
      simp only [hMH] at HWR HCK HPW HMA
      obtain ⟨X, hX⟩ : ∃ X, parH b = X := ⟨_, rfl⟩
      simp only [hX] at HPB
      rw [hX] at HPO HPF HPM HPG
      obtain ⟨z, zs⟩ := X
      clear hbl hMH hX
      cases MH with
      | false =>
        have HWR2 : Hid (∀ (wx : World), Below w.heap.size w wx → Calls Tryz.prog 12 #[.agg #[.string (bs m), .string (bs t), .int .i64 v, .slice a l.length c]] wx fun e w' => ∃ x, e = .returned (.tuple #[x, .int .i64 2]) ∧ OwnB w' wx.heap.size x [] ∧ Below wx.heap.size wx w') := HWR
        have HCK2 : Hid (∀ (wx : World), Below w.heap.size w wx → Calls Tryz.prog 15 #[.agg #[.string (bs m), .string (bs t), .int .i64 v, .slice a l.length c]] wx (Tells wx (.int .i64 2))) := HCK
        clear HPW HMA HWR HCK
        go_enter Tryz.func6, Tryz.ntmps6
        go_wp2_with fail
        refine (HKN.out).mono ?_; rintro e w1 ⟨rfl, hb⟩
        have HB1 := Lib.hid (HB0.out.trans (hb.mono HB0.out.size))
        have HX1 := Lib.hid (HX0.out.below (by simp) hb)
        clear hb
        obtain ⟨c0, c1, c2, c3⟩ := HX1.out.four
        go_wp2_with fail
        clear c0 c1 c2 c3
        refine (HLH.out _ HB1.out).mono ?_; rintro e w2 ⟨rfl, hb⟩
        have HB2 := Lib.hid (HB1.out.trans (hb.mono HB1.out.size))
        have HX2 := Lib.hid (HX1.out.below (by simp) hb)
        clear hb
        obtain ⟨c0, c1, c2, c3⟩ := HX2.out.four
        go_wp2_with fail
        clear c0 c1 c2 c3
        refine (HWR2.out _ HB2.out).mono ?_; rintro e w3 ⟨x, rfl, hox, hb⟩
        have HB3 := Lib.hid (HB2.out.trans (hb.mono HB2.out.size))
        have HX3 := Lib.hid (HX2.out.below (by simp) hb)
        have HOX3 := Lib.hid hox
        obtain ⟨ax, kx, rfl⟩ := OwnB.shape hox
        clear hb hox
        obtain ⟨c0, c1, c2, c3⟩ := HX3.out.four
        go_wp2_with fail
        clear c0 c1 c2 c3
        refine (HCK2.out _ HB3.out).mono ?_; rintro e w4 ⟨rfl, hb⟩
        have HB4 := Lib.hid (HB3.out.trans (hb.mono HB3.out.size))
        have HX4 := Lib.hid (HX3.out.below (by simp) hb)
        have HOX4 := Lib.hid (HOX3.out.below hb)
        clear hb HOX3
        go_wp2_with fail
        by_cases hzs : zs = 200
        · subst hzs
          obtain ⟨q1, q2, q3, q4, q5, q6, q7, q8⟩ := HPO.out rfl
          have hpm := HPM.out rfl
          have HPGz := Lib.hid (HPG.out rfl)
          have HQ7 := Lib.hid (And.intro q7 q8)
          have n4 : ¬ ((32 : Int) < z.fs.length) := by omega
          have n5 : ¬ (z.v < 0) := by rcases q3 with h | h <;> omega
          have n6 : ¬ (1 < z.v) := by rcases q3 with h | h <;> omega
          have HFZ := Lib.hid (show z.fs.length ≤ 1000000 by omega)
          have HWZ := Lib.hid (fun (wx : World) (Bx : Nat) (az : Option Addr) (kz : Nat) (ho : OwnF wx Bx (.slice az z.fs.length kz) z.fs) => write_any (w := wx) (h := z) ⟨_, rfl, ho.sf HFZ.out⟩ (Nat.le_refl _) HPGz.out)
          have HPWz := Lib.hid (fun h => par_wr (h := z) h)
          unfold WrPost chkH at HWZ
          obtain ⟨MZ, hMZ⟩ : ∃ B, mayH z = B := ⟨_, rfl⟩
          simp only [hMZ] at HWZ HPWz
          rw [hMZ] at hpm
          have HPMz := Lib.hid hpm
          clear hMZ q1 q2 q3 q4 q5 q6 q7 q8 hpm HPO HPF HPM HPG
          cases MZ with
          | false =>
            have t9 : (4032 : Int) < b.length := by
              have h5 := HPMz.out
              have h6 := HQ7.out.1
              have h7 : ¬ (wrH z).length ≤ 4096 := by simpa using h5.symm
              omega
            refine (HPB.out _ HB4.out).mono ?_; rintro e w5 ⟨zv, rfl, hoz0, hb⟩
            obtain ⟨az, kz, rfl, hoz⟩ := Ho.agg hoz0
            have hal : Below w5.heap.size w5 (w5.alloc (.cells #[.string (bs z.m), .string (bs z.t), .int .i64 z.v, .slice az z.fs.length kz] 24)) := (Below.refl _ _).alloc (Nat.le_refl _) _
            have hyy := cel_new4 w5 (.string (bs z.m)) (.string (bs z.t)) (.int .i64 z.v) (.slice az z.fs.length kz) 24
            have HOZ := Lib.hid (hoz.below hal)
            have HBz := Lib.hid (HB4.out.trans ((bel_call hb hal).mono HB4.out.size))
            have hzz : OwnF w5 w4.heap.size (.slice az z.fs.length kz) z.fs := hoz
            clear hb hoz hoz0 hal
            obtain ⟨d0, d1, d2, d3⟩ := hyy.four
            go_wp2_with fail
            obtain ⟨Wz, hWz⟩ : ∃ W, w5.alloc (.cells #[.string (bs z.m), .string (bs z.t), .int .i64 z.v, .slice az z.fs.length kz] 24) = W := ⟨_, rfl⟩
            rw [hWz] at HOZ HBz ⊢
            refine (HWZ.out _ _ _ _ HOZ.out).mono ?_; rintro e w6 ⟨y, rfl, hoy, hb⟩
            obtain ⟨ay, ky, rfl⟩ := OwnB.shape hoy
            have HB6 := Lib.hid (HBz.out.trans (hb.mono HBz.out.size))
            clear hb hoy d0 d1 d2 d3 hyy hWz
            go_wp2_with fail
            go_ret
            exact ⟨rfl, HB6.out⟩
          | true =>
            refine (HPB.out _ HB4.out).mono ?_; rintro e w5 ⟨zv, rfl, hoz0, hb⟩
            obtain ⟨az, kz, rfl, hoz⟩ := Ho.agg hoz0
            have hal : Below w5.heap.size w5 (w5.alloc (.cells #[.string (bs z.m), .string (bs z.t), .int .i64 z.v, .slice az z.fs.length kz] 24)) := (Below.refl _ _).alloc (Nat.le_refl _) _
            have hyy := cel_new4 w5 (.string (bs z.m)) (.string (bs z.t)) (.int .i64 z.v) (.slice az z.fs.length kz) 24
            have HOZ := Lib.hid (hoz.below hal)
            have HBz := Lib.hid (HB4.out.trans ((bel_call hb hal).mono HB4.out.size))
            have hzz : OwnF w5 w4.heap.size (.slice az z.fs.length kz) z.fs := hoz
            clear hb hoz hoz0 hal
            obtain ⟨d0, d1, d2, d3⟩ := hyy.four
            go_wp2_with fail
            have HYZ := Lib.hid hyy
            obtain ⟨Wz, hWz⟩ : ∃ W, w5.alloc (.cells #[.string (bs z.m), .string (bs z.t), .int .i64 z.v, .slice az z.fs.length kz] 24) = W := ⟨_, rfl⟩
            rw [hWz] at HOZ HBz HYZ ⊢
            obtain ⟨qz, hqz⟩ : ∃ q, w5.heap.size = q := ⟨_, rfl⟩
            rw [hqz] at HYZ
            refine (HWZ.out _ _ _ _ HOZ.out).mono ?_; rintro e w6 ⟨y, rfl, hoy, hb⟩
            have HOY := Lib.hid (show OwnB w6 Wz.heap.size y (wrH z) from hoy)
            obtain ⟨ay, ky, rfl⟩ := OwnB.shape HOY.out
            have HB6 := Lib.hid (HBz.out.trans (hb.mono HBz.out.size))
            have HYZ1 := Lib.hid (HYZ.out.below (by simp) hb)
            have HOZ1 := Lib.hid (HOZ.out.below hb)
            have HPY := Lib.hid (parse_any (w := w6) (wrH z) ((HOY.out.sl).wide (Nat.zero_le _) (Nat.le_refl _)) (HEL.out _ HB6.out) (by have := HQ7.out; omega))
            have hpw := HPWz.out trivial
            unfold HedPost at HPY
            rw [hpw] at HPY
            obtain ⟨Y, hY⟩ : ∃ Y, wrH z = Y := ⟨_, rfl⟩
            rw [hY] at HPY ⊢
            clear hb hoy d0 d1 d2 d3 hyy hWz hpw hY
            go_wp2_with fail
            refine (HPY.out).mono ?_; rintro e w7 ⟨uv, rfl, hou0, hb⟩
            obtain ⟨au, ku, rfl, hou⟩ := Ho.agg hou0
            have HB7 := Lib.hid (HB6.out.trans (hb.mono HB6.out.size))
            have hal : Below w7.heap.size w7 (w7.alloc (.cells #[.string (bs z.m), .string (bs z.t), .int .i64 z.v, .slice au z.fs.length ku] 24)) := (Below.refl _ _).alloc (Nat.le_refl _) _
            have huu := (cel_new4 w7 (.string (bs z.m)) (.string (bs z.t)) (.int .i64 z.v) (.slice au z.fs.length ku) 24).four
            have hzz2 := ((HYZ1.out.below (by simp) hb).below (by simp) hal).four
            have HB8 := Lib.hid (HB7.out.trans (hal.mono HB7.out.size))
            have HSA := Lib.hid (sameH_yes (h := z) ⟨_, rfl, (hou.below hal).sf HFZ.out⟩ ⟨_, rfl, ((HOZ1.out.below hb).below hal).sf HFZ.out⟩ (Nat.le_refl _) (Nat.le_refl _))
            obtain ⟨c0, c1, c2, c3⟩ := huu
            obtain ⟨d0, d1, d2, d3⟩ := hzz2
            clear hb hou hou0 hal
            go_wp2_with fail
            refine (HSA.out).mono ?_; rintro e w9 ⟨rfl, hb⟩
            have HB9 := Lib.hid (HB8.out.trans (hb.mono HB8.out.size))
            clear hb c0 c1 c2 c3 d0 d1 d2 d3
            go_wp2_with fail
            go_ret
            exact ⟨rfl, HB9.out⟩
        · have hz0 : z = z0 := HPF.out (by simpa using hzs)
          subst hz0
          have t9 : (zs != 200) = true := by rw [bne_iff_ne]; exact hzs
          clear hzs HPO HPF HPM HPG
          refine (HPB.out _ HB4.out).mono ?_; rintro e w5 ⟨zv, rfl, hoz0, hb⟩
          obtain ⟨az, kz, rfl, hoz⟩ := Ho.agg hoz0
          have hal : Below w5.heap.size w5 (w5.alloc (.cells #[.string (bs z0.m), .string (bs z0.t), .int .i64 z0.v, .slice az z0.fs.length kz] 24)) := (Below.refl _ _).alloc (Nat.le_refl _) _
          have hyy := cel_new4 w5 (.string (bs z0.m)) (.string (bs z0.t)) (.int .i64 z0.v) (.slice az z0.fs.length kz) 24
          have HOZ := Lib.hid (hoz.below hal)
          have HBz := Lib.hid (HB4.out.trans ((bel_call hb hal).mono HB4.out.size))
          have HS0 := Lib.hid (sameH_yes (h := z0) ⟨_, rfl, HOZ.out.sf (by simp [z0])⟩ (show Hv (w5.alloc _) (w5.alloc _).heap.size (.agg #[.string ⟨#[]⟩, .string ⟨#[]⟩, .int .i64 0, .slice none 0 0]) z0 from ⟨_, rfl, Lst.nil _ _⟩) (Nat.le_refl _) (Nat.le_refl _))
          clear hb hoz hoz0 hal
          obtain ⟨d0, d1, d2, d3⟩ := hyy.four
          go_wp2_with fail
          refine (HS0.out).mono ?_; rintro e w6 ⟨rfl, hb⟩
          have HB6 := Lib.hid (HBz.out.trans (hb.mono HBz.out.size))
          clear hb d0 d1 d2 d3 hyy
          go_wp2_with fail
          go_ret
          exact ⟨rfl, HB6.out⟩
      | true =>
        have HWR2 : Hid (∀ (wx : World), Below w.heap.size w wx → Calls Tryz.prog 12 #[.agg #[.string (bs m), .string (bs t), .int .i64 v, .slice a l.length c]] wx fun e w' => ∃ x, e = .returned (.tuple #[x, .int .i64 0]) ∧ OwnB w' wx.heap.size x (wrH ⟨m, t, v, l⟩) ∧ Below wx.heap.size wx w') := HWR
        have HCK2 : Hid (∀ (wx : World), Below w.heap.size w wx → Calls Tryz.prog 15 #[.agg #[.string (bs m), .string (bs t), .int .i64 v, .slice a l.length c]] wx (Tells wx (.int .i64 0))) := HCK
        have hpw0 := HPW.out rfl
        have hma0 := HMA.out rfl
        have HLY := Lib.hid hma0.2.2.2.2.2.2
        have hl32 : l.length ≤ 32 := hma0.2.2.2.1
        obtain ⟨Y0, hY0⟩ : ∃ Y, wrH ⟨m, t, v, l⟩ = Y := ⟨_, rfl⟩
        rw [hY0] at hpw0 HLY
        simp only [hY0] at HWR2
        have HPW0 := Lib.hid hpw0
        clear HPW HMA hpw0 hma0 hY0 HWR HCK
        go_enter Tryz.func6, Tryz.ntmps6
        go_wp2_with fail
        refine (HKN.out).mono ?_; rintro e w1 ⟨rfl, hb⟩
        have HB1 := Lib.hid (HB0.out.trans (hb.mono HB0.out.size))
        have HX1 := Lib.hid (HX0.out.below (by simp) hb)
        clear hb
        obtain ⟨c0, c1, c2, c3⟩ := HX1.out.four
        go_wp2_with fail
        clear c0 c1 c2 c3
        refine (HLH.out _ HB1.out).mono ?_; rintro e w2 ⟨rfl, hb⟩
        have HB2 := Lib.hid (HB1.out.trans (hb.mono HB1.out.size))
        have HX2 := Lib.hid (HX1.out.below (by simp) hb)
        clear hb
        obtain ⟨c0, c1, c2, c3⟩ := HX2.out.four
        go_wp2_with fail
        clear c0 c1 c2 c3
        refine (HWR2.out _ HB2.out).mono ?_; rintro e w3 ⟨x, rfl, hox, hb⟩
        have HB3 := Lib.hid (HB2.out.trans (hb.mono HB2.out.size))
        have HX3 := Lib.hid (HX2.out.below (by simp) hb)
        have HOX3 := Lib.hid hox
        obtain ⟨ax, kx, rfl⟩ := OwnB.shape hox
        clear hb hox
        obtain ⟨c0, c1, c2, c3⟩ := HX3.out.four
        go_wp2_with fail
        clear c0 c1 c2 c3
        refine (HCK2.out _ HB3.out).mono ?_; rintro e w4 ⟨rfl, hb⟩
        have HB4 := Lib.hid (HB3.out.trans (hb.mono HB3.out.size))
        have HX4 := Lib.hid (HX3.out.below (by simp) hb)
        have HOX4 := Lib.hid (HOX3.out.below hb)
        clear hb HOX3
        go_wp2_with fail
        have HPX := Lib.hid (parse_any (w := w4) Y0 ((HOX4.out.sl).wide (Nat.zero_le _) (Nat.le_refl _)) (HEL.out _ HB4.out) (by have := HLY.out; omega))
        unfold HedPost at HPX
        rw [HPW0.out] at HPX
        refine (HPX.out).mono ?_; rintro e w5 ⟨yv, rfl, hoy0, hb⟩
        obtain ⟨ay, ky, hyv, hoy⟩ := Ho.agg hoy0
        have hyv : yv = .agg #[.string (bs m), .string (bs t), .int .i64 v, .slice ay l.length ky] := hyv
        subst hyv
        have hoy2 : OwnF w5 w4.heap.size (.slice ay l.length ky) l := hoy
        have hal : Below w5.heap.size w5 (w5.alloc (.cells #[.string (bs m), .string (bs t), .int .i64 v, .slice ay l.length ky] 24)) := (Below.refl _ _).alloc (Nat.le_refl _) _
        have hyy := (cel_new4 w5 (.string (bs m)) (.string (bs t)) (.int .i64 v) (.slice ay l.length ky) 24).four
        have hbb := HB4.out.trans ((bel_call hb hal).mono HB4.out.size)
        have hxx := ((HX4.out.below (by simp) hb).below (by simp) hal)
        have HSA := Lib.hid (sameH_yes (h := ⟨m, t, v, l⟩) ⟨_, rfl, (hoy2.below hal).sf (by omega)⟩ (HHv.out _ hbb) (Nat.le_refl _) (Nat.le_refl _))
        have HBy := Lib.hid hbb
        have HXy := Lib.hid hxx
        obtain ⟨c0, c1, c2, c3⟩ := hxx.four
        obtain ⟨d0, d1, d2, d3⟩ := hyy
        have t7 : ¬ ((4096 : Int) < Y0.length) := by have := HLY.out; omega
        clear hb hoy hoy2 hoy0 hal hbb hxx
        go_wp2_with fail
        refine (HSA.out).mono ?_; rintro e w6 ⟨rfl, hb⟩
        have HB6 := Lib.hid (HBy.out.trans (hb.mono HBy.out.size))
        clear hb c0 c1 c2 c3 d0 d1 d2 d3
        go_wp2_with fail
        by_cases hzs : zs = 200
        · subst hzs
          obtain ⟨q1, q2, q3, q4, q5, q6, q7, q8⟩ := HPO.out rfl
          have hpm := HPM.out rfl
          have HPGz := Lib.hid (HPG.out rfl)
          have HQ7 := Lib.hid (And.intro q7 q8)
          have n4 : ¬ ((32 : Int) < z.fs.length) := by omega
          have n5 : ¬ (z.v < 0) := by rcases q3 with h | h <;> omega
          have n6 : ¬ (1 < z.v) := by rcases q3 with h | h <;> omega
          have HFZ := Lib.hid (show z.fs.length ≤ 1000000 by omega)
          have HWZ := Lib.hid (fun (wx : World) (Bx : Nat) (az : Option Addr) (kz : Nat) (ho : OwnF wx Bx (.slice az z.fs.length kz) z.fs) => write_any (w := wx) (h := z) ⟨_, rfl, ho.sf HFZ.out⟩ (Nat.le_refl _) HPGz.out)
          have HPWz := Lib.hid (fun h => par_wr (h := z) h)
          unfold WrPost chkH at HWZ
          obtain ⟨MZ, hMZ⟩ : ∃ B, mayH z = B := ⟨_, rfl⟩
          simp only [hMZ] at HWZ HPWz
          rw [hMZ] at hpm
          have HPMz := Lib.hid hpm
          clear hMZ q1 q2 q3 q4 q5 q6 q7 q8 hpm HPO HPF HPM HPG
          cases MZ with
          | false =>
            have t9 : (4032 : Int) < b.length := by
              have h5 := HPMz.out
              have h6 := HQ7.out.1
              have h7 : ¬ (wrH z).length ≤ 4096 := by simpa using h5.symm
              omega
            refine (HPB.out _ HB6.out).mono ?_; rintro e w7 ⟨zv, rfl, hoz0, hb⟩
            obtain ⟨az, kz, rfl, hoz⟩ := Ho.agg hoz0
            have hal : Below w7.heap.size w7 (w7.alloc (.cells #[.string (bs z.m), .string (bs z.t), .int .i64 z.v, .slice az z.fs.length kz] 24)) := (Below.refl _ _).alloc (Nat.le_refl _) _
            have hyy := cel_new4 w7 (.string (bs z.m)) (.string (bs z.t)) (.int .i64 z.v) (.slice az z.fs.length kz) 24
            have HOZ := Lib.hid (hoz.below hal)
            have HBz := Lib.hid (HB6.out.trans ((bel_call hb hal).mono HB6.out.size))
            have hzz : OwnF w7 w6.heap.size (.slice az z.fs.length kz) z.fs := hoz
            clear hb hoz hoz0 hal
            obtain ⟨d0, d1, d2, d3⟩ := hyy.four
            go_wp2_with fail
            obtain ⟨Wz, hWz⟩ : ∃ W, w7.alloc (.cells #[.string (bs z.m), .string (bs z.t), .int .i64 z.v, .slice az z.fs.length kz] 24) = W := ⟨_, rfl⟩
            rw [hWz] at HOZ HBz ⊢
            refine (HWZ.out _ _ _ _ HOZ.out).mono ?_; rintro e w8 ⟨y, rfl, hoy, hb⟩
            obtain ⟨ay, ky, rfl⟩ := OwnB.shape hoy
            have HB8 := Lib.hid (HBz.out.trans (hb.mono HBz.out.size))
            clear hb hoy d0 d1 d2 d3 hyy hWz
            go_wp2_with fail
            go_ret
            exact ⟨rfl, HB8.out⟩
          | true =>
            refine (HPB.out _ HB6.out).mono ?_; rintro e w7 ⟨zv, rfl, hoz0, hb⟩
            obtain ⟨az, kz, rfl, hoz⟩ := Ho.agg hoz0
            have hal : Below w7.heap.size w7 (w7.alloc (.cells #[.string (bs z.m), .string (bs z.t), .int .i64 z.v, .slice az z.fs.length kz] 24)) := (Below.refl _ _).alloc (Nat.le_refl _) _
            have hyy := cel_new4 w7 (.string (bs z.m)) (.string (bs z.t)) (.int .i64 z.v) (.slice az z.fs.length kz) 24
            have HOZ := Lib.hid (hoz.below hal)
            have HBz := Lib.hid (HB6.out.trans ((bel_call hb hal).mono HB6.out.size))
            have hzz : OwnF w7 w6.heap.size (.slice az z.fs.length kz) z.fs := hoz
            clear hb hoz hoz0 hal
            obtain ⟨d0, d1, d2, d3⟩ := hyy.four
            go_wp2_with fail
            have HYZ := Lib.hid hyy
            obtain ⟨Wz, hWz⟩ : ∃ W, w7.alloc (.cells #[.string (bs z.m), .string (bs z.t), .int .i64 z.v, .slice az z.fs.length kz] 24) = W := ⟨_, rfl⟩
            rw [hWz] at HOZ HBz HYZ ⊢
            obtain ⟨qz, hqz⟩ : ∃ q, w7.heap.size = q := ⟨_, rfl⟩
            rw [hqz] at HYZ
            refine (HWZ.out _ _ _ _ HOZ.out).mono ?_; rintro e w8 ⟨y, rfl, hoy, hb⟩
            have HOY := Lib.hid (show OwnB w8 Wz.heap.size y (wrH z) from hoy)
            obtain ⟨ay, ky, rfl⟩ := OwnB.shape HOY.out
            have HB8 := Lib.hid (HBz.out.trans (hb.mono HBz.out.size))
            have HYZ1 := Lib.hid (HYZ.out.below (by simp) hb)
            have HOZ1 := Lib.hid (HOZ.out.below hb)
            have HPY := Lib.hid (parse_any (w := w8) (wrH z) ((HOY.out.sl).wide (Nat.zero_le _) (Nat.le_refl _)) (HEL.out _ HB8.out) (by have := HQ7.out; omega))
            have hpw := HPWz.out trivial
            unfold HedPost at HPY
            rw [hpw] at HPY
            obtain ⟨Y, hY⟩ : ∃ Y, wrH z = Y := ⟨_, rfl⟩
            rw [hY] at HPY ⊢
            clear hb hoy d0 d1 d2 d3 hyy hWz hpw hY
            go_wp2_with fail
            refine (HPY.out).mono ?_; rintro e w9 ⟨uv, rfl, hou0, hb⟩
            obtain ⟨au, ku, rfl, hou⟩ := Ho.agg hou0
            have HB9 := Lib.hid (HB8.out.trans (hb.mono HB8.out.size))
            have hal : Below w9.heap.size w9 (w9.alloc (.cells #[.string (bs z.m), .string (bs z.t), .int .i64 z.v, .slice au z.fs.length ku] 24)) := (Below.refl _ _).alloc (Nat.le_refl _) _
            have huu := (cel_new4 w9 (.string (bs z.m)) (.string (bs z.t)) (.int .i64 z.v) (.slice au z.fs.length ku) 24).four
            have hzz2 := ((HYZ1.out.below (by simp) hb).below (by simp) hal).four
            have HB10 := Lib.hid (HB9.out.trans (hal.mono HB9.out.size))
            have HSA := Lib.hid (sameH_yes (h := z) ⟨_, rfl, (hou.below hal).sf HFZ.out⟩ ⟨_, rfl, ((HOZ1.out.below hb).below hal).sf HFZ.out⟩ (Nat.le_refl _) (Nat.le_refl _))
            obtain ⟨c0, c1, c2, c3⟩ := huu
            obtain ⟨d0, d1, d2, d3⟩ := hzz2
            clear hb hou hou0 hal
            go_wp2_with fail
            refine (HSA.out).mono ?_; rintro e w11 ⟨rfl, hb⟩
            have HB11 := Lib.hid (HB10.out.trans (hb.mono HB10.out.size))
            clear hb c0 c1 c2 c3 d0 d1 d2 d3
            go_wp2_with fail
            go_ret
            exact ⟨rfl, HB11.out⟩
        · have hz0 : z = z0 := HPF.out (by simpa using hzs)
          subst hz0
          have t9 : (zs != 200) = true := by rw [bne_iff_ne]; exact hzs
          clear hzs HPO HPF HPM HPG
          refine (HPB.out _ HB6.out).mono ?_; rintro e w7 ⟨zv, rfl, hoz0, hb⟩
          obtain ⟨az, kz, rfl, hoz⟩ := Ho.agg hoz0
          have hal : Below w7.heap.size w7 (w7.alloc (.cells #[.string (bs z0.m), .string (bs z0.t), .int .i64 z0.v, .slice az z0.fs.length kz] 24)) := (Below.refl _ _).alloc (Nat.le_refl _) _
          have hyy := cel_new4 w7 (.string (bs z0.m)) (.string (bs z0.t)) (.int .i64 z0.v) (.slice az z0.fs.length kz) 24
          have HOZ := Lib.hid (hoz.below hal)
          have HBz := Lib.hid (HB6.out.trans ((bel_call hb hal).mono HB6.out.size))
          have HS0 := Lib.hid (sameH_yes (h := z0) ⟨_, rfl, HOZ.out.sf (by simp [z0])⟩ (show Hv (w7.alloc _) (w7.alloc _).heap.size (.agg #[.string ⟨#[]⟩, .string ⟨#[]⟩, .int .i64 0, .slice none 0 0]) z0 from ⟨_, rfl, Lst.nil _ _⟩) (Nat.le_refl _) (Nat.le_refl _))
          clear hb hoz hoz0 hal
          obtain ⟨d0, d1, d2, d3⟩ := hyy.four
          go_wp2_with fail
          refine (HS0.out).mono ?_; rintro e w8 ⟨rfl, hb⟩
          have HB8 := Lib.hid (HBz.out.trans (hb.mono HBz.out.size))
          clear hb d0 d1 d2 d3 hyy
          go_wp2_with fail
          go_ret
          exact ⟨rfl, HB8.out⟩
end Go.Proofs.YtknfgcmidpgifaaGreatDoor

/-
  Pick: a number from 0 on, below n.
-/
namespace Go.Proofs.YtknfgcmidpgifaaGreatDoor
open Go.RowKit
set_option linter.unusedVariables false
set_option maxRecDepth 100000

set_option maxHeartbeats 400000 in
theorem pick_any (x n : Int) (w : World) (h1 : 1 ≤ n) (h2 : n ≤ 100000) : Calls Tryz.prog 63 #[.int .i64 x, .int .i64 n] w fun e w' => ∃ k : Nat, k < n ∧ e = .returned (.int .i64 k) ∧ w = w' := by
  go_enter Tryz.func63, Tryz.ntmps63
  go_wp2
  · go_ret
    refine ⟨(wrap64 (x.tmod n + n)).toNat, ?_, ?_, rfl⟩
    all_goals
      have h3 : -n < x.tmod n := by
        have := Int.tmod_lt_of_pos (-x) (b := n) (by omega)
        rw [Int.neg_tmod] at this
        omega
      have e : wrap64 (x.tmod n + n) = x.tmod n + n := IntWalk.wrap64_in _ ⟨by omega, by omega⟩
      rw [e]
    · omega
    · rw [Int.toNat_of_nonneg (by omega)]; rfl
  · go_ret
    have := Int.tmod_lt_of_pos x (b := n) (by omega)
    refine ⟨(x.tmod n).toNat, by omega, ?_, rfl⟩
    rw [Int.toNat_of_nonneg (by omega)]; rfl
end Go.Proofs.YtknfgcmidpgifaaGreatDoor
