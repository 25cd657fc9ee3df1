/-
  With which fewest entries left out a message fits; what the search asks has one turn.
-/
import Derived.Test.YteegekpanadmkaaGreatV12
import Derived.Test.YteegekpanadmkaaGreatV06
namespace Go.Proofs.YteegekpanadmkaaGreat
open Go.RowKit Go.Shelf
set_option linter.unusedVariables false
set_option linter.unusedSimpArgs false
set_option maxRecDepth 100000

def lstN (p : Nat → Bool) : Nat → Nat → Nat
  | 0, n => n
  | k + 1, n => if p n = true then n else lstN p k (n + 1)
theorem lstN_facts (p : Nat → Bool) : ∀ (k n : Nat), p (n + k) = true → p (lstN p k n) = true ∧ n ≤ lstN p k n ∧ lstN p k n ≤ n + k ∧ ∀ t, n ≤ t → t < lstN p k n → p t = false
  | 0, n, h => ⟨h, Nat.le_refl _, Nat.le_refl _, fun t h1 h2 => by simp only [lstN] at h2; omega⟩
  | k + 1, n, h => by
    rw [lstN]
    by_cases hp : p n = true
    · rw [if_pos hp]
      exact ⟨hp, Nat.le_refl _, by omega, fun t h1 h2 => by omega⟩
    · rw [if_neg hp]
      obtain ⟨a, b, c, d⟩ := lstN_facts p k (n + 1) (by rw [show n + 1 + k = n + (k + 1) by omega]; exact h)
      refine ⟨a, by omega, by omega, fun t h1 h2 => ?_⟩
      by_cases e : t = n
      · subst e; simpa using hp
      · exact d t (by omega) h2
/-! ### parts of a message that is cut -/

theorem cut_sub (m : Ms) (n : Nat) : (∀ x ∈ (mcut m n).q, x ∈ m.q) ∧ (∀ x ∈ (mcut m n).an, x ∈ m.an) ∧ (∀ x ∈ (mcut m n).ns, x ∈ m.ns) ∧ ∀ x ∈ (mcut m n).ar, x ∈ m.ar :=
  ⟨fun x h => List.mem_of_mem_take h, fun x h => List.mem_of_mem_take h, fun x h => List.mem_of_mem_take h, fun x h => lop_mem _ _ _ (List.mem_of_mem_take h)⟩
theorem lop_len (p : Rc → Bool) (k : Nat) : ∀ (l : List Rc), (lop p k l).length ≤ l.length
  | [] => Nat.le_refl _
  | x :: l => by
    rw [lop_cons]
    have := lop_len p k l
    split
    · simp; omega
    · simp; omega
theorem cut_tot (m : Ms) (n : Nat) : totM (mcut m n) ≤ totM m := by
  unfold totM
  have := lop_len nO n m.ar
  have e1 : (mcut m n).q.length ≤ m.q.length := by show (m.q.take _).length ≤ _; rw [List.length_take]; omega
  have e2 : (mcut m n).an.length ≤ m.an.length := by show (m.an.take _).length ≤ _; rw [List.length_take]; omega
  have e3 : (mcut m n).ns.length ≤ m.ns.length := by show (m.ns.take _).length ≤ _; rw [List.length_take]; omega
  have e4 : (mcut m n).ar.length ≤ m.ar.length := by show ((lop nO n m.ar).take _).length ≤ _; rw [List.length_take]; omega
  omega
theorem cut_fine {m : Ms} (h : m.Fine) (n : Nat) : (mcut m n).Fine := by
  obtain ⟨a, b, c, d⟩ := cut_sub m n
  exact ⟨fun x hx => h.q x (a x hx), fun x hx => h.an x (b x hx), fun x hx => h.ns x (c x hx), fun x hx => h.ar x (d x hx)⟩
theorem br_mem : ∀ (l : List Rc) {x : Rc}, x ∈ brL l → (x ∈ l) ∨ ∃ y ∈ l, isO y = true ∧ x = rt y
  | [], x, h => by simp [brL] at h
  | y :: l, x, h => by
    rw [brL] at h
    split at h
    · rename_i ha
      obtain ⟨z, hz, rfl⟩ := List.mem_map.mp h
      exact .inr ⟨z, hz, List.all_eq_true.mp ha z hz, rfl⟩
    · rcases List.mem_cons.mp h with rfl | h
      · exact .inl (by simp)
      · rcases br_mem l h with h | ⟨z, hz, h1, h2⟩
        · exact .inl (by simp [h])
        · exact .inr ⟨z, by simp [hz], h1, h2⟩
theorem br_len : ∀ (l : List Rc), (brL l).length = l.length
  | [] => rfl
  | y :: l => by
    rw [brL]
    split
    · simp
    · rw [List.length_cons, List.length_cons, br_len l]
theorem br_fine {m : Ms} (h : m.Fine) : (brM m).Fine :=
  ⟨h.q, h.an, h.ns, fun x hx => by
    rcases br_mem m.ar hx with h1 | ⟨y, h1, _, rfl⟩
    · exact h.ar x h1
    · exact ⟨by show [(0 : UInt8)].length ≤ _; simp, (h.ar y h1).2⟩⟩
theorem br_tot (m : Ms) : totM (brM m) = totM m := by unfold totM brM; simp only [br_len]
theorem fst0_map0 {l : List It} (h : ∀ it ∈ l, it.err = 0) : fst0 (l.map It.err) = 0 := fst0_all fun e he => by obtain ⟨it, hit, rfl⟩ := List.mem_map.mp he; exact h it hit
theorem its_mem (m : Ms) (it : It) : it ∈ m.its ↔ (∃ x ∈ m.q, it = .q x) ∨ (∃ x ∈ m.an, it = .r x) ∨ (∃ x ∈ m.ns, it = .r x) ∨ ∃ x ∈ m.ar, it = .r x := by
  unfold Ms.its
  simp only [List.mem_append, List.mem_map]
  constructor
  · rintro (⟨x, h, rfl⟩ | ⟨x, h, rfl⟩ | ⟨x, h, rfl⟩ | ⟨x, h, rfl⟩)
    · exact .inl ⟨x, h, rfl⟩
    · exact .inr (.inl ⟨x, h, rfl⟩)
    · exact .inr (.inr (.inl ⟨x, h, rfl⟩))
    · exact .inr (.inr (.inr ⟨x, h, rfl⟩))
  · rintro (⟨x, h, rfl⟩ | ⟨x, h, rfl⟩ | ⟨x, h, rfl⟩ | ⟨x, h, rfl⟩)
    · exact .inl ⟨x, h, rfl⟩
    · exact .inr (.inl ⟨x, h, rfl⟩)
    · exact .inr (.inr (.inl ⟨x, h, rfl⟩))
    · exact .inr (.inr (.inr ⟨x, h, rfl⟩))
theorem chk_of {m c : Ms} (h : chkM m = 0) (hid : c.id = m.id) (hfl : 0 ≤ c.fl ∧ c.fl ≤ 65535) (hq : c.q.length ≤ m.q.length) (ha : c.an.length ≤ m.an.length) (hn : c.ns.length ≤ m.ns.length) (hr : c.ar.length ≤ m.ar.length) (hi : ∀ it ∈ c.its, it.err = 0) : chkM c = 0 := by
  obtain ⟨h1, h2, h3, h4, h5, h6, h7, h8, _⟩ := chkM_ok h
  unfold chkM
  rw [if_neg (by omega), if_neg (by omega), fst0_map0 hi]
theorem cut_chk {m : Ms} (h : chkM m = 0) (n : Nat) : chkM (mcut m n) = 0 := by
  obtain ⟨h1, h2, h3, h4, h5, h6, h7, h8, h9⟩ := chkM_ok h
  obtain ⟨a, b, c, d⟩ := cut_sub m n
  have hl := lop_len nO n m.ar
  refine chk_of h rfl ?_ ?_ ?_ ?_ ?_ ?_
  · show 0 ≤ (if _ then tcG m.fl else m.fl) ∧ (if _ then tcG m.fl else m.fl) ≤ 65535
    have := tcG_nat h3 h4
    split <;> omega
  · show (m.q.take _).length ≤ _; rw [List.length_take]; omega
  · show (m.an.take _).length ≤ _; rw [List.length_take]; omega
  · show (m.ns.take _).length ≤ _; rw [List.length_take]; omega
  · show ((lop nO n m.ar).take _).length ≤ _; rw [List.length_take]; omega
  · intro it hit
    apply h9
    rw [its_mem] at hit ⊢
    rcases hit with ⟨x, hx, rfl⟩ | ⟨x, hx, rfl⟩ | ⟨x, hx, rfl⟩ | ⟨x, hx, rfl⟩
    · exact .inl ⟨x, a x hx, rfl⟩
    · exact .inr (.inl ⟨x, b x hx, rfl⟩)
    · exact .inr (.inr (.inl ⟨x, c x hx, rfl⟩))
    · exact .inr (.inr (.inr ⟨x, d x hx, rfl⟩))
theorem br_chk {m : Ms} (h : chkM m = 0) : chkM (brM m) = 0 := by
  obtain ⟨h1, h2, h3, h4, h5, h6, h7, h8, h9⟩ := chkM_ok h
  refine chk_of h rfl ⟨h3, h4⟩ (Nat.le_refl _) (Nat.le_refl _) (Nat.le_refl _) (Nat.le_of_eq (br_len _)) ?_
  intro it hit
  rw [its_mem] at hit
  rcases hit with ⟨x, hx, rfl⟩ | ⟨x, hx, rfl⟩ | ⟨x, hx, rfl⟩ | ⟨x, hx, rfl⟩
  · exact h9 _ ((its_mem _ _).mpr (.inl ⟨x, hx, rfl⟩))
  · exact h9 _ ((its_mem _ _).mpr (.inr (.inl ⟨x, hx, rfl⟩)))
  · exact h9 _ ((its_mem _ _).mpr (.inr (.inr (.inl ⟨x, hx, rfl⟩))))
  · rcases br_mem m.ar hx with h | ⟨y, hy, _, rfl⟩
    · exact h9 _ ((its_mem _ _).mpr (.inr (.inr (.inr ⟨x, h, rfl⟩))))
    · exact chkC_rt (h9 _ ((its_mem _ _).mpr (.inr (.inr (.inr ⟨y, hy, rfl⟩)))))

/-! ### fitting -/

theorem fitW_iff {m : Ms} (h : chkM m = 0) (size : Int) : fitW m size = true ↔ ∃ r, wrN m.its 12 [] 0 = some r ∧ (r.1 : Int) ≤ size := by
  have hN := wrN_is m.its (headM m) [] 0
  rw [headM_len] at hN
  unfold fitW wrM
  rw [if_neg (by simpa using h)]
  rcases hw : wrIs m.its (headM m) [] 0 with _ | z
  · rw [hw] at hN
    simp only [Option.map_none] at hN
    constructor
    · intro h; simp at h
    · rintro ⟨r, hr, _⟩
      rw [hr] at hN
      simp at hN
  · rw [hw] at hN
    simp only [Option.map_some] at hN
    obtain ⟨r, hr, hr2⟩ := Option.map_eq_some_iff.mp hN.symm
    constructor
    · intro h
      refine ⟨r, hr, ?_⟩
      simp only [decide_true, Bool.true_and, decide_eq_true_eq] at h
      omega
    · rintro ⟨r', h1, h2⟩
      rw [hr] at h1
      injection h1 with h1
      subst h1
      simp only [decide_true, Bool.true_and, decide_eq_true_eq]
      omega
def hdI (m : Ms) (A : List Rc) : List It := m.q.map .q ++ (m.an.map .r ++ (m.ns.map .r ++ A.map .r))
theorem its_hd (m : Ms) {A D : List Rc} (h : m.ar = A ++ D) : m.its = hdI m A ++ D.map .r := by
  unfold Ms.its hdI
  rw [h, List.map_append]
  simp only [List.append_assoc]
theorem brF_iff {m : Ms} (h : chkM m = 0) {A D : List Rc} (hA : m.ar = A ++ D) (hD : D.all isO = true) (hl : ∀ A' x, A = A' ++ [x] → isO x = false) (size : Int) (hs : size ≤ 65535) :
    fitW (brM m) (size - (moL m.ar : Nat)) = true ↔ ∃ r, wrN (hdI m A) 12 [] 0 = some r ∧ (r.1 : Int) + cst D + mors D ≤ size := by
  obtain ⟨_, _, _, _, _, _, _, _, h9⟩ := chkM_ok h
  obtain ⟨b1, b2⟩ := br_parts A D hD hl
  have hDc : ∀ x ∈ D, chkC x = 0 ∧ isO x = true := fun x hx => ⟨h9 (.r x) ((its_mem _ _).mpr (.inr (.inr (.inr ⟨x, by rw [hA]; simp [hx], rfl⟩)))), List.all_eq_true.mp hD x hx⟩
  have hHe : ∀ it ∈ hdI m A, it.err = 0 := fun it hit => h9 it (by rw [its_hd m hA]; simp [hit])
  have hi : (brM m).its = hdI m A ++ (D.map rt).map .r := by
    have := its_hd (brM m) (A := A) (D := D.map rt) (by show brL m.ar = _; rw [hA]; exact b1)
    exact this
  rw [fitW_iff (br_chk h), hi, wrN_app, hA, b2]
  constructor
  · rintro ⟨r, h1, h2⟩
    rcases hw : wrN (hdI m A) 12 [] 0 with _ | r1
    · rw [hw] at h1; simp at h1
    · rw [hw] at h1
      obtain ⟨k1, k2, k3⟩ := wrN_reach Rch.start (by omega) hHe hw
      have := (opt_just (T := D) k1 k3 hDc).1 r h1
      exact ⟨r1, rfl, by omega⟩
  · rintro ⟨r1, hw, h2⟩
    obtain ⟨k1, k2, k3⟩ := wrN_reach Rch.start (by omega) hHe hw
    obtain ⟨j1, j2⟩ := opt_just (T := D) k1 k3 hDc
    obtain ⟨r, hr⟩ := j2 (by omega)
    have := j1 r hr
    exact ⟨r, by rw [hw]; exact hr, by omega⟩
theorem fit_br {m : Ms} (h : chkM m = 0) (size : Int) (hs : size ≤ 65535) (hf : fitW m size = true) : fitW (brM m) (size - (moL m.ar : Nat)) = true := by
  obtain ⟨A, D, hA, hD, hl⟩ := br_split m.ar
  obtain ⟨_, _, _, _, _, _, _, _, h9⟩ := chkM_ok h
  have hDc : ∀ x ∈ D, chkC x = 0 ∧ isO x = true := fun x hx => ⟨h9 (.r x) ((its_mem _ _).mpr (.inr (.inr (.inr ⟨x, by rw [hA]; simp [hx], rfl⟩)))), List.all_eq_true.mp hD x hx⟩
  have hHe : ∀ it ∈ hdI m A, it.err = 0 := fun it hit => h9 it (by rw [its_hd m hA]; simp [hit])
  rw [brF_iff h hA hD hl size hs]
  obtain ⟨r, h1, h2⟩ := (fitW_iff h size).mp hf
  rw [its_hd m hA, wrN_app] at h1
  rcases hw : wrN (hdI m A) 12 [] 0 with _ | r1
  · rw [hw] at h1; simp at h1
  · rw [hw] at h1
    obtain ⟨k1, k2, k3⟩ := wrN_reach Rch.start (by omega) hHe hw
    have := opt_least (T := D) k1 k3 hDc h1
    exact ⟨r1, rfl, by omega⟩
theorem cst_app (a b : List Rc) : cst (a ++ b) = cst a + cst b := by simp [cst]
theorem mors_app (a b : List Rc) : mors (a ++ b) = mors a + mors b := by simp [mors]
theorem wrN_less {H T : List It} {r : Nat × KK × Nat} (he : ∀ it ∈ H ++ T, it.err = 0) (h : wrN (H ++ T) 12 [] 0 = some r) : ∃ r0, wrN H 12 [] 0 = some r0 ∧ Rch r0.1 r0.2.1 r0.2.2 ∧ r0.1 ≤ 65535 ∧ wrN T r0.1 r0.2.1 r0.2.2 = some r ∧ r0.1 ≤ r.1 := by
  rw [wrN_app] at h
  rcases hw : wrN H 12 [] 0 with _ | r0
  · rw [hw] at h; simp at h
  · rw [hw] at h
    obtain ⟨k1, k2, k3⟩ := wrN_reach Rch.start (by omega) (fun it hi => he it (by simp [hi])) hw
    have h : wrN T r0.1 r0.2.1 r0.2.2 = some r := h
    exact ⟨r0, rfl, k1, k3, h, (wrN_reach k1 k3 (fun it hi => he it (by simp [hi])) h).2.1⟩
theorem err_hd {m : Ms} (h : chkM m = 0) {A D : List Rc} (hA : m.ar = A ++ D) : ∀ it ∈ hdI m A, it.err = 0 := fun it hit => (chkM_ok h).2.2.2.2.2.2.2.2 it (by rw [its_hd m hA]; simp [hit])
theorem all_of_nA {m : Ms} (h : ¬ 0 < nA m) : m.ar.all isO = true := by
  have h0 : m.ar.countP nO = 0 := by unfold nA at h; omega
  rw [List.all_eq_true]
  intro x hx
  have := List.countP_eq_zero.mp h0 x hx
  simpa [nO] using this
theorem br_one {c c' : Ms} (h : chkM c = 0) (h' : chkM c' = 0) (size : Int) (hs : size ≤ 65535) (hal : c.ar.all isO = true) (har : c'.ar = c.ar) (it : It) (hh : hdI c [] = hdI c' [] ++ [it]) (hf : fitW (brM c) (size - (moL c.ar : Nat)) = true) : fitW (brM c') (size - (moL c'.ar : Nat)) = true := by
  rw [brF_iff h' (A := []) (D := c.ar) (by rw [har]; rfl) hal (fun A' x e => by simp at e) size hs]
  obtain ⟨r, h1, h2⟩ := (brF_iff h (A := []) (D := c.ar) rfl hal (fun A' x e => by simp at e) size hs).mp hf
  have he := err_hd h (A := []) (D := c.ar) rfl
  rw [hh] at h1 he
  obtain ⟨r0, k1, _, _, _, k5⟩ := wrN_less he h1
  exact ⟨r0, k1, by omega⟩
theorem take_last {α : Type} (l : List α) (h : 0 < l.length) : ∃ x, l = l.take (l.length - 1) ++ [x] := by
  refine ⟨l[l.length - 1], ?_⟩
  have := List.take_succ_eq_append_getElem (l := l) (i := l.length - 1) (by omega)
  rw [show l.length - 1 + 1 = l.length by omega, List.take_length] at this
  exact this
theorem br_step {m : Ms} (h : chkM m = 0) (size : Int) (hs : size ≤ 65535) {n : Nat} (hn : n < totM m) (hf : fitW (brM (mcut m n)) (size - (moL (mcut m n).ar : Nat)) = true) : fitW (brM (mcut m (n + 1))) (size - (moL (mcut m (n + 1)).ar : Nat)) = true := by
  obtain ⟨_, _, f0, f1, _⟩ := chkM_ok h
  have hstep := cut_step m n hn f0 f1
  have hc := cut_chk h n
  have hc' := cut_chk h (n + 1)
  obtain ⟨c, hcc⟩ : ∃ c, mcut m n = c := ⟨_, rfl⟩
  obtain ⟨c', hcc'⟩ : ∃ c, mcut m (n + 1) = c := ⟨_, rfl⟩
  rw [hcc] at hc hf hstep
  rw [hcc'] at hc' hstep ⊢
  have hpos : 0 < totM c := by
    rw [← hcc]
    have hAD := nA_nD m
    unfold totM at hn ⊢
    by_cases c1 : n < nA m
    · have : nA (mcut m n) = nA m - n := by unfold nA; rw [cut_ar_lo m n (by omega), lop_count]
      have := nA_len (mcut m n)
      omega
    · have har := cut_ar_hi m n (by omega)
      have e4 : (mcut m n).ar.length = nD m - (n - (nA m + m.ns.length + m.an.length)) := by rw [har, List.length_take, filt_len]; omega
      have e1 : (mcut m n).q.length = m.q.length - (n - (nA m + m.ns.length + m.an.length + nD m)) := by show (m.q.take _).length = _; rw [List.length_take]; omega
      have e2 : (mcut m n).an.length = m.an.length - (n - (nA m + m.ns.length)) := by show (m.an.take _).length = _; rw [List.length_take]; omega
      have e3 : (mcut m n).ns.length = m.ns.length - (n - nA m) := by show (m.ns.take _).length = _; rw [List.length_take]; omega
      omega
  clear hcc hcc' hn h f0 f1
  unfold stepM lessM at hstep
  by_cases c1 : 0 < nA c
  · rw [if_pos c1] at hstep
    have hstep : c' = { c with ar := lop nO 1 c.ar } := hstep
    obtain ⟨A0, D, hA0, hD, hl⟩ := br_split c.ar
    obtain ⟨A, x, rfl⟩ : ∃ A x, A0 = A ++ [x] := by
      rcases List.eq_nil_or_concat A0 with rfl | ⟨l, y, rfl⟩
      · exfalso
        have : nA c = 0 := by
          unfold nA
          rw [hA0, List.nil_append, List.countP_eq_zero]
          intro y hy
          simp [nO, List.all_eq_true.mp hD y hy]
        omega
      · exact ⟨l, y, by simp⟩
    have hx := hl A x rfl
    have e0 : c.ar = A ++ x :: D := by rw [hA0]; simp
    have elop : lop nO 1 c.ar = A ++ D := by
      rw [e0, lop_at nO (A ++ x :: D) A.length (by simp) (by rw [List.getElem_append_right (Nat.le_refl _)]; simp [nO, hx]) (by
        rw [List.drop_append, List.drop_of_length_le (by omega), List.nil_append, show A.length + 1 - A.length = 1 by omega]
        rw [List.countP_eq_zero]
        intro y hy
        have hy : y ∈ D := by simpa using hy
        simp [nO, List.all_eq_true.mp hD y hy])]
      rw [List.take_left, List.drop_append, List.drop_of_length_le (by omega), List.nil_append, show A.length + 1 - A.length = 1 by omega]
      rfl
    obtain ⟨A1, D1, hA1, hD1, hl1⟩ := br_split A
    have har' : c'.ar = A1 ++ (D1 ++ D) := by rw [hstep]; show lop nO 1 c.ar = _; rw [elop, hA1, List.append_assoc]
    have hDD : (D1 ++ D).all isO = true := by rw [List.all_append, hD1, hD]; rfl
    rw [brF_iff hc' har' hDD hl1 size hs]
    obtain ⟨r, k1, k2⟩ := (brF_iff hc hA0 hD hl size hs).mp hf
    have hhd : hdI c (A ++ [x]) = hdI c' A1 ++ (D1.map .r ++ [.r x]) := by
      rw [hstep, hA1]
      unfold hdI
      simp
    have he := err_hd hc hA0
    rw [hhd] at k1 he
    obtain ⟨r0, g1, g2, g3, g4, g5⟩ := wrN_less he k1
    rw [wrN_app] at g4
    rcases hw : wrN (D1.map .r) r0.1 r0.2.1 r0.2.2 with _ | r2
    · rw [hw] at g4; simp at g4
    · rw [hw] at g4
      have hDc : ∀ y ∈ D1, chkC y = 0 ∧ isO y = true := fun y hy => ⟨he (.r y) (by simp [hy]), List.all_eq_true.mp hD1 y hy⟩
      have hmin := opt_least (T := D1) g2 g3 hDc hw
      obtain ⟨q1, q2, q3⟩ := wrN_reach g2 g3 (fun it hi => he it (by simp [hi])) hw
      have g4 : wrN [.r x] r2.1 r2.2.1 r2.2.2 = some r := g4
      have hr := (wrN_reach q1 q3 (fun it hi => he it (by simp [hi])) g4).2.1
      refine ⟨r0, g1, ?_⟩
      rw [cst_app, mors_app]
      omega
  · have hall := all_of_nA c1
    rw [if_neg c1] at hstep
    by_cases c2 : 0 < c.ns.length
    · rw [if_pos c2] at hstep
      have hstep : c' = { c with ns := c.ns.take (c.ns.length - 1), fl := tcG c.fl } := hstep
      obtain ⟨y, hy⟩ := take_last c.ns c2
      refine br_one hc hc' size hs hall (by rw [hstep]) (.r y) ?_ hf
      rw [hstep]
      unfold hdI
      conv => lhs; rw [hy]
      simp
    · have hns : c.ns = [] := List.length_eq_zero_iff.mp (by omega)
      rw [if_neg c2] at hstep
      by_cases c3 : 0 < c.an.length
      · rw [if_pos c3] at hstep
        have hstep : c' = { c with an := c.an.take (c.an.length - 1), fl := tcG c.fl } := hstep
        obtain ⟨y, hy⟩ := take_last c.an c3
        refine br_one hc hc' size hs hall (by rw [hstep]) (.r y) ?_ hf
        rw [hstep]
        unfold hdI
        conv => lhs; rw [hy]
        simp [hns]
      · have han : c.an = [] := List.length_eq_zero_iff.mp (by omega)
        rw [if_neg c3] at hstep
        by_cases c4 : 0 < nD c
        · rw [if_pos c4] at hstep
          have hstep : c' = { c with ar := lop isO 1 c.ar } := hstep
          have hlen : 0 < c.ar.length := by have := List.countP_le_length (p := isO) (l := c.ar); unfold nD at c4; omega
          obtain ⟨y, hy⟩ := take_last c.ar hlen
          have har' : c'.ar = c.ar.take (c.ar.length - 1) := by rw [hstep]; exact lop_full (fun x hx => List.all_eq_true.mp hall x hx)
          have hal' : (c.ar.take (c.ar.length - 1)).all isO = true := by rw [List.all_eq_true]; exact fun x hx => List.all_eq_true.mp hall x (List.mem_of_mem_take hx)
          rw [brF_iff hc' (A := []) (D := c.ar.take (c.ar.length - 1)) (by rw [har']; rfl) hal' (fun A' x e => by simp at e) size hs]
          obtain ⟨r, h1, h2⟩ := (brF_iff hc (A := []) (D := c.ar) rfl hall (fun A' x e => by simp at e) size hs).mp hf
          refine ⟨r, by rw [hstep]; exact h1, ?_⟩
          have e1 : cst c.ar = cst (c.ar.take (c.ar.length - 1)) + cst [y] := by conv => lhs; rw [hy, cst_app]
          have e2 : mors c.ar = mors (c.ar.take (c.ar.length - 1)) + mors [y] := by conv => lhs; rw [hy, mors_app]
          omega
        · rw [if_neg c4] at hstep
          have hstep : c' = { c with q := c.q.take (c.q.length - 1), fl := tcG c.fl } := hstep
          have har : c.ar = [] := by
            apply List.length_eq_zero_iff.mp
            have := nA_nD c
            omega
          have hq : 0 < c.q.length := by unfold totM at hpos; rw [hns, han, har] at hpos; simpa using hpos
          obtain ⟨y, hy⟩ := take_last c.q hq
          refine br_one hc hc' size hs hall (by rw [hstep]) (.q y) ?_ hf
          rw [hstep]
          unfold hdI
          conv => lhs; rw [hy]
          simp [hns, han]
theorem br_mono {m : Ms} (h : chkM m = 0) (size : Int) (hs : size ≤ 65535) {i : Nat} (hf : fitW (brM (mcut m i)) (size - (moL (mcut m i).ar : Nat)) = true) : ∀ d, i + d ≤ totM m → fitW (brM (mcut m (i + d))) (size - (moL (mcut m (i + d)).ar : Nat)) = true
  | 0, _ => hf
  | d + 1, hd => br_step h size hs (n := i + d) (by omega) (br_mono h size hs hf d (by omega))
def fitN (m : Ms) (size : Int) : Nat := lstN (fun n => fitW (mcut m n) size) (totM m) 0
theorem cut_all {m : Ms} : (mcut m (totM m)).q = [] ∧ (mcut m (totM m)).an = [] ∧ (mcut m (totM m)).ns = [] ∧ (mcut m (totM m)).ar = [] := by
  have hAD := nA_nD m
  unfold totM
  refine ⟨?_, ?_, ?_, ?_⟩
  · show m.q.take _ = _; rw [show m.q.length - (m.q.length + m.an.length + m.ns.length + m.ar.length - (nA m + m.ns.length + m.an.length + nD m)) = 0 by omega, List.take_zero]
  · show m.an.take _ = _; rw [show m.an.length - (m.q.length + m.an.length + m.ns.length + m.ar.length - (nA m + m.ns.length)) = 0 by omega, List.take_zero]
  · show m.ns.take _ = _; rw [show m.ns.length - (m.q.length + m.an.length + m.ns.length + m.ar.length - nA m) = 0 by omega, List.take_zero]
  · rw [cut_ar_hi m _ (by omega), filt_len, show nD m - (m.q.length + m.an.length + m.ns.length + m.ar.length - (nA m + m.ns.length + m.an.length)) = 0 by omega, List.take_zero]
theorem fit_last {m : Ms} (h : chkM m = 0) {size : Int} (hs : 12 ≤ size) : fitW (mcut m (totM m)) size = true := by
  rw [fitW_iff (cut_chk h _)]
  obtain ⟨h1, h2, h3, h4⟩ := cut_all (m := m)
  refine ⟨(12, [], 0), ?_, hs⟩
  unfold Ms.its
  rw [h1, h2, h3, h4]
  rfl
theorem fitN_facts {m : Ms} (h : chkM m = 0) {size : Int} (hs : 12 ≤ size) : fitW (mcut m (fitN m size)) size = true ∧ fitN m size ≤ totM m ∧ ∀ t, t < fitN m size → fitW (mcut m t) size = false := by
  obtain ⟨a, b, c, d⟩ := lstN_facts (fun n => fitW (mcut m n) size) (totM m) 0 (by rw [Nat.zero_add]; exact fit_last h hs)
  exact ⟨a, by have := c; unfold fitN; omega, fun t ht => d t (Nat.zero_le _) ht⟩
end Go.Proofs.YteegekpanadmkaaGreat

/-
  A record of the additional ones as an entry; a message's entries laid.
-/
namespace Go.Proofs.YteegekpanadmkaaGreat
open Go.RowKit Go.Shelf
set_option linter.unusedVariables false
set_option linter.unusedSimpArgs false
set_option maxRecDepth 100000

def eV (k : Int) (q : Qn) (x : Rc) : Value := .agg #[.int .i64 k, .string (bs q.n), .int .i64 q.t, .int .i64 q.c, .string (bs x.n), .int .i64 x.t, .int .i64 x.c, .int .i64 x.l, .string (bs x.d), .bool false]

set_option maxHeartbeats 1000000 in
theorem additional_any (w : World) (x : Rc) : Calls Tryz.prog 56 #[.agg #[.string (bs x.n), .int .i64 x.t, .int .i64 x.c, .int .i64 x.l, .string (bs x.d)]] w (Tells w (eV (arK x) q0 x)) := by
  obtain ⟨n, t, c, l, d⟩ := x
  unfold eV q0 arK isO
  simp only
  by_cases h : t = 41
  · subst h
    go_enter Tryz.func56, Tryz.ntmps56
    go_wp2
    refine bodyPost_ret (by simp [results, Tryz.results56, go_sem]; rfl) rfl ⟨rfl, ?_⟩
    exact ((Below.refl _ _).alloc (Nat.le_refl _) _).alloc (by simp) _
  · have h2 : (t == 41) = false := by simpa using h
    rw [show decide (t = 41) = false by simpa using h]
    go_enter Tryz.func56, Tryz.ntmps56
    go_wp2
    refine bodyPost_ret (by simp [results, Tryz.results56, go_sem]; rfl) rfl ⟨rfl, ?_⟩
    exact ((Below.refl _ _).alloc (Nat.le_refl _) _).alloc (by simp) _
end Go.Proofs.YteegekpanadmkaaGreat

/-
  A stretch of a row in order: one by one.
-/
namespace Go.Proofs.YteegekpanadmkaaGreat
open Go.RowKit Go.Shelf
set_option linter.unusedVariables false
set_option linter.unusedSimpArgs false
set_option maxRecDepth 100000

def lessF : Value := .func (.func 59) #[] #[]

theorem Mrg.step {κ : Nat → Int} {U V X : List Nat} {x : Nat} (h : Mrg κ (U ++ V) X) (hu : ∀ y ∈ U, Bef κ y x) (hv : ∀ y ∈ V, Bef κ x y) : Mrg κ (U ++ x :: V) (X ++ [x]) :=
  ⟨(Mrg.put h.2 hu hv).1.trans (List.Perm.append_right _ h.1), (Mrg.put h.2 hu hv).2⟩

set_option maxHeartbeats 1000000 in
theorem insert_any {w : World} {B b g c N M : Nat} {κ : Nat → Int} {P X S : List Nat} (h : Pr w B b g c N (P ++ (X ++ S))) (hN : N ≤ 1000000) (hK : Kn w b M κ) (hX : ∀ x ∈ X, x < M) (hd : Dns X) (hg : ¬ b = g) (a z : Nat) (ha : P.length = a) (hz : a + X.length = z) :
    Calls Tryz.prog 89 #[.slice (some ⟨g, 0, none⟩) N c, .int .i64 a, .int .i64 z, lessF] w (PrPost w B b g c N (fun l => ∃ C, l = P ++ (C ++ S) ∧ Mrg κ C X)) := by
  have hlen := h.len
  rw [List.length_append, List.length_append] at hlen
  have hcap := h.cap
  obtain ⟨a1, ha1⟩ : ∃ k, k = a + 1 := ⟨_, rfl⟩
  have v1 : (a : Int) + 1 = (a1 : Int) := by omega
  have w1 : IntKind.i64.wrap ((a : Int) + 1) = (a1 : Int) := by rw [IntWalk.i64_in _ (by omega)]; omega
  have H := Lib.hid (And.intro h hK)
  have HX := Lib.hid (And.intro hX hd)
  clear h hK hX hd
  unfold lessF
  by_cases h0 : X.length = 0
  · obtain rfl : X = [] := List.length_eq_zero_iff.mp h0
    have hn : ¬ a1 < z := by simp at hz; omega
    clear ha1
    go_enter Tryz.func89, Tryz.ntmps89
    go_wp2
    refine wp_loop_rounds 1 ?_
    rw [rounds_succ]
    go_wp2
    go_end0
    exact ⟨rfl, _, ⟨[], rfl, Mrg.nil κ⟩, H.out.1, Aside.refl _ _⟩
  · have HA1 := Lib.hid ha1
    clear ha1
    go_enter Tryz.func89, Tryz.ntmps89
    go_wp2
    clear v1 w1
    go_loopg [8] (z - a1) (fun kx s wr => ∃ (i : Nat) (C1 X1 X2 : List Nat), i + kx = z ∧ a < i ∧ s = .int .i64 i ∧ Hid (X = X1 ++ X2 ∧ a + X1.length = i ∧ Mrg κ C1 X1 ∧ Pr wr B b g c N (P ++ (C1 ++ (X2 ++ S))) ∧ Aside (fun k => k = g) w wr))
    case atStart =>
      cases X with
      | nil => exact absurd rfl h0
      | cons x X2 => exact ⟨a1, [x], [x], X2, by have := HA1.out; simp at hz; omega, by have := HA1.out; omega, rfl, Lib.hid ⟨rfl, by have := HA1.out; simp; omega, Mrg.one κ x, H.out.1, Aside.refl _ _⟩⟩
    case round =>
      obtain ⟨i, C1, X1, X2, hi, hai, rfl, HH⟩ := hrel
      by_cases hlt : i < z
      · obtain ⟨x, X3, rfl⟩ : ∃ x l, X2 = x :: l := by
          obtain ⟨k1, k2, _⟩ := HH.out
          cases X2 with
          | nil => rw [k1] at hz; simp at hz; omega
          | cons x l => exact ⟨x, l, rfl⟩
        go_wp2
        go_loopg [9] i (fun ky t wy => ∃ (j : Nat) (U V : List Nat), j ≤ ky ∧ a ≤ j ∧ j ≤ i ∧ t = .int .i64 j ∧ Hid (C1 = U ++ V ∧ a + U.length = j ∧ (∀ v ∈ V, Bef κ x v) ∧ Pr wy B b g c N (P ++ (U ++ x :: (V ++ (X3 ++ S)))) ∧ Aside (fun k => k = g) w wy))
        case atStart =>
          obtain ⟨k1, k2, k3, k4, k5⟩ := HH.out
          exact ⟨i, C1, [], Nat.le_refl _, by omega, Nat.le_refl _, rfl, Lib.hid ⟨by simp, by rw [k3.1.length_eq]; exact k2, fun v hv => by simp at hv, by simpa using k4, k5⟩⟩
        case round =>
          obtain ⟨j, U, V, hj, haj, hji, rfl, HV⟩ := hrel
          obtain ⟨k1, k2, k3, k4, k5⟩ := HH.out
          obtain ⟨l1, l2, l3, l4, l5⟩ := HV.out
          have HM := Lib.hid (show (∀ y ∈ U, Bef κ y x) → Mrg κ (U ++ x :: V) (X1 ++ [x]) from fun hu => Mrg.step (by rw [← l1]; exact k3) hu l3)
          have HX1 := Lib.hid (show X = (X1 ++ [x]) ++ X3 ∧ a + (X1 ++ [x]).length = i + 1 from ⟨by rw [k1]; simp, by simp; omega⟩)
          have HR := Lib.hid (show Pr wr B b g c N (P ++ ((U ++ x :: V) ++ (X3 ++ S))) ∧ Aside (fun k => k = g) w wr from ⟨by simpa using l4, l5⟩)
          have hlx : i < N := by have := l4.len; simp at this; omega
          by_cases hja : a < j
          · obtain ⟨U1, u, rfl⟩ : ∃ l y, U = l ++ [y] := by
              rcases List.eq_nil_or_concat U with rfl | ⟨l, y, rfl⟩
              · simp at l2; omega
              · exact ⟨l, y, by simp⟩
            obtain ⟨j1, hj1⟩ : ∃ k, k + 1 = j := ⟨j - 1, by omega⟩
            have hU1 : a + U1.length = j1 := by simp at l2; omega
            have eL : P ++ (U1 ++ [u] ++ x :: (V ++ (X3 ++ S))) = (P ++ U1) ++ u :: ([] ++ x :: (V ++ (X3 ++ S))) := by simp
            obtain ⟨_, s1, s2, s3, _⟩ := swap_two (P ++ U1) [] (V ++ (X3 ++ S)) u x j1 j (by rw [List.length_append]; omega) (by rw [List.length_append]; simp; omega)
            have l4' := l4
            rw [eL] at l4'
            have c1 := l4'.at_ j1 (by omega) u s2
            have c2 := l4'.at_ j (by omega) x s3
            have hux : x < u := by
              have hd := HX.out.2
              rw [k1] at hd
              exact (Dns.app.mp hd).2.2 u (k3.1.mem_iff.mp (by rw [l1]; simp)) x (by simp)
            have hXM := HX.out.1
            have hL : ∀ n, Calls Tryz.prog 59 #[pe b x, pe b u] (wr.drewN n) fun e w' => e = .returned (.int .i64 (cmpV (κ x) (κ u))) ∧ ∃ q, w' = (wr.drewN n).drewN q := fun n =>
              less_any (N := M) (H.out.2.aside (l5.trans (Aside.drewN _ n)) hg) x u (hXM x (by rw [k1]; simp)) (hXM u (by rw [k1]; exact List.mem_append_left _ (k3.1.mem_iff.mp (by rw [l1]; simp))))
            obtain ⟨r, hr⟩ : ∃ r, cmpV (κ x) (κ u) = r := ⟨_, rfl⟩
            rw [hr] at hL
            have HL := Lib.hid hL
            have v1 : (j : Int) - 1 = (j1 : Int) := by omega
            have w1 : IntKind.i64.wrap ((j : Int) - 1) = (j1 : Int) := by rw [IntWalk.i64_in _ (by omega)]; omega
            have w2 : IntKind.i64.wrap (j1 : Int) = (j1 : Int) := IntWalk.i64_in _ (by omega)
            have b1 : j1 < N := by omega
            have b2 : j < N := by omega
            have hrx : r < 0 ↔ Bef κ x u := by rw [← hr, cmpV_neg, bef_lt hux]
            have HB := Lib.hid hrx
            have HUX := Lib.hid (show x ≠ u by omega)
            have HJ := Lib.hid (And.intro hj1 (And.intro hU1 (And.intro hj (And.intro hji haj))))
            have HV3 := Lib.hid l3
            have HC1 := Lib.hid (And.intro l1 k3.2)
            have HL4 := Lib.hid (And.intro l4' (And.intro s1 l5))
            clear hj1 hU1 k1 k2 k3 k4 k5 l1 l2 l3 l4 l4' l5 eL s1 s2 s3 hux hXM hL hr hrx hj hji haj hlx
            by_cases hr0 : r < 0
            · unfold pe at HL c1 c2
              go_wp2
              go_quiet ((go_at_call 59; exact Calls.quiet_of (HL.out _)))
              obtain ⟨W, hW⟩ : ∃ X, wr.drewN nq = X := ⟨_, rfl⟩
              have hRW : Pr W B b g c N ((P ++ U1) ++ u :: ([] ++ x :: (V ++ (X3 ++ S)))) ∧ Aside (fun k => k = g) w W := by rw [← hW]; exact ⟨HL4.out.1, HL4.out.2.2.trans (Aside.drewN _ _)⟩
              rw [hW]
              clear hW c1 c2
              obtain ⟨s1, s2, s3⟩ := (swap_two (P ++ U1) [] (V ++ (X3 ++ S)) u x j1 j (by have := HJ.out; rw [List.length_append]; omega) (by have := HJ.out; rw [List.length_append]; simp; omega)).2
              have c1 := hRW.1.at_ j1 b1 u s2
              have c2 := hRW.1.at_ j b2 x s3.1
              have c3 := (hRW.1.set j u).at_ j1 b1 u (by rw [List.getElem?_set, if_neg (by omega)]; exact s2)
              have f1 := hRW.1.fz j
              have f2 := (hRW.1.set j u).fz j1
              have HRW := Lib.hid (show Pr ((W.setCell ⟨g, j, none⟩ (pe b u)).setCell ⟨g, j1, none⟩ (pe b x)) B b g c N (P ++ (U1 ++ x :: ((u :: V) ++ (X3 ++ S)))) ∧ Aside (fun k => k = g) w ((W.setCell ⟨g, j, none⟩ (pe b u)).setCell ⟨g, j1, none⟩ (pe b x)) from
                ⟨by have := (hRW.1.set j u).set j1 x; rw [s1] at this; simpa using this, (hRW.2.trans (Aside.setCell _ _ rfl)).trans (Aside.setCell _ _ rfl)⟩)
              clear hRW s1 s2 s3
              unfold pe at *
              go_wp2
              go_region
              go_wp2
              go_roundg j1
              case rel =>
                have := HJ.out
                exact ⟨j1, U1, u :: V, Nat.le_refl _, by omega, by omega, rfl, Lib.hid ⟨by rw [HC1.out.1]; simp, by omega, fun v hv => by
                  rcases List.mem_cons.mp hv with rfl | hv
                  · exact HB.out.mp hr0
                  · exact HV3.out v hv, HRW.out.1, HRW.out.2.trans (Aside.drewN _ 1)⟩⟩
              case measure => have := HJ.out; omega
            · unfold pe at HL c1 c2
              go_wp2
              go_quiet ((go_at_call 59; exact Calls.quiet_of (HL.out _)))
              go_wp2
              go_roundg (z - (i + 1))
              case rel =>
                refine ⟨i + 1, _, _, X3, by omega, by omega, by go_num, Lib.hid ⟨HX1.out.1, HX1.out.2, HM.out (fun y hy => ?_), HR.out.1, HR.out.2.trans (Aside.drewN _ _)⟩⟩
                have hub : Bef κ u x := Bef.total HUX.out (fun h => by have := HB.out.mpr h; omega)
                have hC := HC1.out.2
                rw [HC1.out.1] at hC
                have hU := (Ups.app.mp hC).1
                rcases List.mem_append.mp hy with hy | hy
                · exact ((Ups.app.mp hU).2.2 y hy u (by simp)).trans hub
                · obtain rfl := List.mem_singleton.mp hy
                  exact hub
              case measure => omega
          · have hd : decide ((a : Int) < j) = false := by simpa using hja
            have e1 : U = [] := List.length_eq_zero_iff.mp (by omega)
            subst e1
            clear k1 k2 k3 k4 k5 l1 l2 l3 l4 l5
            go_wp2
            go_quiet (fail)
            go_wp2
            go_roundg (z - (i + 1))
            case rel =>
              exact ⟨i + 1, _, _, X3, by omega, by omega, by go_num, Lib.hid ⟨HX1.out.1, HX1.out.2, HM.out (fun y hy => by simp at hy), HR.out.1, HR.out.2.trans (Aside.drewN _ _)⟩⟩
            case measure => omega
      · go_wp2
        go_end0
        obtain ⟨k1, k2, k3, k4, k5⟩ := HH.out
        have e1 : X2 = [] := List.length_eq_zero_iff.mp (by rw [k1, List.length_append] at hz; omega)
        subst e1
        exact ⟨rfl, _, ⟨C1, by simp, by rw [k1]; simpa using k3⟩, k4, k5⟩
end Go.Proofs.YteegekpanadmkaaGreat

/-
  Two stretches of a row that are in order made one: one of them is a single entry.
-/
namespace Go.Proofs.YteegekpanadmkaaGreat
open Go.RowKit Go.Shelf
set_option linter.unusedVariables false
set_option linter.unusedSimpArgs false
set_option maxRecDepth 100000

structure Two (κ : Nat → Int) (M : Nat) (A Z : List Nat) : Prop where
  a : Ups κ A
  z : Ups κ Z
  o : Ovr A Z
  ma : ∀ x ∈ A, x < M
  mz : ∀ x ∈ Z, x < M

def Cut (κ : Nat → Int) (L : List Nat) (x o i j : Nat) : Prop := ∀ t y, L[t]? = some y → (o + t < i → Bef κ y x) ∧ (j ≤ o + t → Bef κ x y)
theorem Cut.start (κ : Nat → Int) (L : List Nat) (x o : Nat) : Cut κ L x o o (o + L.length) := fun t y h => ⟨fun h1 => by omega, fun h1 => by have := (List.getElem?_eq_some_iff.mp h).1; omega⟩
theorem Cut.up {κ : Nat → Int} {L : List Nat} {x o i j h y : Nat} (hc : Cut κ L x o i j) (hU : Ups κ L) (hy : L[h]? = some y) (hb : Bef κ y x) : Cut κ L x o (o + h + 1) j := fun t u hu => ⟨fun h1 => by
    obtain ⟨l1, e1⟩ := List.getElem?_eq_some_iff.mp hu
    obtain ⟨l2, e2⟩ := List.getElem?_eq_some_iff.mp hy
    have := hU.behind (i := t) (j := h) (by omega) l2 (x := x) (by rw [e2]; exact hb)
    rwa [e1] at this, (hc t u hu).2⟩
theorem Cut.down {κ : Nat → Int} {L : List Nat} {x o i j h y : Nat} (hc : Cut κ L x o i j) (hU : Ups κ L) (hy : L[h]? = some y) (hb : Bef κ x y) : Cut κ L x o i (o + h) := fun t u hu => ⟨(hc t u hu).1, fun h1 => by
    obtain ⟨l1, e1⟩ := List.getElem?_eq_some_iff.mp hu
    obtain ⟨l2, e2⟩ := List.getElem?_eq_some_iff.mp hy
    have := hU.ahead (i := h) (j := t) (by omega) l1 (x := x) (by rw [e2]; exact hb)
    rwa [e1] at this⟩
theorem Cut.parts {κ : Nat → Int} {L : List Nat} {x o k : Nat} (hc : Cut κ L x o (o + k) (o + k)) (hk : k ≤ L.length) : ∃ U V, L = U ++ V ∧ U.length = k ∧ (∀ y ∈ U, Bef κ y x) ∧ ∀ y ∈ V, Bef κ x y := by
  refine ⟨L.take k, L.drop k, (List.take_append_drop _ _).symm, by simp; omega, fun y hy => ?_, fun y hy => ?_⟩
  · obtain ⟨t, ht, e⟩ := List.mem_iff_getElem.mp hy
    have h1 : t < k := by simp at ht; omega
    have h2 : L[t]? = some y := by rw [← e, List.getElem_take]; exact List.getElem?_eq_getElem _
    exact (hc t y h2).1 (by omega)
  · obtain ⟨t, ht, e⟩ := List.mem_iff_getElem.mp hy
    have h2 : L[k + t]? = some y := by rw [← e, List.getElem_drop]; exact List.getElem?_eq_getElem _
    exact (hc (k + t) y h2).2 (by omega)

set_option maxHeartbeats 1000000 in
theorem symL_any {w : World} {B b g c N M : Nat} {κ : Nat → Int} {P Z S : List Nat} {x : Nat} (h : Pr w B b g c N (P ++ (x :: (Z ++ S)))) (hN : N ≤ 1000000) (hK : Kn w b M κ) (hT : Two κ M [x] Z) (hg : ¬ b = g) (a m z : Nat) (ha : P.length = a) (hm : a + 1 = m) (hz : m + Z.length = z) :
    Calls Tryz.prog 90 #[.slice (some ⟨g, 0, none⟩) N c, .int .i64 a, .int .i64 m, .int .i64 z, lessF] w (PrPost w B b g c N (fun l => ∃ C, l = P ++ (C ++ S) ∧ Mrg κ C ([x] ++ Z))) := by
  have hlen := h.len
  rw [List.length_append, List.length_cons, List.length_append] at hlen
  have hcap := h.cap
  have v1 : (m : Int) - (a : Int) = 1 := by omega
  have w1 : IntKind.i64.wrap ((m : Int) - (a : Int)) = 1 := by rw [IntWalk.i64_in _ (by omega)]; omega
  have H := Lib.hid (And.intro h (And.intro hK hT))
  have hzN : z ≤ N := by omega
  have hma : a < N := by omega
  have HZ := Lib.hid hz
  have HM := Lib.hid hm
  have HA := Lib.hid ha
  clear h hK hT hz hm ha hlen
  unfold lessF
  go_enter Tryz.func90, Tryz.ntmps90
  go_wp2
  clear v1 w1
  go_loopg [10, 11] (z - m) (fun kx s t wr => ∃ i j : Nat, j ≤ i + kx ∧ i ≤ j ∧ j ≤ z ∧ m ≤ i ∧ s = .int .i64 i ∧ t = .int .i64 j ∧ Hid (Cut κ Z x m i j ∧ Pr wr B b g c N (P ++ (x :: (Z ++ S))) ∧ Aside (fun k => k = g) w wr))
  case atStart => exact ⟨m, z, by have := HZ.out; omega, by have := HZ.out; omega, Nat.le_refl _, Nat.le_refl _, rfl, rfl, Lib.hid ⟨by rw [← HZ.out]; exact Cut.start κ Z x m, H.out.1, Aside.refl _ _⟩⟩
  case round =>
    obtain ⟨i, j, hk, hij, hjz, hmi, rfl, rfl, HH⟩ := hrel
    by_cases hlt : i < j
    · obtain ⟨hh, hhd⟩ : ∃ k, k = (i + j) / 2 := ⟨_, rfl⟩
      have hd : ((i : Int) + (j : Int)) / 2 = (hh : Int) := by omega
      have h1 : i ≤ hh := by omega
      have h2 : hh < j := by omega
      have HD := Lib.hid hhd
      obtain ⟨t, ht⟩ : ∃ t, m + t = hh := ⟨hh - m, by omega⟩
      have HT := Lib.hid ht
      have htz : t < Z.length := by have := HZ.out; omega
      obtain ⟨y, hy⟩ : ∃ y, Z[t]? = some y := ⟨_, List.getElem?_eq_getElem htz⟩
      have c1 := HH.out.2.1.at_ a hma x (get_mid _ _ _ _ HA.out)
      have c2 := HH.out.2.1.at_ hh (by omega) y (by
        rw [List.getElem?_append_right (by have := HA.out; have := HM.out; omega), show hh - P.length = t + 1 by have := HA.out; have := HM.out; omega, List.getElem?_cons_succ, List.getElem?_append_left htz]; exact hy)
      have hyZ : y ∈ Z := List.mem_of_getElem? hy
      have hyx : y < x := H.out.2.2.o x (by simp) y hyZ
      have hL : ∀ n, Calls Tryz.prog 59 #[pe b y, pe b x] (wr.drewN n) fun e w' => e = .returned (.int .i64 (cmpV (κ y) (κ x))) ∧ ∃ q, w' = (wr.drewN n).drewN q := fun n =>
        less_any (N := M) (H.out.2.1.aside (HH.out.2.2.trans (Aside.drewN _ n)) hg) y x (H.out.2.2.mz y hyZ) (H.out.2.2.ma x (by simp))
      obtain ⟨r, hr⟩ : ∃ r, cmpV (κ y) (κ x) = r := ⟨_, rfl⟩
      rw [hr] at hL
      have HL := Lib.hid hL
      have HB := Lib.hid (show r < 0 ↔ Bef κ y x by rw [← hr, cmpV_neg, bef_lt hyx])
      have HY := Lib.hid (show y ≠ x ∧ Z[t]? = some y from ⟨by omega, hy⟩)
      have b1 : hh < N := by omega
      clear hhd ht htz hy hyZ hyx hL hr
      by_cases hr0 : r < 0
      · unfold pe at HL c1 c2
        go_wp2
        go_quiet ((go_at_call 59; exact Calls.quiet_of (HL.out _)))
        go_wp2
        go_roundg (j - (hh + 1))
        case rel =>
          have hc := HH.out.1.up H.out.2.2.z HY.out.2 (HB.out.mp hr0)
          rw [HT.out] at hc
          exact ⟨hh + 1, j, by omega, by omega, hjz, by omega, by go_num, rfl, Lib.hid ⟨hc, HH.out.2.1, HH.out.2.2.trans (Aside.drewN _ _)⟩⟩
        case measure => omega
      · unfold pe at HL c1 c2
        go_wp2
        go_quiet ((go_at_call 59; exact Calls.quiet_of (HL.out _)))
        go_wp2
        go_roundg (hh - i)
        case rel =>
          have hc := HH.out.1.down H.out.2.2.z HY.out.2 (Bef.total HY.out.1 (fun h => by have := HB.out.mpr h; omega))
          rw [HT.out] at hc
          exact ⟨i, hh, by omega, by omega, by omega, by omega, rfl, rfl, Lib.hid ⟨hc, HH.out.2.1, HH.out.2.2.trans (Aside.drewN _ _)⟩⟩
        case measure => omega
    · obtain rfl : i = j := by omega
      obtain ⟨k, hk⟩ : ∃ k, m + k = i := ⟨i - m, by omega⟩
      obtain ⟨Z1, Z2, hZ12, hZ1, hz1, hz2⟩ := Cut.parts (k := k) (by rw [hk]; exact HH.out.1) (by have := HZ.out; omega)
      subst hZ12
      have HZC := Lib.hid (And.intro hZ1 (And.intro hz1 hz2))
      obtain ⟨i1, hi1⟩ : ∃ k, k + 1 = i := ⟨i - 1, by have := HM.out; omega⟩
      have v1 : (i : Int) - 1 = (i1 : Int) := by omega
      have w1 : IntKind.i64.wrap ((i : Int) - 1) = (i1 : Int) := by rw [IntWalk.i64_in _ (by omega)]; omega
      have HI := Lib.hid (And.intro hi1 hk)
      have hi1N : i1 + 1 ≤ N := by omega
      clear hZ1 hz1 hz2 hi1 hk
      go_wp2
      go_loopg [13] k (fun kx s wr => ∃ (q : Nat) (U V : List Nat), q + V.length = i1 ∧ V.length ≤ kx ∧ s = .int .i64 q ∧ Hid (Z1 = U ++ V ∧ a + U.length = q ∧ Pr wr B b g c N (P ++ (U ++ (x :: (V ++ (Z2 ++ S))))) ∧ Aside (fun k => k = g) w wr))
      case atStart =>
        have := HI.out
        have := HM.out
        have := HZC.out.1
        exact ⟨a, [], Z1, by omega, by omega, rfl, Lib.hid ⟨rfl, rfl, by have := HH.out.2.1; simpa using this, HH.out.2.2⟩⟩
      case round =>
        obtain ⟨q, U, V, hq, hV, rfl, HV⟩ := hrel
        clear v1 w1
        by_cases hlq : q < i1
        · obtain ⟨y, V1, rfl⟩ : ∃ y l, V = y :: l := by
            cases V with
            | nil => simp at hq; omega
            | cons y l => exact ⟨y, l, rfl⟩
          obtain ⟨l1, l2, l3, l4⟩ := HV.out
          have eL : P ++ (U ++ (x :: (y :: V1 ++ (Z2 ++ S)))) = (P ++ U) ++ x :: ([] ++ y :: (V1 ++ (Z2 ++ S))) := by simp
          rw [eL] at l3
          obtain ⟨s1, _, s2, s3, s4⟩ := swap_two (P ++ U) [] (V1 ++ (Z2 ++ S)) x y q (q + 1) (by have := HA.out; rw [List.length_append]; omega) (by have := HA.out; rw [List.length_append]; simp; omega)
          have v1 : (i1 : Int) + 1 = (i : Int) := by have := HI.out.1; omega
          obtain ⟨q1, hq1⟩ : ∃ k, q + 1 = k := ⟨_, rfl⟩
          rw [hq1] at s1 s3 s4
          have b1 : q < N := by omega
          have b2 : q1 < N := by omega
          have c1 := l3.at_ q b1 x s2
          have c2 := l3.at_ q1 b2 y s3
          have c3 := (l3.set q y).at_ q1 b2 y s4
          have f1 := l3.fz q
          have f2 := (l3.set q y).fz q1
          have HR := Lib.hid (show Pr ((wr.setCell ⟨g, q, none⟩ (pe b y)).setCell ⟨g, q1, none⟩ (pe b x)) B b g c N (P ++ ((U ++ [y]) ++ (x :: (V1 ++ (Z2 ++ S))))) ∧ Aside (fun k => k = g) w ((wr.setCell ⟨g, q, none⟩ (pe b y)).setCell ⟨g, q1, none⟩ (pe b x)) from
            ⟨by have := (l3.set q y).set q1 x; rw [s1] at this; simpa using this, (l4.trans (Aside.setCell _ _ rfl)).trans (Aside.setCell _ _ rfl)⟩)
          have HU := Lib.hid (And.intro l1 (And.intro l2 (And.intro hq1 (And.intro hq hV))))
          have w2 : IntKind.i64.wrap ((q : Int) + 1) = (q1 : Int) := by rw [IntWalk.i64_in _ (by omega)]; omega
          have v2 : (q : Int) + 1 = (q1 : Int) := by omega
          have w3 : IntKind.i64.wrap (q1 : Int) = (q1 : Int) := IntWalk.i64_in _ (by omega)
          have v3 : (i : Int) - 1 = (i1 : Int) := by omega
          clear v1 l1 l2 l3 l4 s1 s2 s3 s4 eL hq1 hq hV
          unfold pe at *
          go_wp2
          go_region
          go_wp2
          go_roundg V1.length
          case rel =>
            obtain ⟨l1, l2, l3, l4, l5⟩ := HU.out
            simp at l4
            exact ⟨q1, U ++ [y], V1, by omega, Nat.le_refl _, rfl, Lib.hid ⟨by rw [l1]; simp, by simp; omega, HR.out.1, HR.out.2.trans (Aside.drewN _ 1)⟩⟩
          case measure => have := HU.out.2.2.2.2; simp at this; omega
        · have v3 : (i : Int) - 1 = (i1 : Int) := by have := HI.out.1; omega
          go_wp2
          go_end0
          obtain ⟨l1, l2, l3, l4⟩ := HV.out
          obtain rfl : V = [] := List.length_eq_zero_iff.mp (by omega)
          rw [List.append_nil] at l1
          subst l1
          refine ⟨rfl, _, ⟨Z1 ++ x :: Z2, ?_, ?_⟩, l3, l4⟩
          · simp
          · exact Mrg.put0 H.out.2.2.z HZC.out.2.1 HZC.out.2.2
end Go.Proofs.YteegekpanadmkaaGreat

/-
  Two stretches of a row that are in order made one: the second is a single entry.
-/
namespace Go.Proofs.YteegekpanadmkaaGreat
open Go.RowKit Go.Shelf
set_option linter.unusedVariables false
set_option linter.unusedSimpArgs false
set_option maxRecDepth 100000

set_option maxHeartbeats 1000000 in
theorem symR_any {w : World} {B b g c N M : Nat} {κ : Nat → Int} {P Z S : List Nat} {x : Nat} (h : Pr w B b g c N (P ++ (Z ++ (x :: S)))) (hN : N ≤ 1000000) (hK : Kn w b M κ) (hT : Two κ M Z [x]) (hg : ¬ b = g) (h1 : 2 ≤ Z.length) (a m z : Nat) (ha : P.length = a) (hm : a + Z.length = m) (hz : m + 1 = z) :
    Calls Tryz.prog 90 #[.slice (some ⟨g, 0, none⟩) N c, .int .i64 a, .int .i64 m, .int .i64 z, lessF] w (PrPost w B b g c N (fun l => ∃ C, l = P ++ (C ++ S) ∧ Mrg κ C (Z ++ [x]))) := by
  have hlen := h.len
  rw [List.length_append, List.length_append, List.length_cons] at hlen
  have hcap := h.cap
  obtain ⟨d, hd⟩ : ∃ d, a + d = m := ⟨Z.length, hm⟩
  have v1 : (m : Int) - (a : Int) = (d : Int) := by omega
  have w1 : IntKind.i64.wrap ((m : Int) - (a : Int)) = (d : Int) := by rw [IntWalk.i64_in _ (by omega)]; omega
  have d1 : ¬ (d : Int) = 1 := by omega
  have d2 : ((d : Int) == 1) = false := by simpa using d1
  have v2 : (z : Int) - (m : Int) = 1 := by omega
  have w2 : IntKind.i64.wrap ((z : Int) - (m : Int)) = 1 := by rw [IntWalk.i64_in _ (by omega)]; omega
  have H := Lib.hid (And.intro h (And.intro hK hT))
  have hmN : m < N := by omega
  have HZ := Lib.hid hm
  have HA := Lib.hid ha
  clear h hK hT hz hm ha hlen h1 hd
  unfold lessF
  go_enter Tryz.func90, Tryz.ntmps90
  go_wp2
  clear v1 w1 d1 d2 v2 w2
  go_loopg [14, 15] (m - a) (fun kx s t wr => ∃ i j : Nat, j ≤ i + kx ∧ i ≤ j ∧ j ≤ m ∧ a ≤ i ∧ s = .int .i64 i ∧ t = .int .i64 j ∧ Hid (Cut κ Z x a i j ∧ Pr wr B b g c N (P ++ (Z ++ (x :: S))) ∧ Aside (fun k => k = g) w wr))
  case atStart => exact ⟨a, m, by have := HZ.out; omega, by have := HZ.out; omega, Nat.le_refl _, Nat.le_refl _, rfl, rfl, Lib.hid ⟨by rw [← HZ.out]; exact Cut.start κ Z x a, H.out.1, Aside.refl _ _⟩⟩
  case round =>
    obtain ⟨i, j, hk, hij, hjm, hai, rfl, rfl, HH⟩ := hrel
    by_cases hlt : i < j
    · obtain ⟨hh, hhd⟩ : ∃ k, k = (i + j) / 2 := ⟨_, rfl⟩
      have hd : ((i : Int) + (j : Int)) / 2 = (hh : Int) := by omega
      have h1 : i ≤ hh := by omega
      have h2 : hh < j := by omega
      obtain ⟨t, ht⟩ : ∃ t, a + t = hh := ⟨hh - a, by omega⟩
      have HT := Lib.hid ht
      have htz : t < Z.length := by have := HZ.out; omega
      obtain ⟨y, hy⟩ : ∃ y, Z[t]? = some y := ⟨_, List.getElem?_eq_getElem htz⟩
      have c1 := HH.out.2.1.at_ m hmN x (by rw [← List.append_assoc]; exact get_mid _ _ _ _ (by have := HA.out; have := HZ.out; rw [List.length_append]; omega))
      have c2 := HH.out.2.1.at_ hh (by omega) y (by
        rw [List.getElem?_append_right (by have := HA.out; omega), show hh - P.length = t by have := HA.out; omega, List.getElem?_append_left htz]; exact hy)
      have hyZ : y ∈ Z := List.mem_of_getElem? hy
      have hyx : x < y := H.out.2.2.o y hyZ x (by simp)
      have hL : ∀ n, Calls Tryz.prog 59 #[pe b x, pe b y] (wr.drewN n) fun e w' => e = .returned (.int .i64 (cmpV (κ x) (κ y))) ∧ ∃ q, w' = (wr.drewN n).drewN q := fun n =>
        less_any (N := M) (H.out.2.1.aside (HH.out.2.2.trans (Aside.drewN _ n)) hg) x y (H.out.2.2.mz x (by simp)) (H.out.2.2.ma y hyZ)
      obtain ⟨r, hr⟩ : ∃ r, cmpV (κ x) (κ y) = r := ⟨_, rfl⟩
      rw [hr] at hL
      have HL := Lib.hid hL
      have HB := Lib.hid (show r < 0 ↔ Bef κ x y by rw [← hr, cmpV_neg, bef_lt hyx])
      have HY := Lib.hid (show x ≠ y ∧ Z[t]? = some y from ⟨by omega, hy⟩)
      have b1 : hh < N := by omega
      clear hhd ht htz hy hyZ hyx hL hr
      by_cases hr0 : r < 0
      · unfold pe at HL c1 c2
        go_wp2
        go_quiet ((go_at_call 59; exact Calls.quiet_of (HL.out _)))
        go_wp2
        go_roundg (hh - i)
        case rel =>
          have hc := HH.out.1.down H.out.2.2.a HY.out.2 (HB.out.mp hr0)
          rw [HT.out] at hc
          exact ⟨i, hh, by omega, by omega, by omega, by omega, rfl, rfl, Lib.hid ⟨hc, HH.out.2.1, HH.out.2.2.trans (Aside.drewN _ _)⟩⟩
        case measure => omega
      · unfold pe at HL c1 c2
        have hd0 : decide (r < 0) = false := by simpa using hr0
        go_wp2
        go_quiet ((go_at_call 59; exact Calls.quiet_of (HL.out _)))
        go_wp2
        go_roundg (j - (hh + 1))
        case rel =>
          have hc := HH.out.1.up H.out.2.2.a HY.out.2 (Bef.total HY.out.1 (fun h => by have := HB.out.mpr h; omega))
          rw [HT.out] at hc
          exact ⟨hh + 1, j, by omega, by omega, hjm, by omega, by go_num, rfl, Lib.hid ⟨hc, HH.out.2.1, HH.out.2.2.trans (Aside.drewN _ _)⟩⟩
        case measure => omega
    · obtain rfl : i = j := by omega
      obtain ⟨k, hk⟩ : ∃ k, a + k = i := ⟨i - a, by omega⟩
      obtain ⟨Z1, Z2, hZ12, hZ1, hz1, hz2⟩ := Cut.parts (k := k) (by rw [hk]; exact HH.out.1) (by have := HZ.out; omega)
      subst hZ12
      have HZC := Lib.hid (And.intro hZ1 (And.intro hz1 (And.intro hz2 hk)))
      clear hZ1 hz1 hz2 hk
      go_wp2
      go_loopg [17] (m - i) (fun kx s wr => ∃ (q : Nat) (U V : List Nat), q ≤ m ∧ i + U.length = q ∧ U.length ≤ kx ∧ s = .int .i64 q ∧ Hid (Z2 = U ++ V ∧ Pr wr B b g c N (P ++ (Z1 ++ (U ++ (x :: (V ++ S))))) ∧ Aside (fun k => k = g) w wr))
      case atStart =>
        have := HZC.out.1
        have := HZC.out.2.2.2
        have := HZ.out
        rw [List.length_append] at this
        exact ⟨m, Z2, [], Nat.le_refl _, by omega, by omega, rfl, Lib.hid ⟨by simp, by have := HH.out.2.1; simpa using this, HH.out.2.2⟩⟩
      case round =>
        obtain ⟨q, U, V, hqm, hq, hV, rfl, HV⟩ := hrel
        by_cases hlq : i < q
        · obtain ⟨U1, y, rfl⟩ : ∃ l y, U = l ++ [y] := by
            rcases List.eq_nil_or_concat U with rfl | ⟨l, y, rfl⟩
            · simp at hq; omega
            · exact ⟨l, y, by simp⟩
          obtain ⟨l1, l3, l4⟩ := HV.out
          obtain ⟨q1, hq1⟩ : ∃ k, k + 1 = q := ⟨q - 1, by omega⟩
          have eL : P ++ (Z1 ++ (U1 ++ [y] ++ (x :: (V ++ S)))) = (P ++ (Z1 ++ U1)) ++ y :: ([] ++ x :: (V ++ S)) := by simp
          rw [eL] at l3
          have hq2 : i + U1.length = q1 := by simp at hq; omega
          have hl1 : (P ++ (Z1 ++ U1)).length = q1 := by have := HA.out; have := HZC.out.1; have := HZC.out.2.2.2; rw [List.length_append, List.length_append]; omega
          obtain ⟨_, s1, s2, s3, _⟩ := swap_two (P ++ (Z1 ++ U1)) [] (V ++ S) y x q1 q hl1 (by rw [hl1]; exact hq1)
          have b1 : q < N := by omega
          have b2 : q1 < N := by omega
          have c1 := l3.at_ q1 b2 y s2
          have c2 := l3.at_ q b1 x s3
          have c3 := (l3.set q y).at_ q1 b2 y (by rw [List.getElem?_set, if_neg (by omega)]; exact s2)
          have f1 := l3.fz q
          have f2 := (l3.set q y).fz q1
          have HR := Lib.hid (show Pr ((wr.setCell ⟨g, q, none⟩ (pe b y)).setCell ⟨g, q1, none⟩ (pe b x)) B b g c N (P ++ (Z1 ++ (U1 ++ (x :: ((y :: V) ++ S))))) ∧ Aside (fun k => k = g) w ((wr.setCell ⟨g, q, none⟩ (pe b y)).setCell ⟨g, q1, none⟩ (pe b x)) from
            ⟨by have := (l3.set q y).set q1 x; rw [s1] at this; simpa using this, (l4.trans (Aside.setCell _ _ rfl)).trans (Aside.setCell _ _ rfl)⟩)
          have HU := Lib.hid (And.intro l1 (And.intro hq2 (And.intro hq1 hV)))
          have w2 : IntKind.i64.wrap ((q : Int) - 1) = (q1 : Int) := by rw [IntWalk.i64_in _ (by omega)]; omega
          have v2 : (q : Int) - 1 = (q1 : Int) := by omega
          have w3 : IntKind.i64.wrap (q1 : Int) = (q1 : Int) := IntWalk.i64_in _ (by omega)
          clear l1 l3 l4 s1 s2 s3 eL hq1 hq2 hq hV hl1
          unfold pe at *
          go_wp2
          go_region
          go_wp2
          go_roundg U1.length
          case rel =>
            obtain ⟨l1, l2, l3, l4⟩ := HU.out
            exact ⟨q1, U1, y :: V, by omega, l2, Nat.le_refl _, rfl, Lib.hid ⟨by rw [l1]; simp, HR.out.1, HR.out.2.trans (Aside.drewN _ 1)⟩⟩
          case measure => have := HU.out.2.2.2; simp at this; omega
        · go_wp2
          go_end0
          obtain ⟨l1, l3, l4⟩ := HV.out
          obtain rfl : U = [] := List.length_eq_zero_iff.mp (by omega)
          rw [List.nil_append] at l1
          subst l1
          refine ⟨rfl, _, ⟨Z1 ++ x :: Z2, ?_, ?_⟩, l3, l4⟩
          · simp
          · exact Mrg.put H.out.2.2.a HZC.out.2.1 HZC.out.2.2.1
end Go.Proofs.YteegekpanadmkaaGreat

/-
  Two stretches of a row that are in order made one.
-/
namespace Go.Proofs.YteegekpanadmkaaGreat
open Go.RowKit Go.Shelf
set_option linter.unusedVariables false
set_option linter.unusedSimpArgs false
set_option maxRecDepth 100000

theorem Two.fst {κ : Nat → Int} {M : Nat} {A A' Z Z' : List Nat} (h : Two κ M (A ++ A') (Z ++ Z')) : Two κ M A Z :=
  ⟨(Ups.app.mp h.a).1, (Ups.app.mp h.z).1, fun x hx y hy => h.o x (by simp [hx]) y (by simp [hy]), fun x hx => h.ma x (by simp [hx]), fun x hx => h.mz x (by simp [hx])⟩
theorem Two.snd {κ : Nat → Int} {M : Nat} {A A' Z Z' : List Nat} (h : Two κ M (A ++ A') (Z ++ Z')) : Two κ M A' Z' :=
  ⟨(Ups.app.mp h.a).2.1, (Ups.app.mp h.z).2.1, fun x hx y hy => h.o x (by simp [hx]) y (by simp [hy]), fun x hx => h.ma x (by simp [hx]), fun x hx => h.mz x (by simp [hx])⟩
theorem Two.self {κ : Nat → Int} {M : Nat} {A Z : List Nat} (h : Two κ M A Z) (h0 : A.length = 0 ∨ Z.length = 0) : Mrg κ (A ++ Z) (A ++ Z) := by
  rcases h0 with h0 | h0
  · rw [List.length_eq_zero_iff.mp h0]; exact ⟨List.Perm.refl _, h.z⟩
  · rw [List.length_eq_zero_iff.mp h0, List.append_nil]; exact ⟨List.Perm.refl _, h.a⟩

structure Rng (a m z p s0 r0 : Nat) : Prop where
  h1 : a ≤ s0
  h2 : s0 ≤ r0
  h3 : r0 ≤ m
  h4 : m + r0 ≤ p + 1
  h5 : p + 1 ≤ z + s0
  h6 : s0 = a ∨ p + 1 = z + s0
  h7 : r0 = m ∨ m + r0 = p + 1
def Sch (κ : Nat → Int) (A Z : List Nat) (a m p s0 r0 s r : Nat) : Prop := ∀ k x y, s0 ≤ k → k < r0 → A[k - a]? = some x → Z[p - k - m]? = some y → (k < s → Bef κ x y) ∧ (r ≤ k → Bef κ y x)
theorem Sch.start (κ : Nat → Int) (A Z : List Nat) (a m p s0 r0 : Nat) : Sch κ A Z a m p s0 r0 s0 r0 := fun k x y h1 h2 _ _ => ⟨fun h => by omega, fun h => by omega⟩
section
variable {κ : Nat → Int} {A Z : List Nat} {a m z p s0 r0 s r : Nat}
theorem Sch.up (h : Sch κ A Z a m p s0 r0 s r) (hR : Rng a m z p s0 r0) (hA : Ups κ A) (hZ : Ups κ Z) {k x y : Nat} (h1 : s0 ≤ k) (h2 : k < r0) (hx : A[k - a]? = some x) (hy : Z[p - k - m]? = some y) (hb : Bef κ x y) : Sch κ A Z a m p s0 r0 (k + 1) r := fun k' x' y' g1 g2 gx gy => by
  refine ⟨fun hk => ?_, (h k' x' y' g1 g2 gx gy).2⟩
  obtain ⟨l1, rfl⟩ := List.getElem?_eq_some_iff.mp hx
  obtain ⟨l2, rfl⟩ := List.getElem?_eq_some_iff.mp hy
  obtain ⟨l3, rfl⟩ := List.getElem?_eq_some_iff.mp gx
  obtain ⟨l4, rfl⟩ := List.getElem?_eq_some_iff.mp gy
  have := hR.h4
  exact hA.behind (i := k' - a) (j := k - a) (by omega) l1 (hZ.ahead (i := p - k - m) (j := p - k' - m) (by omega) l4 hb)
theorem Sch.down (h : Sch κ A Z a m p s0 r0 s r) (hR : Rng a m z p s0 r0) (hA : Ups κ A) (hZ : Ups κ Z) {k x y : Nat} (h1 : s0 ≤ k) (h2 : k < r0) (hx : A[k - a]? = some x) (hy : Z[p - k - m]? = some y) (hb : Bef κ y x) : Sch κ A Z a m p s0 r0 s k := fun k' x' y' g1 g2 gx gy => by
  refine ⟨(h k' x' y' g1 g2 gx gy).1, fun hk => ?_⟩
  obtain ⟨l1, rfl⟩ := List.getElem?_eq_some_iff.mp hx
  obtain ⟨l2, rfl⟩ := List.getElem?_eq_some_iff.mp hy
  obtain ⟨l3, rfl⟩ := List.getElem?_eq_some_iff.mp gx
  obtain ⟨l4, rfl⟩ := List.getElem?_eq_some_iff.mp gy
  have := hR.h4
  exact hZ.behind (i := p - k' - m) (j := p - k - m) (by omega) l2 (hA.ahead (i := k - a) (j := k' - a) (by omega) l3 hb)
theorem Sch.parts (h : Sch κ A Z a m p s0 r0 s s) (hR : Rng a m z p s0 r0) (hA : Ups κ A) (hZ : Ups κ Z) (hm : a + A.length = m) (hz : m + Z.length = z) (h1 : s0 ≤ s) (h2 : s ≤ r0) :
    ∃ A1 A2 Z1 Z2, A = A1 ++ A2 ∧ Z = Z1 ++ Z2 ∧ a + A1.length = s ∧ m + Z1.length = p + 1 - s ∧ (∀ x ∈ A1, ∀ y ∈ Z2, Bef κ x y) ∧ ∀ x ∈ Z1, ∀ y ∈ A2, Bef κ x y := by
  obtain ⟨r1, r2, r3, r4, r5, r6, r7⟩ := hR
  refine ⟨A.take (s - a), A.drop (s - a), Z.take (p + 1 - s - m), Z.drop (p + 1 - s - m), (List.take_append_drop _ _).symm, (List.take_append_drop _ _).symm, by rw [List.length_take]; omega, by rw [List.length_take]; omega, fun x hx y hy => ?_, fun x hx y hy => ?_⟩
  · obtain ⟨i, hi, e⟩ := List.mem_iff_getElem.mp hx
    obtain ⟨j, hj, f⟩ := List.mem_iff_getElem.mp hy
    rw [List.length_take] at hi
    rw [List.length_drop] at hj
    rw [List.getElem_take] at e
    rw [List.getElem_drop] at f
    have hs : s0 < s := by omega
    have l1 : s - 1 - a < A.length := by omega
    have l2 : p - (s - 1) - m < Z.length := by omega
    have hb := (h (s - 1) _ _ (by omega) (by omega) (List.getElem?_eq_getElem l1) (List.getElem?_eq_getElem l2)).1 (by omega)
    rw [← e, ← f]
    exact hA.behind (i := i) (by omega) l1 (hZ.ahead (i := p - (s - 1) - m) (by omega) (by omega) hb)
  · obtain ⟨i, hi, e⟩ := List.mem_iff_getElem.mp hx
    obtain ⟨j, hj, f⟩ := List.mem_iff_getElem.mp hy
    rw [List.length_take] at hi
    rw [List.length_drop] at hj
    rw [List.getElem_take] at e
    rw [List.getElem_drop] at f
    have hs : s < r0 := by omega
    have l1 : s - a < A.length := by omega
    have l2 : p - s - m < Z.length := by omega
    have hb := (h s _ _ (by omega) (by omega) (List.getElem?_eq_getElem l1) (List.getElem?_eq_getElem l2)).2 (by omega)
    rw [← e, ← f]
    exact hZ.behind (i := i) (by omega) l2 (hA.ahead (i := s - a) (by omega) (by omega) hb)
end

def SymC (n : Nat) : Prop := ∀ {w : World} {B b g c N M : Nat} {κ : Nat → Int} {P A Z S : List Nat}, Pr w B b g c N (P ++ (A ++ (Z ++ S))) → N ≤ 1000000 → Kn w b M κ → Two κ M A Z → ¬ b = g → A.length + Z.length ≤ n → 0 < A.length → 0 < Z.length → ∀ a m z : Nat, P.length = a → a + A.length = m → m + Z.length = z →
    Calls Tryz.prog 90 #[.slice (some ⟨g, 0, none⟩) N c, .int .i64 a, .int .i64 m, .int .i64 z, lessF] w (PrPost w B b g c N (fun l => ∃ C, l = P ++ (C ++ S) ∧ Mrg κ C (A ++ Z)))

theorem sym_states {w wr : World} {B b g c N M n : Nat} {κ : Nat → Int} {P A1 A2 Z1 Z2 S : List Nat} (ih : SymC n) (hN : N ≤ 1000000) (hK : Kn w b M κ) (hT : Two κ M (A1 ++ A2) (Z1 ++ Z2)) (hg : ¬ b = g) (hn : (A1 ++ A2).length + (Z1 ++ Z2).length ≤ n + 1) (h2 : 2 ≤ (A1 ++ A2).length) (k2 : 2 ≤ (Z1 ++ Z2).length)
    (a m z i e md : Nat) (ha : P.length = a) (hi : a + A1.length = i) (hm : i + A2.length = m) (he : m + Z1.length = e) (hz : e + Z2.length = z) (hmd : i + Z1.length = md) (hmd2 : md = (a + z) / 2)
    (hp : Pr wr B b g c N (P ++ ((A1 ++ A2) ++ ((Z1 ++ Z2) ++ S)))) (hs : Aside (fun k => k = g) w wr) (hX : ∀ x ∈ A1, ∀ y ∈ Z2, Bef κ x y) (hY : ∀ x ∈ Z1, ∀ y ∈ A2, Bef κ x y) :
    ∃ T1 T2 T3 : World → Prop,
      (i < md → i < m → Calls Tryz.prog 97 #[.slice (some ⟨g, 0, none⟩) N c, .int .i64 i, .int .i64 m, .int .i64 e, lessF] wr fun x w' => x = .returned (.tuple #[]) ∧ T1 w') ∧
      (¬ (i < md ∧ i < m) → T1 wr) ∧
      (∀ W, T1 W → a < i → i < md → Calls Tryz.prog 90 #[.slice (some ⟨g, 0, none⟩) N c, .int .i64 a, .int .i64 i, .int .i64 md, lessF] W fun x w' => x = .returned (.tuple #[]) ∧ T2 w') ∧
      (∀ W, T1 W → ¬ (a < i ∧ i < md) → T2 W) ∧
      (∀ W, T2 W → i < m → e < z → Calls Tryz.prog 90 #[.slice (some ⟨g, 0, none⟩) N c, .int .i64 md, .int .i64 e, .int .i64 z, lessF] W fun x w' => x = .returned (.tuple #[]) ∧ T3 w') ∧
      (∀ W, T2 W → ¬ (i < m ∧ e < z) → T3 W) ∧
      ∀ W, T3 W → PrPost w B b g c N (fun l => ∃ C, l = P ++ (C ++ S) ∧ Mrg κ C ((A1 ++ A2) ++ (Z1 ++ Z2))) (.returned (.tuple #[])) W := by
  rw [List.length_append, List.length_append] at hn
  rw [List.length_append] at h2 k2
  refine ⟨fun W => Pr W B b g c N (P ++ (A1 ++ (Z1 ++ (A2 ++ (Z2 ++ S))))) ∧ Aside (fun k => k = g) w W, fun W => ∃ C, Mrg κ C (A1 ++ Z1) ∧ Pr W B b g c N (P ++ (C ++ (A2 ++ (Z2 ++ S)))) ∧ Aside (fun k => k = g) w W,
    fun W => ∃ C D, Mrg κ C (A1 ++ Z1) ∧ Mrg κ D (A2 ++ Z2) ∧ Pr W B b g c N (P ++ (C ++ (D ++ S))) ∧ Aside (fun k => k = g) w W, ?_, ?_, ?_, ?_, ?_, ?_, ?_⟩
  · intro c1 c2
    refine (rotate_any (P := P ++ A1) (X := A2) (Y := Z1) (S := Z2 ++ S) (by simpa using hp) hN i m e (by rw [List.length_append]; omega) hm he (by omega) (by omega) lessF).mono ?_
    rintro x w' ⟨rfl, l, rfl, k1, k2⟩
    exact ⟨rfl, by simpa using k1, hs.trans k2⟩
  · intro h
    refine ⟨?_, hs⟩
    have e0 : A2.length = 0 ∨ Z1.length = 0 := by omega
    rcases e0 with e0 | e0
    · have := List.length_eq_zero_iff.mp e0
      subst this
      simpa using hp
    · have := List.length_eq_zero_iff.mp e0
      subst this
      simpa using hp
  · rintro W ⟨k1, k2⟩ c1 c2
    refine (ih (P := P) (A := A1) (Z := Z1) (S := A2 ++ (Z2 ++ S)) k1 hN (hK.aside k2 hg) hT.fst hg (by omega) (by omega) (by omega) a i md ha hi hmd).mono ?_
    rintro x w' ⟨rfl, l, ⟨C, rfl, hC⟩, k3, k4⟩
    exact ⟨rfl, C, hC, k3, k2.trans k4⟩
  · rintro W ⟨k1, k2⟩ h
    exact ⟨A1 ++ Z1, hT.fst.self (by omega), by simpa using k1, k2⟩
  · rintro W ⟨C, hC, k1, k2⟩ c1 c2
    have hCl := hC.1.length_eq
    rw [List.length_append] at hCl
    refine (ih (P := P ++ C) (A := A2) (Z := Z2) (S := S) (by simpa using k1) hN (hK.aside k2 hg) hT.snd hg (by omega) (by omega) (by omega) md e z (by rw [List.length_append]; omega) (by omega) hz).mono ?_
    rintro x w' ⟨rfl, l, ⟨D, rfl, hD⟩, k3, k4⟩
    exact ⟨rfl, C, D, hC, hD, by simpa using k3, k2.trans k4⟩
  · rintro W ⟨C, hC, k1, k2⟩ h
    exact ⟨C, A2 ++ Z2, hC, hT.snd.self (by omega), by simpa using k1, k2⟩
  · rintro W ⟨C, D, hC, hD, k1, k2⟩
    exact ⟨rfl, _, ⟨C ++ D, by simp, Mrg.halves hC hD hT.a hT.z hX hY⟩, k1, k2⟩

set_option maxHeartbeats 8000000 in
theorem symM_any {w : World} {B b g c N M n : Nat} {κ : Nat → Int} {P A Z S : List Nat} (ih : SymC n) (h : Pr w B b g c N (P ++ (A ++ (Z ++ S)))) (hN : N ≤ 1000000) (hK : Kn w b M κ) (hT : Two κ M A Z) (hg : ¬ b = g) (hn : A.length + Z.length ≤ n + 1) (hA2 : 2 ≤ A.length) (hZ2 : 2 ≤ Z.length)
    (a m z : Nat) (ha : P.length = a) (hm : a + A.length = m) (hz : m + Z.length = z) :
    Calls Tryz.prog 90 #[.slice (some ⟨g, 0, none⟩) N c, .int .i64 a, .int .i64 m, .int .i64 z, lessF] w (PrPost w B b g c N (fun l => ∃ C, l = P ++ (C ++ S) ∧ Mrg κ C (A ++ Z))) := by
  have hlen := h.len
  rw [List.length_append, List.length_append, List.length_append] at hlen
  have hcap := h.cap
  obtain ⟨d, hd⟩ : ∃ d, a + d = m := ⟨_, hm⟩
  obtain ⟨f, hf⟩ : ∃ f, m + f = z := ⟨_, hz⟩
  have w1 : IntKind.i64.wrap ((m : Int) - (a : Int)) = (d : Int) := by rw [IntWalk.i64_in _ (by omega)]; omega
  have v1 : (m : Int) - (a : Int) = (d : Int) := by omega
  have d1 : ¬ (d : Int) = 1 := by omega
  have d2 : ((d : Int) == 1) = false := by simpa using d1
  have w2 : IntKind.i64.wrap ((z : Int) - (m : Int)) = (f : Int) := by rw [IntWalk.i64_in _ (by omega)]; omega
  have v2 : (z : Int) - (m : Int) = (f : Int) := by omega
  have f1 : ¬ (f : Int) = 1 := by omega
  have f2 : ((f : Int) == 1) = false := by simpa using f1
  obtain ⟨md, hmd⟩ : ∃ k, k = (a + z) / 2 := ⟨_, rfl⟩
  have v3 : ((a : Int) + (z : Int)) / 2 = (md : Int) := by omega
  obtain ⟨nn, hnn⟩ : ∃ k, k = md + m := ⟨_, rfl⟩
  have v4 : (md : Int) + (m : Int) = (nn : Int) := by omega
  have w4 : IntKind.i64.wrap ((md : Int) + (m : Int)) = (nn : Int) := by rw [IntWalk.i64_in _ (by omega)]; omega
  obtain ⟨p, hp⟩ : ∃ k, k + 1 = nn := ⟨nn - 1, by omega⟩
  have v5 : (nn : Int) - 1 = (p : Int) := by omega
  have w5 : IntKind.i64.wrap ((nn : Int) - 1) = (p : Int) := by rw [IntWalk.i64_in _ (by omega)]; omega
  obtain ⟨s1, hs1⟩ : ∃ s1 : Nat, (md < m → s1 + z = nn) ∧ (¬ md < m → s1 = a) := by
    by_cases h : md < m
    · exact ⟨nn - z, fun _ => by omega, fun h2 => absurd h h2⟩
    · exact ⟨a, fun h2 => absurd h2 h, fun _ => rfl⟩
  have v6 : md < m → (nn : Int) - (z : Int) = (s1 : Int) := fun h => by have := hs1.1 h; omega
  have H := Lib.hid (And.intro h (And.intro hK hT))
  have hzN : z ≤ N := by omega
  have HN := Lib.hid (And.intro hmd (And.intro hnn (And.intro hp hs1)))
  have HZ := Lib.hid (And.intro ha (And.intro hm (And.intro hz (And.intro hA2 (And.intro hZ2 hn)))))
  clear h hK hT hz hm ha hlen hd hf hmd hnn hp hs1 hA2 hZ2 hn
  unfold lessF
  go_enter Tryz.func90, Tryz.ntmps90
  obtain ⟨r0, hr0, hr1⟩ : ∃ r0 : Nat, (md < m → r0 = md) ∧ (¬ md < m → r0 = m) := by
    by_cases h : md < m
    · exact ⟨md, fun _ => rfl, fun h2 => absurd h h2⟩
    · exact ⟨m, fun h2 => absurd h2 h, fun _ => rfl⟩
  have hR : Rng a m z p s1 r0 := by
    obtain ⟨k1, k2, k3, k4, k5⟩ := HN.out
    obtain ⟨l1, l2, l3, l4, l5, l6⟩ := HZ.out
    by_cases h : md < m
    · have := hr0 h; have := k4 h
      exact ⟨by omega, by omega, by omega, by omega, by omega, by omega, by omega⟩
    · have := hr1 h; have := k5 h
      exact ⟨by omega, by omega, by omega, by omega, by omega, by omega, by omega⟩
  have HR := Lib.hid hR
  have HR0 := Lib.hid (And.intro hr0 hr1)
  have hrN : r0 ≤ N := by have := hR.h3; have := HZ.out; omega
  clear hr0 hr1 hR
  by_cases hmm : md < m
  have v7 := v6 hmm
  have HE := Lib.hid (show (.int .i64 (md : Int) : Value) = .int .i64 (r0 : Int) by rw [HR0.out.1 hmm])
  have HS1 := Lib.hid (show (.int .i64 (s1 : Int) : Value) = .int .i64 (s1 : Int) from rfl)
  clear v6
  focus (try go_wp2)
  clear v7
  rotate_left 1
  have HE := Lib.hid (show (.int .i64 (m : Int) : Value) = .int .i64 (r0 : Int) by rw [HR0.out.2 hmm])
  have HS1 := Lib.hid (show (.int .i64 (a : Int) : Value) = .int .i64 (s1 : Int) by rw [HN.out.2.2.2.2 hmm])
  clear v6
  focus (try go_wp2)
  rotate_left 1
  iterate 2
    · clear v1 v2 v3 v4 v5 w1 w2 w4 w5 d1 d2 f1 f2 hmm
      go_loopg [20, 21] r0 (fun kx s t wr => ∃ i j : Nat, j ≤ i + kx ∧ s1 ≤ i ∧ i ≤ j ∧ j ≤ r0 ∧ s = .int .i64 i ∧ t = .int .i64 j ∧ Hid (Sch κ A Z a m p s1 r0 i j ∧ Pr wr B b g c N (P ++ (A ++ (Z ++ S))) ∧ Aside (fun k => k = g) w wr))
      case atStart => exact ⟨s1, r0, by omega, Nat.le_refl _, HR.out.h2, Nat.le_refl _, by first | rfl | exact HS1.out, HE.out, Lib.hid ⟨Sch.start κ A Z a m p s1 r0, H.out.1, Aside.refl _ _⟩⟩
      case round =>
        obtain ⟨i, j, hk, hsi, hij, hjr, rfl, rfl, HH⟩ := hrel
        by_cases hlt : i < j
        · obtain ⟨hh, hhd⟩ : ∃ k, k = (i + j) / 2 := ⟨_, rfl⟩
          have hd : ((i : Int) + (j : Int)) / 2 = (hh : Int) := by omega
          have h1 : i ≤ hh := by omega
          have h2 : hh < j := by omega
          obtain ⟨r1, r2, r3, r4, r5, r6, r7⟩ := HR.out
          obtain ⟨z1, z2, z3, z4, z5, z6⟩ := HZ.out
          obtain ⟨q, hq⟩ : ∃ q, q + hh = p := ⟨p - hh, by omega⟩
          have lx : hh - a < A.length := by omega
          have ly : p - hh - m < Z.length := by omega
          obtain ⟨x, hx⟩ : ∃ x, A[hh - a]? = some x := ⟨_, List.getElem?_eq_getElem lx⟩
          obtain ⟨y, hy⟩ : ∃ y, Z[p - hh - m]? = some y := ⟨_, List.getElem?_eq_getElem ly⟩
          have c1 := HH.out.2.1.at_ hh (by omega) x (by
            rw [List.getElem?_append_right (by omega), show hh - P.length = hh - a by omega, List.getElem?_append_left lx]; exact hx)
          have c2 := HH.out.2.1.at_ q (by omega) y (by
            rw [List.getElem?_append_right (by omega), List.getElem?_append_right (by omega), show q - P.length - A.length = p - hh - m by omega, List.getElem?_append_left ly]; exact hy)
          have hxA : x ∈ A := List.mem_of_getElem? hx
          have hyZ : y ∈ Z := List.mem_of_getElem? hy
          have hyx : y < x := H.out.2.2.o x hxA y hyZ
          have hL : ∀ n, Calls Tryz.prog 59 #[pe b y, pe b x] (wr.drewN n) fun e w' => e = .returned (.int .i64 (cmpV (κ y) (κ x))) ∧ ∃ q, w' = (wr.drewN n).drewN q := fun n =>
            less_any (N := M) (H.out.2.1.aside (HH.out.2.2.trans (Aside.drewN _ n)) hg) y x (H.out.2.2.mz y hyZ) (H.out.2.2.ma x hxA)
          obtain ⟨r, hr⟩ : ∃ r, cmpV (κ y) (κ x) = r := ⟨_, rfl⟩
          rw [hr] at hL
          have HL := Lib.hid hL
          have HB := Lib.hid (show r < 0 ↔ Bef κ y x by rw [← hr, cmpV_neg, bef_lt hyx])
          have HY := Lib.hid (show y ≠ x ∧ A[hh - a]? = some x ∧ Z[p - hh - m]? = some y from ⟨by omega, hx, hy⟩)
          have HAZ := Lib.hid (And.intro H.out.2.2.a H.out.2.2.z)
          have b1 : hh < N := by omega
          have b2 : q < N := by omega
          have w1 : IntKind.i64.wrap ((p : Int) - (hh : Int)) = (q : Int) := by rw [IntWalk.i64_in _ (by omega)]; omega
          have v1 : (p : Int) - (hh : Int) = (q : Int) := by omega
          have w2 : IntKind.i64.wrap (q : Int) = (q : Int) := IntWalk.i64_in _ (by omega)
          clear hhd hq hx hy hxA hyZ hyx hL hr r1 r2 r3 r4 r5 r6 r7 z1 z2 z3 z4 z5 z6 lx ly
          by_cases hr0 : r < 0
          · unfold pe at HL c1 c2
            go_wp2
            go_quiet ((go_at_call 59; exact Calls.quiet_of (HL.out _)))
            go_wp2
            go_roundg (hh - i)
            case rel => exact ⟨i, hh, by omega, hsi, h1, by omega, rfl, rfl, Lib.hid ⟨HH.out.1.down HR.out HAZ.out.1 HAZ.out.2 (by omega) (by omega) HY.out.2.1 HY.out.2.2 (HB.out.mp hr0), HH.out.2.1, HH.out.2.2.trans (Aside.drewN _ _)⟩⟩
            case measure => omega
          · unfold pe at HL c1 c2
            have hd0 : decide (r < 0) = false := by simpa using hr0
            go_wp2
            go_quiet ((go_at_call 59; exact Calls.quiet_of (HL.out _)))
            go_wp2
            go_roundg (j - (hh + 1))
            case rel => exact ⟨hh + 1, j, by omega, by omega, by omega, hjr, by go_num, rfl, Lib.hid ⟨HH.out.1.up HR.out HAZ.out.1 HAZ.out.2 (by omega) (by omega) HY.out.2.1 HY.out.2.2 (Bef.total HY.out.1 (fun h => by have := HB.out.mpr h; omega)), HH.out.2.1, HH.out.2.2.trans (Aside.drewN _ _)⟩⟩
            case measure => omega
        · obtain rfl : i = j := by omega
          obtain ⟨A1, A2, Z1, Z2, rfl, rfl, l1, l2, hX, hY⟩ := HH.out.1.parts HR.out H.out.2.2.a H.out.2.2.z HZ.out.2.1 HZ.out.2.2.1 hsi hjr
          have hR := HR.out
          obtain ⟨z1, z2, z3, z4, z5, z6⟩ := HZ.out
          obtain ⟨n1, n2, n3, n4⟩ := HN.out
          rw [List.length_append] at z2 z3
          have hj3 := hR.h3
          have hj4 := hR.h4
          obtain ⟨e, he⟩ : ∃ e, e + i = nn := ⟨nn - i, by omega⟩
          obtain ⟨T1, T2, T3, t1, t2, t3, t4, t5, t6, t7⟩ := sym_states ih hN H.out.2.1 H.out.2.2 hg z6 z4 z5 a m z i e md z1 l1 (by omega) (by omega) (by omega) (by omega) n1 HH.out.2.1 HH.out.2.2 hX hY
          have HR1 := Lib.hid t1
          have HR2 := Lib.hid t2
          have HR3 := Lib.hid t3
          have HR4 := Lib.hid t4
          have HR5 := Lib.hid t5
          have HR6 := Lib.hid t6
          have HR7 := Lib.hid t7
          unfold lessF at HR1 HR3 HR5
          have v1 : (nn : Int) - (i : Int) = (e : Int) := by omega
          have hme : i < md ↔ m < e := by omega
          have hde : i < m ↔ md < e := by omega
          have HI := Lib.hid (And.intro hme hde)
          have heN : e ≤ N := by omega
          clear t1 t2 t3 t4 t5 t6 t7 l1 l2 hX hY hR z1 z2 z3 z4 z5 z6 n1 n2 n3 n4 hj3 hj4 he hme hde hk hsi hij hjr hlt
          clear H HH HR HZ HN HR0 HE HS1 ih
          by_cases c1 : i < md <;> by_cases c2 : i < m <;> by_cases c3 : a < i <;> by_cases c4 : e < z
          iterate 16
            · first | (have e1 := HI.out.1.mp c1) | (have e1 := mt HI.out.1.mpr c1)
              first | (have e2 := HI.out.2.mp c2) | (have e2 := mt HI.out.2.mpr c2)
              first | (have hc := Lib.hid (HR1.out c1 c2); go_wp2_with fail; refine hc.out.mono ?_; rintro x wa ⟨rfl, ht⟩; have HT := Lib.hid ht; clear ht hc) | (have HT := Lib.hid (HR2.out (fun h => by first | exact c1 h.1 | exact c2 h.2)))
              first | (have hc := Lib.hid (HR3.out _ HT.out c3 c1); go_wp2_with fail; refine hc.out.mono ?_; rintro x wb ⟨rfl, ht⟩; have HT2 := Lib.hid ht; clear ht hc) | (have HT2 := Lib.hid (HR4.out _ HT.out (fun h => by first | exact c3 h.1 | exact c1 h.2)))
              first | (have hc := Lib.hid (HR5.out _ HT2.out c2 c4); go_wp2_with fail; refine hc.out.mono ?_; rintro x wc ⟨rfl, ht⟩; have HT3 := Lib.hid ht; clear ht hc) | (have HT3 := Lib.hid (HR6.out _ HT2.out (fun h => by first | exact c2 h.1 | exact c4 h.2)))
              go_wp2_with fail
              go_end0
              exact HR7.out _ HT3.out
end Go.Proofs.YteegekpanadmkaaGreat

/-
  A row of pointers in order, those of one kind as they stood.
-/
namespace Go.Proofs.YteegekpanadmkaaGreat
open Go.RowKit Go.Shelf
set_option linter.unusedVariables false
set_option linter.unusedSimpArgs false
set_option maxRecDepth 100000

theorem sym_any : ∀ n, SymC n
  | 0 => fun _ _ _ _ _ hn h1 _ => by omega
  | n + 1 => by
    rename_i w B b g c N M κ P A Z S
    intro h hN hK hT hg hn h1 h2 a m z ha hm hz
    by_cases e1 : A.length = 1
    · obtain ⟨x, rfl⟩ := List.length_eq_one_iff.mp e1
      exact symL_any (P := P) (Z := Z) (S := S) (x := x) h hN hK hT hg a m z ha hm hz
    · by_cases e2 : Z.length = 1
      · obtain ⟨x, rfl⟩ := List.length_eq_one_iff.mp e2
        exact symR_any (P := P) (Z := A) (S := S) (x := x) h hN hK hT hg (by omega) a m z ha hm hz
      · exact symM_any (P := P) (A := A) (Z := Z) (S := S) (sym_any n) h hN hK hT hg hn (by omega) (by omega) a m z ha hm hz

inductive Bks (κ : Nat → Int) (s : Nat) : List Nat → List Nat → Prop
  | nil : Bks κ s [] []
  | cons {D Y C X : List Nat} (h : D.length = s) (hm : Mrg κ D Y) (r : Bks κ s C X) : Bks κ s (D ++ C) (Y ++ X)
theorem Bks.snoc {κ : Nat → Int} {s : Nat} {D Y C X : List Nat} (r : Bks κ s C X) (h : D.length = s) (hm : Mrg κ D Y) : Bks κ s (C ++ D) (X ++ Y) := by
  induction r with
  | nil => have := Bks.cons h hm (Bks.nil (κ := κ) (s := s)); simpa using this
  | cons h2 hm2 _ ih => rw [List.append_assoc, List.append_assoc]; exact .cons h2 hm2 ih
def BksL (κ : Nat → Int) (s : Nat) (L l : List Nat) : Prop := ∃ C D X Y, L = C ++ D ∧ l = X ++ Y ∧ Bks κ s C X ∧ D.length < s ∧ Mrg κ D Y
theorem BksL.len {κ : Nat → Int} {s : Nat} {L l : List Nat} (h : BksL κ s L l) : L.length = l.length := by
  obtain ⟨C, D, X, Y, rfl, rfl, h1, _, h3⟩ := h
  have : C.length = X.length := by
    induction h1 with
    | nil => rfl
    | cons _ hm _ ih => rw [List.length_append, List.length_append, ih, hm.1.length_eq]
  rw [List.length_append, List.length_append, this, h3.1.length_eq]
theorem BksL.first {κ : Nat → Int} {s : Nat} {L l : List Nat} (h : BksL κ s L l) (hs : s ≤ L.length) : ∃ C L' Y l', L = C ++ L' ∧ l = Y ++ l' ∧ C.length = s ∧ Mrg κ C Y ∧ BksL κ s L' l' := by
  obtain ⟨C, D, X, Y, rfl, rfl, h1, h2, h3⟩ := h
  cases h1 with
  | nil => rw [List.length_append] at hs; simp at hs; omega
  | cons h hm r => exact ⟨_, _, _, _, by rw [List.append_assoc], by rw [List.append_assoc], h, hm, _, _, _, _, rfl, rfl, r, h2, h3⟩
theorem BksL.small {κ : Nat → Int} {s : Nat} {L l : List Nat} (h : BksL κ s L l) (h0 : 0 < s) (hs : L.length ≤ s) : Mrg κ L l := by
  by_cases h1 : s ≤ L.length
  · obtain ⟨C, L', Y, l', rfl, rfl, h2, h3, h4⟩ := h.first h1
    have := h4.len
    rw [List.length_append] at hs
    have e1 : L' = [] := List.length_eq_zero_iff.mp (by omega)
    have e2 : l' = [] := List.length_eq_zero_iff.mp (by rw [← this, e1]; rfl)
    subst e1; subst e2
    simpa using h3
  · obtain ⟨C, D, X, Y, rfl, rfl, k1, k2, k3⟩ := h
    cases k1 with
    | nil => exact k3
    | cons h hm r => rw [List.length_append, List.length_append] at h1; omega
theorem two_of {κ : Nat → Int} {M : Nat} {C1 C2 Y1 Y2 X1 X2 : List Nat} (hd : Dns (X1 ++ (Y1 ++ (Y2 ++ X2)))) (hM : ∀ x ∈ X1 ++ (Y1 ++ (Y2 ++ X2)), x < M) (h1 : Mrg κ C1 Y1) (h2 : Mrg κ C2 Y2) : Two κ M C1 C2 := by
  have k1 := (Dns.app.mp (Dns.app.mp hd).2.1).2.2
  exact ⟨h1.2, h2.2, (k1.sub (l' := Y1) (m' := Y2) (fun _ h => h) (fun x h => by simp [h])).perm h1.1 h2.1, fun x hx => hM x (by have := h1.1.mem_iff.mp hx; simp [this]), fun x hx => hM x (by have := h2.1.mem_iff.mp hx; simp [this])⟩
theorem mrg_two {κ : Nat → Int} {C C1 C2 Y1 Y2 : List Nat} (h : Mrg κ C (C1 ++ C2)) (h1 : Mrg κ C1 Y1) (h2 : Mrg κ C2 Y2) : Mrg κ C (Y1 ++ Y2) := ⟨h.1.trans (h1.1.append h2.1), h.2⟩

set_option maxHeartbeats 2000000 in
theorem stable_any {w : World} {B b g c N M : Nat} {κ : Nat → Int} {l : List Nat} (h : Pr w B b g c N l) (hN : N ≤ 100000) (hK : Kn w b M κ) (hM : ∀ x ∈ l, x < M) (hd : Dns l) (hg : ¬ b = g) :
    Calls Tryz.prog 78 #[.slice (some ⟨g, 0, none⟩) N c, .int .i64 N, lessF] w (PrPost w B b g c N (fun C => Mrg κ C l)) := by
  have hlen := h.len
  have H := Lib.hid (And.intro h (And.intro hK (And.intro hM hd)))
  have HL := Lib.hid hlen
  clear h hK hM hd hlen
  unfold lessF
  go_enter Tryz.func78, Tryz.ntmps78
  go_wp2
  go_loopg [7, 8] N (fun kx s t wr => ∃ (a q : Nat) (C R X : List Nat), N ≤ a + kx ∧ a ≤ N ∧ a + 20 = q ∧ s = .int .i64 a ∧ t = .int .i64 q ∧ Hid (l = X ++ R ∧ C.length = a ∧ Bks κ 20 C X ∧ Pr wr B b g c N (C ++ R) ∧ Aside (fun k => k = g) w wr))
  case atStart => exact ⟨0, 20, [], l, [], by omega, by omega, rfl, rfl, rfl, Lib.hid ⟨rfl, rfl, .nil, H.out.1, Aside.refl _ _⟩⟩
  case round =>
    obtain ⟨a, q, C, R, X, hk, haN, hq, rfl, rfl, HH⟩ := hrel
    obtain ⟨k1, k2, k3, k4, k5⟩ := HH.out
    have hRl : a + R.length = N := by have := k4.len; rw [List.length_append] at this; omega
    by_cases hlt : q ≤ N
    · obtain ⟨Y, R2, rfl, hY⟩ : ∃ U V, R = U ++ V ∧ U.length = 20 := ⟨R.take 20, R.drop 20, (List.take_append_drop _ _).symm, by simp; omega⟩
      have hM := H.out.2.2.1
      have hd := H.out.2.2.2
      rw [k1] at hM hd
      have HC := Lib.hid (insert_any (P := C) (X := Y) (S := R2) k4 (by omega) (H.out.2.1.aside k5 hg) (fun x hx => hM x (by simp [hx])) (Dns.app.mp (Dns.app.mp hd).2.1).1 hg a q k2 (by omega))
      unfold lessF at HC
      have HQ := Lib.hid (And.intro hq hRl)
      clear k1 k2 k3 k4 k5 hq hRl hM hd
      go_wp2_with fail
      refine HC.out.mono ?_; rintro e wa ⟨rfl, l1, ⟨D, rfl, hD⟩, hp, hs⟩
      have HP := Lib.hid (And.intro hD (And.intro hp hs))
      clear hD hp hs
      go_wp2_with fail
      go_roundg (N - q)
      case rel =>
        obtain ⟨k1, k2, k3, k4, k5⟩ := HH.out
        have := HQ.out
        have hDl := HP.out.1.1.length_eq
        exact ⟨q, q + 20, C ++ D, R2, X ++ Y, by omega, by omega, rfl, rfl, by go_num, Lib.hid ⟨by rw [k1]; simp, by rw [List.length_append]; omega, k3.snoc (by omega) HP.out.1, by simpa using HP.out.2.1, k5.trans HP.out.2.2⟩⟩
      case measure => have := HQ.out; omega
    · have hM := H.out.2.2.1
      have hd := H.out.2.2.2
      rw [k1] at hM hd
      have HC := Lib.hid (insert_any (P := C) (X := R) (S := []) (by simpa using k4) (by omega) (H.out.2.1.aside k5 hg) (fun x hx => hM x (by simp [hx])) (Dns.app.mp hd).2.1 hg a N k2 hRl)
      unfold lessF at HC
      have hR20 : R.length < 20 := by omega
      have HQ := Lib.hid (And.intro hR20 (And.intro k1 (And.intro k3 k5)))
      clear k1 k2 k3 k4 k5 hR20 hRl hM hd HH hq hk
      go_wp2_with fail
      refine HC.out.mono ?_; rintro e wa ⟨rfl, l1, ⟨D, rfl, hD⟩, hp, hs⟩
      have HP := Lib.hid (show BksL κ 20 (C ++ D) l ∧ Pr wa B b g c N (C ++ D) ∧ Aside (fun k => k = g) w wa from
        ⟨⟨C, D, X, R, rfl, HQ.out.2.1, HQ.out.2.2.1, by have := HQ.out.1; have := hD.1.length_eq; omega, hD⟩, by simpa using hp, HQ.out.2.2.2.trans hs⟩)
      clear hD hp hs HC HQ
      go_wp2_with fail
      go_loopg [6] (2 * N + 21) (fun kx s wr => ∃ (n : Nat) (L : List Nat), n + kx = 2 * N + 41 ∧ 20 ≤ n ∧ n ≤ 2 * N + 20 ∧ s = .int .i64 n ∧ Hid (BksL κ n L l ∧ Pr wr B b g c N L ∧ Aside (fun k => k = g) w wr))
      case atStart => exact ⟨20, C ++ D, by omega, Nat.le_refl _, by omega, rfl, HP⟩
      case round =>
        clear HP
        obtain ⟨n, L, hk, hn, hn2, rfl, HP⟩ := hrel
        by_cases hlt : n < N
        · go_wp2
          rename_i gk0 _ _
          go_loopg [7, 8] N (fun ky s t wy => ∃ (a q : Nat) (E F X1 X2 : List Nat), N ≤ a + ky ∧ a ≤ N ∧ a + 2 * n = q ∧ s = .int .i64 a ∧ t = .int .i64 q ∧ Hid (l = X1 ++ X2 ∧ E.length = a ∧ Bks κ (2 * n) E X1 ∧ BksL κ n F X2 ∧ Pr wy B b g c N (E ++ F) ∧ Aside (fun k => k = g) w wy))
          case atStart => exact ⟨0, 2 * n, [], L, [], l, by omega, by omega, by omega, rfl, by simp, Lib.hid ⟨rfl, rfl, .nil, HP.out.1, HP.out.2.1, HP.out.2.2⟩⟩
          case round =>
            clear HP
            obtain ⟨a, q, E, F, X1, X2, hky, haN, hq, rfl, rfl, HH⟩ := hrel
            obtain ⟨k1, k2, k3, k4, k5, k6⟩ := HH.out
            have hFl : a + F.length = N := by have := k5.len; rw [List.length_append] at this; omega
            have hM := H.out.2.2.1
            have hd := H.out.2.2.2
            rw [k1] at hM hd
            obtain ⟨m, hm⟩ : ∃ m, m = a + n := ⟨_, rfl⟩
            by_cases hlq : q ≤ N
            · obtain ⟨C1, F1, Y1, X3, rfl, rfl, l1, l2, l3⟩ := k4.first (by omega)
              rw [List.length_append] at hFl
              obtain ⟨C2, F2, Y2, X4, rfl, rfl, g1, g2, g3⟩ := l3.first (by omega)
              have HC := Lib.hid (sym_any _ (P := E) (A := C1) (Z := C2) (S := F2) (by simpa using k5) (by omega) (H.out.2.1.aside k6 hg) (two_of hd hM l2 g2) hg (Nat.le_refl _) (by omega) (by omega) a m q k2 (by omega) (by omega))
              unfold lessF at HC
              have HQ := Lib.hid (And.intro hm (And.intro hq (And.intro k1 (And.intro k2 (And.intro k3 (And.intro k6 (And.intro l1 (And.intro l2 (And.intro g1 (And.intro g2 g3))))))))))
              have v1 : (a : Int) + (n : Int) = (m : Int) := by omega
              clear k1 k2 k3 k4 k5 k6 l1 l2 l3 g1 g2 g3 hm hFl hM hd HH hq
              go_wp2_with fail
              refine HC.out.mono ?_; rintro e wb ⟨rfl, l1, ⟨D, rfl, hD⟩, hp, hs⟩
              have HP := Lib.hid (And.intro hD (And.intro hp hs))
              clear hD hp hs HC v1
              go_wp2_with fail
              go_roundg (N - q)
              case rel =>
                obtain ⟨hm, hq, k1, k2, k3, k6, l1, l2, g1, g2, g3⟩ := HQ.out
                have hDl := HP.out.1.1.length_eq
                rw [List.length_append] at hDl
                exact ⟨q, q + 2 * n, E ++ D, F2, X1 ++ (Y1 ++ Y2), X4, by omega, by omega, rfl, rfl, by simp, Lib.hid ⟨by rw [k1]; simp, by rw [List.length_append]; omega, k3.snoc (by omega) (mrg_two HP.out.1 l2 g2), g3, by simpa using HP.out.2.1, k6.trans HP.out.2.2⟩⟩
              case measure => have := HQ.out.2.1; omega
            · have v1 : (a : Int) + (n : Int) = (m : Int) := by omega
              by_cases hmN : m < N
              · obtain ⟨C1, F1, Y1, X3, rfl, rfl, l1, l2, l3⟩ := k4.first (by omega)
                rw [List.length_append] at hFl
                have g2 := l3.small (by omega) (by omega)
                have HC := Lib.hid (sym_any _ (P := E) (A := C1) (Z := F1) (S := []) (by simpa using k5) (by omega) (H.out.2.1.aside k6 hg) (two_of (X2 := []) (by simpa using hd) (by simpa using hM) l2 g2) hg (Nat.le_refl _) (by omega) (by omega) a m N k2 (by omega) (by omega))
                unfold lessF at HC
                have HQ := Lib.hid (And.intro hm (And.intro hq (And.intro k1 (And.intro k2 (And.intro k3 (And.intro k6 (And.intro l1 (And.intro l2 (And.intro g2 hFl)))))))))
                clear k1 k2 k3 k4 k5 k6 l1 l2 l3 g2 hm hFl hM hd HH hq
                go_wp2_with fail
                refine HC.out.mono ?_; rintro e wb ⟨rfl, l1, ⟨D, rfl, hD⟩, hp, hs⟩
                have HP := Lib.hid (And.intro hD (And.intro hp hs))
                clear hD hp hs HC v1
                go_wp2_with fail
                go_roundg (2 * N + 41 - 2 * n)
                case rel =>
                  obtain ⟨hm, hq, k1, k2, k3, k6, l1, l2, g2, hFl⟩ := HQ.out
                  have hDl := HP.out.1.1.length_eq
                  rw [List.length_append] at hDl
                  exact ⟨2 * n, E ++ D, by omega, by omega, by omega, by simp; omega, Lib.hid ⟨⟨E, D, X1, Y1 ++ X3, rfl, k1, k3, by omega, mrg_two HP.out.1 l2 g2⟩, by simpa using HP.out.2.1, k6.trans HP.out.2.2⟩⟩
                case measure => omega
              · have HQ := Lib.hid (show BksL κ (2 * n) (E ++ F) l ∧ Pr wr B b g c N (E ++ F) ∧ Aside (fun k => k = g) w wr from ⟨⟨E, F, X1, X2, rfl, k1, k3, by omega, k4.small (by omega) (by omega)⟩, k5, k6⟩)
                clear k1 k2 k3 k4 k5 k6 hm hFl hM hd HH hq
                go_wp2_with fail
                clear v1
                go_roundg (2 * N + 41 - 2 * n)
                case rel => exact ⟨2 * n, E ++ F, by omega, by omega, by omega, by simp; omega, HQ⟩
                case measure => omega
        · go_wp2
          go_end0
          obtain ⟨k1, k2, k3⟩ := HP.out
          exact ⟨rfl, L, k1.small (by omega) (by rw [k2.len]; omega), k2, k3⟩
end Go.Proofs.YteegekpanadmkaaGreat

/-
  A row of pointers in order, and none.
-/
namespace Go.Proofs.YteegekpanadmkaaGreat
open Go.RowKit Go.Shelf
set_option linter.unusedVariables false
set_option linter.unusedSimpArgs false
set_option maxRecDepth 100000

set_option maxHeartbeats 400000 in
theorem sort_any {w : World} {B b g c N M : Nat} {κ : Nat → Int} {l : List Nat} (h : Pr w B b g c N l) (hN : N ≤ 100000) (hK : Kn w b M κ) (hM : ∀ x ∈ l, x < M) (hd : Dns l) (hg : ¬ b = g) :
    Calls Tryz.prog 58 #[.slice (some ⟨g, 0, none⟩) N c, lessF] w (PrPost w B b g c N (fun C => Mrg κ C l)) := by
  have HC := Lib.hid (stable_any h hN hK hM hd hg)
  clear h hK hM hd
  unfold lessF at *
  go_enter Tryz.func58, Tryz.ntmps58
  go_wp2_with fail
  refine HC.out.mono ?_; rintro e wa ⟨rfl, hl⟩
  go_wp2_with fail
  go_end0
  exact ⟨rfl, hl⟩
set_option maxHeartbeats 400000 in
theorem ins0_any (w : World) : Calls Tryz.prog 89 #[.slice none 0 0, .int .i64 0, .int .i64 0, lessF] w fun e w' => e = .returned (.tuple #[]) ∧ w' = w := by
  unfold lessF
  go_enter Tryz.func89, Tryz.ntmps89
  go_wp2
  refine wp_loop_rounds 1 ?_
  rw [rounds_succ]
  go_wp2
  go_end0
  exact ⟨rfl, rfl⟩
set_option maxHeartbeats 400000 in
theorem stable0_any (w : World) : Calls Tryz.prog 78 #[.slice none 0 0, .int .i64 0, lessF] w fun e w' => e = .returned (.tuple #[]) ∧ w' = w := by
  have HC := Lib.hid (ins0_any w)
  unfold lessF at *
  go_enter Tryz.func78, Tryz.ntmps78
  go_wp2
  refine wp_loop_rounds 1 ?_
  rw [rounds_succ]
  go_wp2_with fail
  refine HC.out.mono ?_; rintro e wa ⟨rfl, rfl⟩
  go_wp2_with fail
  refine wp_loop_rounds 1 ?_
  rw [rounds_succ]
  go_wp2
  go_end0
  exact ⟨rfl, rfl⟩
set_option maxHeartbeats 400000 in
theorem sort0_any (w : World) : Calls Tryz.prog 58 #[.slice none 0 0, lessF] w fun e w' => e = .returned (.tuple #[]) ∧ w' = w := by
  have HC := Lib.hid (stable0_any w)
  unfold lessF at *
  go_enter Tryz.func58, Tryz.ntmps58
  go_wp2_with fail
  refine HC.out.mono ?_; rintro e wa ⟨rfl, rfl⟩
  go_wp2_with fail
  go_end0
  exact ⟨rfl, rfl⟩
set_option maxHeartbeats 400000 in
theorem rev0_any (w : World) : Calls Tryz.prog 57 #[.slice none 0 0] w fun e w' => e = .returned (.tuple #[]) ∧ w' = w := by
  go_enter Tryz.func57, Tryz.ntmps57
  go_wp2
  refine wp_loop_rounds 1 ?_
  rw [rounds_succ]
  go_wp2
  go_end0
  exact ⟨rfl, rfl⟩
end Go.Proofs.YteegekpanadmkaaGreat
