/-
  Messages, plainly: whether one may be, its bytes, and that what is written stands.
-/
import Derived.Test.YtdikgjbpjdnodaaGreatT15
import Derived.Test.YtdikgjbpjdnodaaGreatT14
import Derived.Laws.MakeOwn
import Derived.Laws.OwnMore
import Derived.Test.YtdikgjbpjdnodaaGreatT10
import Derived.Deep.Slices
import Derived.Deep.LoopGhost
import Derived.ChangeArms
import Derived.Outline
import Derived.Laws.StructEq
import Derived.Test.YtdikgjbpjdnodaaGreatT02
namespace Go.Proofs.YtdikgjbpjdnodaaGreat
open Go.RowKit Go.Shelf
set_option linter.unusedVariables false
set_option linter.unusedSimpArgs false
set_option maxRecDepth 100000

/-- What is written stands, if all of it can be written. -/
theorem wr_back2 (a : Nat) : ∀ (L : List Pc) (b : List UInt8) (K : KK) (e : Nat) (P : KK) (acc : List UInt8), Inv b K e P → (∀ x ∈ L, x.2 = true → chk x.1 = 0) → b.length = a + acc.length → b.length + (joined L).length ≤ 1000000000 →
    (wrL a L K e acc).code = 0 →
    ∃ out K' e' P', wrL a L K e acc = ⟨acc ++ out, 0, K', e'⟩ ∧ out.length ≤ (joined L).length ∧ Inv (b ++ out) K' e' P' ∧ Lies (b ++ out) b.length L (b.length + out.length)
  | [], b, K, e, P, acc, hI, _, hb, hl, _ => ⟨[], K, e, P, by rw [wrL, List.append_nil], by simp, by rw [List.append_nil]; exact hI, by rw [List.append_nil]; exact .nil (Nat.le_refl _)⟩
  | (x, false) :: L, b, K, e, P, acc, hI, hc, hb, hl, h0 => by
    rw [joined_cons, List.length_append] at hl
    have hl' : b.length + (x.length + (joined L).length) ≤ 1000000000 := hl
    have h0' : (wrL a L K e (acc ++ x)).code = 0 := by rw [wrL] at h0; exact h0
    obtain ⟨out, K', e', P', h1, h2, h3, h4⟩ := wr_back2 a L (b ++ x) K e P (acc ++ x) (hI.more x) (fun y hy => hc y (by simp [hy])) (by rw [List.length_append, List.length_append]; omega) (by rw [List.length_append]; omega) h0'
    refine ⟨x ++ out, K', e', P', ?_, ?_, ?_, ?_⟩
    · rw [wrL]
      show wrL a L K e (acc ++ x) = _
      rw [h1, List.append_assoc]
    · rw [joined_cons, List.length_append, List.length_append]
      show x.length + out.length ≤ x.length + _
      omega
    · rw [← List.append_assoc]; exact h3
    · rw [← List.append_assoc]
      rw [List.length_append] at h4
      refine .byt ?_ (by simp) (by rw [List.length_append, ← Nat.add_assoc]; exact h4)
      rw [List.append_assoc, List.drop_left, List.take_left]
  | (x, true) :: L, b, K, e, P, acc, hI, hc, hb, hl, h0 => by
    rw [joined_cons, List.length_append] at hl
    have hl' : b.length + (x.length + (joined L).length) ≤ 1000000000 := hl
    obtain ⟨hs, hx⟩ := shorts_of (hc (x, true) (by simp) rfl)
    have hx : x = nm (labs x) := hx
    obtain ⟨ls, hls⟩ : ∃ ls, labs x = ls := ⟨_, rfl⟩
    rw [hls] at hs hx
    subst hx
    have hw : wrap64 ((a : Int) + acc.length) = ((b.length : Nat) : Int) := by rw [IntWalk.wrap64_in _ ⟨by omega, by omega⟩]; omega
    have hla := hI.last
    have hE : pkE e b.length (nm ls) = 0 := by
      rw [wrL, if_pos rfl] at h0
      simp only at h0
      rw [hw] at h0
      by_cases hE : pkE e b.length (nm ls) = 0
      · exact hE
      · rw [if_pos hE] at h0; exact absurd h0 hE
    have e1 : nameB K e b.length (nm ls) = told K ls := by unfold nameB; rw [if_pos hE, show labs (nm ls) = ls from shorts_labs hs]
    have e2 : nameK K e b.length (nm ls) = K ++ fr b.length ls (hdn K ls) := by unfold nameK; rw [if_pos hE, show labs (nm ls) = ls from shorts_labs hs, Int.toNat_natCast]
    have e3 : nameE K e b.length (nm ls) = b.length + (told K ls).length := by unfold nameE; rw [if_pos hE, show labs (nm ls) = ls from shorts_labs hs, Int.toNat_natCast]
    have htl := told_le hI.good hs
    have hstep : wrL a ((nm ls, true) :: L) K e acc = wrL a L (K ++ fr b.length ls (hdn K ls)) (b.length + (told K ls).length) (acc ++ told K ls) := by
      rw [wrL, if_pos rfl]
      simp only
      rw [hw, if_neg (by simpa using hE), e1, e2, e3]
    rw [hstep] at h0 ⊢
    obtain ⟨out, K', e', P', h1, h2, h3, h4⟩ := wr_back2 a L (b ++ told K ls) (K ++ fr b.length ls (hdn K ls)) (b.length + (told K ls).length) _ (acc ++ told K ls) (hI.tell hs) (fun y hy => hc y (by simp [hy])) (by rw [List.length_append, List.length_append]; omega) (by rw [List.length_append]; omega) h0
    refine ⟨told K ls ++ out, K', e', P', ?_, ?_, ?_, ?_⟩
    · rw [h1, List.append_assoc]
    · rw [joined_cons, List.length_append, List.length_append]
      show (told K ls).length + out.length ≤ (nm ls).length + _
      omega
    · rw [← List.append_assoc]; exact h3
    · rw [← List.append_assoc]
      rw [List.length_append] at h4
      have hst := toldE_rd hI hs (hdn K ls) 0 (by omega) b.length (Nat.le_refl _)
      rw [pos_zero, Nat.add_zero, List.drop_zero] at hst
      exact .nam hs (hst.more out) (by rw [List.length_append, ← Nat.add_assoc]; exact h4)

/-- A record that is written stands, whatever its length. -/
theorem write_lies2 {b : List UInt8} {K : KK} {e : Nat} {P : KK} (hI : Inv b K e P) {x : Rc} (hx : chkC x = 0) (hb : b.length ≤ 65535) (h0 : (wrC b.length x K e).code = 0) :
    ∃ out K' e' P' i, wrC b.length x K e = ⟨out, 0, K', e'⟩ ∧ out.length ≤ 265 + x.d.length ∧ Inv (b ++ out) K' e' P' ∧ LiesQ (b ++ out) b.length x i ∧ LiesR (b ++ out) b.length x i (b.length + out.length) := by
  obtain ⟨hak, l0, l1, hsp⟩ := chkC_ok hx
  obtain ⟨hc, t0, t1, c0, c1⟩ := askE_ok hak
  obtain ⟨ls, hs, hn, hE, hB, hI1, hst, hle⟩ := name_lies hI hc (by omega)
  have hn255 := (chk_pos hc).2
  obtain ⟨L, hL⟩ := code_ok hsp
  obtain ⟨_, _, hd, hf, hj⟩ := spl_ok hL
  obtain ⟨T, hT⟩ : ∃ T, told K ls = T := ⟨_, rfl⟩
  rw [hT] at hB hI1 hst hle
  have hl : (b ++ T).length = b.length + T.length := List.length_append
  obtain ⟨K1, hK1⟩ : ∃ K1, nameK K e b.length x.n = K1 := ⟨_, rfl⟩
  obtain ⟨e1, he1⟩ : ∃ e1, nameE K e b.length x.n = e1 := ⟨_, rfl⟩
  rw [hK1, he1] at hI1
  obtain ⟨R, hR⟩ : ∃ R, wrR ((b.length : Int) + T.length + 10) x.t x.d K1 e1 = R := ⟨_, rfl⟩
  have hw : wrC b.length x K e = wrT T x.t x.c x.l R := by
    unfold wrC
    rw [if_neg (by simpa using hx), if_neg (by simpa using hE), hB, hK1, he1, hR]
  obtain ⟨H, hH⟩ : ∃ H, headB x.t x.c x.l R.out.length = H := ⟨_, rfl⟩
  have hHl : H.length = 10 := by rw [← hH]; exact headB_len _ _ _ _
  have h2l : (b ++ T ++ H).length = b.length + T.length + 10 := by rw [List.length_append, hl, hHl]
  have hRL : R = wrL ((b.length + T.length + 10 : Nat) : Int) L K1 e1 [] := by
    rw [← hR]
    unfold wrR
    rw [hL]
    show wrL _ L K1 e1 [] = _
    rw [show ((b.length : Int) + T.length + 10) = ((b.length + T.length + 10 : Nat) : Int) by push_cast; rfl]
  have hR0 : (wrL ((b.length + T.length + 10 : Nat) : Int) L K1 e1 []).code = 0 := by
    rw [hw] at h0
    unfold wrT at h0
    by_cases hc : R.code = 0
    · rw [← hRL]; exact hc
    · rw [if_pos hc] at h0; exact absurd h0 hc
  obtain ⟨out, K', e', P', w1, w2, w3, w4⟩ := wr_back2 (b.length + T.length + 10) L (b ++ T ++ H) K1 e1 _ [] (hI1.more H) (fits_nam hf) (by rw [h2l]; simp) (by rw [h2l, hj]; omega) hR0
  have hRe : R = ⟨out, 0, K', e'⟩ := by rw [hRL, w1]; rfl
  have hRo : R.out = out := by rw [hRe]
  have hRc : R.code = 0 := by rw [hRe]
  rw [hj] at w2
  rw [hRo] at hH
  have hq : out.length ≤ 65535 := by omega
  have eo : b ++ (T ++ (H ++ out)) = b ++ T ++ H ++ out := by simp
  refine ⟨T ++ (H ++ out), K', e', P', b.length + T.length, ?_, ?_, ?_, ?_, ?_⟩
  · rw [hw]; unfold wrT; rw [hRe, if_neg (by simp)]
    simp only [hH]
  · rw [List.length_append, List.length_append, hHl]; omega
  · rw [eo]; exact w3
  · refine ⟨ls, hs, hn, ?_, ?_, ?_, ?_⟩
    · rw [eo]; exact (hst.more H).more out
    · rw [eo, List.length_append, h2l]; omega
    · have h := at2 (b ++ T) (two x.c ++ (four x.l ++ (two (out.length : Int) ++ out))) x.t t0 t1
      rw [hl] at h
      rw [← h, eo, ← hH]
      congr 2
      unfold headB
      simp
    · have h := at2 (b ++ T ++ two x.t) (four x.l ++ (two (out.length : Int) ++ out)) x.c c0 c1
      rw [List.length_append, hl, two_len] at h
      rw [← h, eo, ← hH]
      congr 2
      unfold headB
      simp
  · refine ⟨?_, ?_, out.length, L, ?_, hq, hL, ?_, ?_⟩
    · rw [eo, List.length_append, h2l]; omega
    · have h := at4 (b ++ T ++ two x.t ++ two x.c) (two (out.length : Int) ++ out) x.l l0 (by omega)
      rw [List.length_append, List.length_append, hl, two_len, two_len] at h
      rw [← h, eo, ← hH]
      congr 2
      unfold headB
      simp
    · have h := at2 (b ++ T ++ two x.t ++ two x.c ++ four x.l) out (out.length : Int) (by omega) (by omega)
      rw [List.length_append, List.length_append, List.length_append, hl, two_len, two_len, four_len] at h
      rw [← h, eo, ← hH]
      congr 2
      unfold headB
      simp
    · rw [eo]
      rw [h2l] at w4
      exact w4
    · rw [List.length_append, List.length_append, hHl]; omega

/-- A question. -/
structure Qn where
  n : List UInt8
  t : Int
  c : Int

/-- What stands in a message, one behind the other: questions, records. -/
inductive It where
  | q (x : Qn)
  | r (x : Rc)

def Qn.rc (x : Qn) : Rc := ⟨x.n, x.t, x.c, 0, []⟩

/-- A message. -/
structure Ms where
  id : Int
  fl : Int
  q : List Qn
  an : List Rc
  ns : List Rc
  ar : List Rc

def It.err : It → Int
  | .q x => askE x.n x.t x.c
  | .r x => chkC x

/-- The first error of some. -/
def fst0 : List Int → Int
  | [] => 0
  | e :: l => if e ≠ 0 then e else fst0 l

theorem fst0_zero : ∀ {l : List Int}, fst0 l = 0 → ∀ e ∈ l, e = 0
  | [], _, e, h => by simp at h
  | a :: l, h, e, he => by
    unfold fst0 at h
    split at h
    · rename_i h1; exact absurd h h1
    · rename_i h1
      rcases List.mem_cons.mp he with rfl | he
      · simpa using h1
      · exact fst0_zero h e he
theorem fst0_app (l l' : List Int) : fst0 (l ++ l') = if fst0 l ≠ 0 then fst0 l else fst0 l' := by
  induction l with
  | nil => simp [fst0]
  | cons a l ih =>
    have e1 : fst0 (a :: (l ++ l')) = if a ≠ 0 then a else fst0 (l ++ l') := by rw [fst0]
    have e2 : fst0 (a :: l) = if a ≠ 0 then a else fst0 l := by rw [fst0]
    rw [List.cons_append, e1, e2, ih]
    by_cases h : a = 0
    · subst h; simp
    · simp [h]

/-- All that stands in a message. -/
def Ms.its (m : Ms) : List It := m.q.map .q ++ (m.an.map .r ++ (m.ns.map .r ++ m.ar.map .r))

/-- Why a message may not be. -/
def chkM (m : Ms) : Int :=
  if m.id < 0 ∨ 65535 < m.id ∨ m.fl < 0 ∨ 65535 < m.fl then 5
  else if 65535 < m.q.length ∨ 65535 < m.an.length ∨ 65535 < m.ns.length ∨ 65535 < m.ar.length then 3
  else fst0 (m.its.map It.err)

/-- The bytes ahead of all. -/
def headM (m : Ms) : List UInt8 := two m.id ++ (two m.fl ++ (two m.q.length ++ (two m.an.length ++ (two m.ns.length ++ two m.ar.length))))

theorem headM_len (m : Ms) : (headM m).length = 12 := rfl

/-- One of these, at the end of the bytes so far. -/
def wrI (b : List UInt8) (K : KK) (e : Nat) : It → WR
  | .q x => askW b.length x.n x.t x.c K e
  | .r x => wrC b.length x K e

/-- All of them; none, if they are too long. -/
def wrIs : List It → List UInt8 → KK → Nat → Option (List UInt8)
  | [], b, _, _ => some b
  | it :: l, b, K, e => if (wrI b K e it).code ≠ 0 ∨ 65535 < (b ++ (wrI b K e it).out).length then none else wrIs l (b ++ (wrI b K e it).out) (wrI b K e it).K (wrI b K e it).e

/-- A message's bytes, or the error. -/
def wrM (m : Ms) : Option (List UInt8) × Int :=
  if chkM m ≠ 0 then (none, chkM m) else match wrIs m.its (headM m) [] 0 with | some z => (some z, 0) | none => (none, 3)

/-- One of these stands from p up to en. -/
def LiesI (b : List UInt8) (p : Nat) : It → Nat → Prop
  | .q x, en => ∃ i, LiesQ b p x.rc i ∧ en = i + 4
  | .r x, en => ∃ i, LiesQ b p x i ∧ LiesR b p x i en

inductive LiesIs (b : List UInt8) : Nat → List It → Nat → Prop
  | nil {p : Nat} : LiesIs b p [] p
  | cons {p q en : Nat} {it : It} {l : List It} (h : LiesI b p it q) (r : LiesIs b q l en) : LiesIs b p (it :: l) en

theorem LiesI.more {b : List UInt8} {p : Nat} {it : It} {en : Nat} (h : LiesI b p it en) (c : List UInt8) : LiesI (b ++ c) p it en := by
  cases it with
  | q x => obtain ⟨i, h1, h2⟩ := h; exact ⟨i, h1.more c, h2⟩
  | r x => obtain ⟨i, h1, h2⟩ := h; exact ⟨i, h1.more c, h2.more c⟩

theorem LiesIs.more {b : List UInt8} {p : Nat} {l : List It} {en : Nat} (h : LiesIs b p l en) (c : List UInt8) : LiesIs (b ++ c) p l en := by
  induction h with
  | nil => exact .nil
  | cons h _ ih => exact .cons (h.more c) ih

theorem LiesIs.app {b : List UInt8} : ∀ {l l' : List It} {p en : Nat}, LiesIs b p (l ++ l') en → ∃ q, LiesIs b p l q ∧ LiesIs b q l' en
  | [], l', p, en, h => ⟨p, .nil, h⟩
  | it :: l, l', p, en, h => by
    cases h with
    | cons h r =>
      obtain ⟨q, h1, h2⟩ := LiesIs.app r
      exact ⟨q, .cons h h1, h2⟩

/-- One that is written stands. -/
theorem wrI_lies {b : List UInt8} {K : KK} {e : Nat} {P : KK} (hI : Inv b K e P) {it : It} (hx : it.err = 0) (hb : b.length ≤ 65535) (h0 : (wrI b K e it).code = 0) :
    ∃ P', Inv (b ++ (wrI b K e it).out) (wrI b K e it).K (wrI b K e it).e P' ∧ LiesI (b ++ (wrI b K e it).out) b.length it (b ++ (wrI b K e it).out).length := by
  cases it with
  | q x =>
    obtain ⟨out, K', e', P', i, h1, _, h2, h3, h4, _⟩ := ask_lies hI (x := x.rc) hx hb
    have h1' : wrI b K e (.q x) = ⟨out, 0, K', e'⟩ := h1
    rw [h1']
    exact ⟨P', h2, i, h3, by rw [List.length_append]; exact h4⟩
  | r x =>
    obtain ⟨out, K', e', P', i, h1, _, h2, h3, h4⟩ := write_lies2 hI (x := x) hx hb h0
    have h1' : wrI b K e (.r x) = ⟨out, 0, K', e'⟩ := h1
    rw [h1']
    exact ⟨P', h2, i, h3, by rw [List.length_append]; exact h4⟩

/-- All that is written stands. -/
theorem wrIs_lies : ∀ {l : List It} {b : List UInt8} {K : KK} {e : Nat} {P : KK} {z : List UInt8}, Inv b K e P → (∀ it ∈ l, it.err = 0) → b.length ≤ 65535 → wrIs l b K e = some z →
    ∃ c, z = b ++ c ∧ z.length ≤ 65535 ∧ LiesIs z b.length l z.length
  | [], b, K, e, P, z, hI, _, hb, h => by
    injection h with h
    exact ⟨[], by rw [List.append_nil, h], by rw [← h]; exact hb, by rw [h]; exact .nil⟩
  | it :: l, b, K, e, P, z, hI, hx, hb, h => by
    rw [wrIs] at h
    split at h
    · simp at h
    · rename_i hn
      have h0 : (wrI b K e it).code = 0 := Classical.byContradiction fun h => hn (.inl h)
      obtain ⟨P', h1, h2⟩ := wrI_lies hI (hx it (by simp)) hb h0
      obtain ⟨c, h3, h4, h5⟩ := wrIs_lies h1 (fun x h => hx x (by simp [h])) (Nat.le_of_not_lt fun h => hn (.inr h)) h
      refine ⟨(wrI b K e it).out ++ c, by rw [h3, List.append_assoc], h4, .cons ?_ h5⟩
      rw [h3]
      exact h2.more c

theorem chkM_ok {m : Ms} (h : chkM m = 0) : 0 ≤ m.id ∧ m.id ≤ 65535 ∧ 0 ≤ m.fl ∧ m.fl ≤ 65535 ∧ m.q.length ≤ 65535 ∧ m.an.length ≤ 65535 ∧ m.ns.length ≤ 65535 ∧ m.ar.length ≤ 65535 ∧ ∀ it ∈ m.its, it.err = 0 := by
  unfold chkM at h
  split at h
  · exact absurd h (by decide)
  · split at h
    · exact absurd h (by decide)
    · exact ⟨by omega, by omega, by omega, by omega, by omega, by omega, by omega, by omega, fun it hit => fst0_zero h _ (List.mem_map_of_mem hit)⟩

/-- A message that is written stands. -/
theorem wrM_lies {m : Ms} {z : List UInt8} {e : Int} (h : wrM m = (some z, e)) : e = 0 ∧ chkM m = 0 ∧ z.length ≤ 65535 ∧ ∃ c, z = headM m ++ c ∧ LiesIs z 12 m.its z.length := by
  unfold wrM at h
  split at h
  · simp at h
  · rename_i h1
    have h1 : chkM m = 0 := by simpa using h1
    split at h
    · rename_i z' hz
      simp only [Prod.mk.injEq, Option.some.injEq] at h
      obtain ⟨h2, h3⟩ := h
      subst h2
      have hI : Inv (headM m) [] 0 [] := by have := Inv.nil.more (headM m); rwa [List.nil_append] at this
      obtain ⟨c, h4, h5, h6⟩ := wrIs_lies hI (chkM_ok h1).2.2.2.2.2.2.2.2 (by rw [headM_len]; decide) hz
      exact ⟨h3.symm, h1, h5, c, h4, h6⟩
    · simp at h
end Go.Proofs.YtdikgjbpjdnodaaGreat

/-
  Rows of cells in memory: what a slice reads as, and append of it to a row of the call's own.
-/
namespace Go.Proofs.YtdikgjbpjdnodaaGreat
open Go.RowKit Go.Shelf
set_option linter.unusedVariables false
set_option linter.unusedSimpArgs false
set_option maxRecDepth 100000

section
variable {α : Type} {f : α → List Value} {k : Nat}
theorem flat_len (hf : ∀ x, (f x).length = k) (l : List α) : (l.flatMap f).length = l.length * k := by
  induction l with
  | nil => simp
  | cons x r ih => rw [List.flatMap_cons, List.length_append, ih, hf, List.length_cons, Nat.add_mul, Nat.one_mul, Nat.add_comm]
theorem flat_at (hf : ∀ x, (f x).length = k) : ∀ (l : List α) (j : Nat) (h : j < l.length) (i : Nat) (u : Value), (f l[j])[i]? = some u → (l.flatMap f)[j * k + i]? = some u
  | [], j, h, _, _, _ => by simp at h
  | x :: r, 0, h, i, u, hu => by
    have hi : i < k := by have := (List.getElem?_eq_some_iff.mp hu).1; simpa [hf] using this
    rw [List.flatMap_cons, Nat.zero_mul, Nat.zero_add, List.getElem?_append_left (by rw [hf]; exact hi)]
    exact hu
  | x :: r, j + 1, h, i, u, hu => by
    have ih := flat_at hf r j (by simpa using h) i u hu
    rw [List.flatMap_cons, List.getElem?_append_right (by rw [hf, Nat.add_mul]; omega)]
    rw [hf, show (j + 1) * k + i - k = j * k + i by rw [Nat.add_mul]; omega]
    exact ih
theorem flat_one (h1 : ∀ x, ∀ u ∈ f x, u.oneCell' = true) (l : List α) : ∀ u ∈ l.flatMap f, u.oneCell' = true := by
  intro u hu
  obtain ⟨x, _, hx⟩ := List.mem_flatMap.mp hu
  exact h1 x u hx
end

/-- The slice v, of n entries, reads as these cells; what it leads to lies in a block below hi. -/
def Lst (w : World) (hi : Nat) (v : Value) (n : Nat) (xs : List Value) : Prop :=
  ∃ a c, v = .slice a n c ∧ n ≤ 140737488351232 ∧ (a = none → n = 0 ∧ c = 0) ∧ (0 < n → ∃ b off, a = some ⟨b, off, none⟩ ∧ b < hi ∧ ∀ i u, xs[i]? = some u → w.cell? ⟨b, off + i, none⟩ = some u)

section
variable {w w' : World} {hi n : Nat} {v : Value} {xs : List Value}
theorem Lst.keep (h : Lst w hi v n xs) (hk : ∀ b o, b < hi → w'.cell? ⟨b, o, none⟩ = w.cell? ⟨b, o, none⟩) : Lst w' hi v n xs := by
  obtain ⟨a, c, rfl, hn, h0, hx⟩ := h
  refine ⟨a, c, rfl, hn, h0, fun hp => ?_⟩
  obtain ⟨b, off, rfl, h1, h2⟩ := hx hp
  exact ⟨b, off, rfl, h1, fun i u hu => (hk b _ h1).trans (h2 i u hu)⟩
theorem Lst.below {B : Nat} (h : Lst w hi v n xs) (hb : Below B w w') (hB : hi ≤ B) : Lst w' hi v n xs :=
  h.keep fun b o h1 => hb.cell (p := ⟨b, o, none⟩) (Nat.lt_of_lt_of_le h1 hB)
theorem Lst.wide {hi' : Nat} (h : Lst w hi v n xs) (hh : hi ≤ hi') : Lst w hi' v n xs := by
  obtain ⟨a, c, rfl, hn, h0, hx⟩ := h
  refine ⟨a, c, rfl, hn, h0, fun hp => ?_⟩
  obtain ⟨b, off, rfl, h1, h2⟩ := hx hp
  exact ⟨b, off, rfl, Nat.lt_of_lt_of_le h1 hh, h2⟩
theorem Lst.later (h : Lst w w.heap.size v n xs) (hb : Below w.heap.size w w') : Lst w' w'.heap.size v n xs := (h.below hb (Nat.le_refl _)).wide hb.size
theorem Lst.shape (h : Lst w hi v n xs) : ∃ a c, v = .slice a n c := by obtain ⟨a, c, rfl, _⟩ := h; exact ⟨a, c, rfl⟩
theorem Lst.len (h : Lst w hi v n xs) : n ≤ 140737488351232 := by obtain ⟨_, _, _, hn, _⟩ := h; exact hn
theorem Lst.nil (w : World) (hi : Nat) : Lst w hi (.slice none 0 0) 0 [] := ⟨none, 0, rfl, by omega, fun _ => ⟨rfl, rfl⟩, fun h => by omega⟩
theorem Lst.own {B k : Nat} {e : TypeId} (h : w.ownsRow B e k v n xs) (hn : n ≤ 1000000) : Lst w w.heap.size v n xs := by
  have hc := fun g hg => World.ownsRow.cells h (g := g) hg
  have hl := fun b hb => (World.ownsRow.lt h b hb).2
  rcases h.2 with ⟨rfl, h0⟩ | ⟨g, cap, cur, rfl, _⟩
  · subst h0
    exact ⟨none, 0, rfl, by omega, fun _ => ⟨rfl, rfl⟩, fun h => by omega⟩
  · refine ⟨_, cap, rfl, by omega, fun h => by simp at h, fun _ => ⟨g, 0, rfl, hl g rfl, fun i u hu => ?_⟩⟩
    have := hc g rfl i u hu
    rwa [WideShapes.add_plain] at this
/-- A shorter part of a row. -/
theorem Lst.part {m c : Nat} {a : Option Addr} {ys : List Value} (h : Lst w hi (.slice a n c) n (ys ++ xs)) (hm : m ≤ n) : Lst w hi (.slice a m c) m ys := by
  obtain ⟨a', c', he, hn, h0, hx⟩ := h
  injection he with e1 e2 e3
  subst e1; subst e3
  refine ⟨_, _, rfl, by omega, fun h => ⟨by have := (h0 h).1; omega, (h0 h).2⟩, fun hp => ?_⟩
  obtain ⟨b, off, h1, h2, h3⟩ := hx (by omega)
  exact ⟨b, off, h1, h2, fun i u hu => h3 i u (by rw [List.getElem?_append_left (List.getElem?_eq_some_iff.mp hu).1]; exact hu)⟩
end

/-- append of what a slice reads as to a row of the call's own. -/
theorem row_more {w : World} {B hi n m k : Nat} {t ty e : TypeId} {i : TypeInfo} {z v u : Value} {xs ys : List Value} (bytes : Nat) (ht : Tryz.prog.underlying t = some (.slice e)) (hti : Tryz.prog.info? e = some i) (hz : i.zero = some z)
    (hsize : i.size = k) (hby : i.bytes = bytes) (hzs : z.cells.size = k) (hk : 0 < k) (hb1 : bytes ≤ 1000)
    (hown : w.ownsRow B e k v n xs) (hx : Lst w hi u m ys) (hl : ys.length = m * k) (h1 : ∀ u ∈ ys, u.oneCell' = true) (hnm : n + m ≤ 1000000) (hB : B ≤ w.heap.size) :
    ∃ a' c' w', (Builtin.append_ #[t, t] ty #[v, u]).run Tryz.prog w = .ok (.slice a' (n + m) c') w' ∧ w'.ownsRow B e k (.slice a' (n + m) c') (n + m) (xs ++ ys) ∧ Aside (fun b => v.ownBlock = some b) w w' ∧
      ((Value.slice a' (n + m) c').ownBlock = v.ownBlock ∨ (Value.slice a' (n + m) c').ownBlock = some w.heap.size) := by
  obtain ⟨a, c, rfl, _, h0, hx⟩ := hx
  cases a with
  | none =>
    obtain ⟨hm0, hc⟩ := h0 rfl
    subst hm0; subst hc
    have hy : ys = [] := by rw [Nat.zero_mul] at hl; exact List.length_eq_zero_iff.mp hl
    subst hy
    have hr := run_append_owned_none (P := Tryz.prog) (w := w) B t ty e i k ht hti v n xs hown
    obtain ⟨a', c', rfl⟩ := row_shape hown
    exact ⟨a', c', w, by rw [Nat.add_zero]; exact hr, by rw [Nat.add_zero, List.append_nil]; exact hown, Aside.refl _ _, .inl rfl⟩
  | some a =>
    have hnews : ∀ j u, ys[j]? = some u → w.cell? (a.add j) = some u := by
      intro j u hu
      have hp : 0 < m := by
        rcases Nat.eq_zero_or_pos m with h | h
        · subst h; rw [Nat.zero_mul] at hl; rw [List.length_eq_zero_iff.mp hl] at hu; simp at hu
        · exact h
      obtain ⟨b, off, h2, _, h3⟩ := hx hp
      injection h2 with h2
      subst h2
      rw [WideShapes.add_plain]
      exact h3 j u hu
    have hbb : (n + m) * bytes ≤ 140737488355328 := Nat.le_trans (Nat.mul_le_mul hnm hb1) (by decide)
    obtain ⟨v', w', r1, r2, r3, _, r5⟩ := run_append_own_at (P := Tryz.prog) (w := w) B t ty e i z k bytes ht hti hz hsize hby hzs hk v n xs hown a m c ys hl hnews h1 (by unfold maxLen; omega) hbb hB
    obtain ⟨a', c', hv⟩ := row_shape r2
    subst hv
    exact ⟨a', c', w', r1, r2, Aside.grown r3 fun _ h => h, r5⟩
end Go.Proofs.YtdikgjbpjdnodaaGreat

/-
  Acts that came in: records, whether they are asked alone, places.
-/
namespace Go.Proofs.YtdikgjbpjdnodaaGreat
open Go.RowKit Go.Shelf
set_option linter.unusedVariables false
set_option linter.unusedSimpArgs false
set_option maxRecDepth 100000

/-- The cells of a record. -/
def AtR (w : World) (b o : Nat) (x : Rc) : Prop :=
  w.cell? ⟨b, o, none⟩ = some (.string (bs x.n)) ∧ w.cell? ⟨b, o + 1, none⟩ = some (.int .i64 x.t) ∧ w.cell? ⟨b, o + 2, none⟩ = some (.int .i64 x.c) ∧ w.cell? ⟨b, o + 3, none⟩ = some (.int .i64 x.l) ∧ w.cell? ⟨b, o + 4, none⟩ = some (.string (bs x.d))

theorem AtR.keep {w w' : World} {b o : Nat} {x : Rc} (h : AtR w b o x) (hk : ∀ o, w'.cell? ⟨b, o, none⟩ = w.cell? ⟨b, o, none⟩) : AtR w' b o x :=
  ⟨(hk _).trans h.1, (hk _).trans h.2.1, (hk _).trans h.2.2.1, (hk _).trans h.2.2.2.1, (hk _).trans h.2.2.2.2⟩

/-- A record, whether its question alone is asked, whether the place is one as it is, the place. -/
structure AR where
  x : Rc
  k : Bool
  r : Bool
  a : Int

/-- The cells of an act. -/
def AtA (w : World) (b o : Nat) (y : AR) : Prop :=
  AtR w b o y.x ∧ w.cell? ⟨b, o + 5, none⟩ = some (.bool y.k) ∧ w.cell? ⟨b, o + 6, none⟩ = some (.bool y.r) ∧ w.cell? ⟨b, o + 7, none⟩ = some (.int .i64 y.a)

/-- The slice v reads as these acts; what it leads to lies in blocks below hi. -/
def Ar (w : World) (hi : Nat) (v : Value) (l : List AR) : Prop :=
  ∃ a c, v = .slice a l.length c ∧ (0 < l.length → ∃ b off, a = some ⟨b, off, none⟩ ∧ b < hi ∧ ∀ j (h : j < l.length), AtA w b (off + j * 8) l[j])

theorem AtA.keep {w w' : World} {b o : Nat} {y : AR} (h : AtA w b o y) (hk : ∀ o, w'.cell? ⟨b, o, none⟩ = w.cell? ⟨b, o, none⟩) : AtA w' b o y :=
  ⟨h.1.keep hk, (hk _).trans h.2.1, (hk _).trans h.2.2.1, (hk _).trans h.2.2.2⟩

theorem Ar.below {w w' : World} {hi B : Nat} {v : Value} {l : List AR} (h : Ar w hi v l) (hb : Below B w w') (hB : hi ≤ B) : Ar w' hi v l := by
  obtain ⟨a, c, rfl, hx⟩ := h
  refine ⟨a, c, rfl, fun h0 => ?_⟩
  obtain ⟨b, off, rfl, h1, h2⟩ := hx h0
  exact ⟨b, off, rfl, h1, fun j hj => (h2 j hj).keep fun o => hb.cell (p := ⟨b, o, none⟩) (Nat.lt_of_lt_of_le h1 hB)⟩

theorem cells_rec : Tryz.prog.cellsOf 78 = 5 := by kernel_rfl
theorem cellsC_str : Tryz.prog.cellsOf 9 = 1 := by kernel_rfl
theorem cellsC_int : Tryz.prog.cellsOf 3 = 1 := by kernel_rfl
/-- What a record's cells are. -/
theorem open_rec {H : Type} {enc : TypeId × Value → H} {w : World} {base fuel : Nat} {spare : Nat → Bool} {held : Bool} {cs : List Value} {x : DataW H × List MemPlace}
    (h : DataW.trod enc Tryz.prog w base spare held fuel 78 cs = some x) (hl : cs.length = 5) : ∃ (s : ByteArray) (t c l : Int) (d : ByteArray), cs = [.string s, .int .i64 t, .int .i64 c, .int .i64 l, .string d] := by
  cases fuel with
  | zero => simp [DataW.trod] at h
  | succ fuel =>
    obtain ⟨xs, k, _, _, _, h9, h10⟩ := DataW.trod_struct Tryz.underlying78 h
    match cs, hl with
    | [v0, v1, v2, v3, v4], _ =>
      have g0 := h10 0 _ rfl
      have g1 := h10 1 _ rfl
      have g2 := h10 2 _ rfl
      have g3 := h10 3 _ rfl
      have g4 := h10 4 _ rfl
      match xs, h9 with
      | [y0, y1, y2, y3, y4], _ =>
        simp [cellsC_str, cellsC_int] at g0 g1 g2 g3 g4
        obtain ⟨s, k0, _, _⟩ := DataW.trod_string Tryz.underlying9 g0
        obtain ⟨t, k1, _, _⟩ := DataW.trod_int Tryz.underlying3 g1
        obtain ⟨c, k2, _, _⟩ := DataW.trod_int Tryz.underlying3 g2
        obtain ⟨l, k3, _, _⟩ := DataW.trod_int Tryz.underlying3 g3
        obtain ⟨d, k4, _, _⟩ := DataW.trod_string Tryz.underlying9 g4
        injection k0 with k0 _
        injection k1 with k1 _
        injection k2 with k2 _
        injection k3 with k3 _
        injection k4 with k4 _
        subst k0; subst k1; subst k2; subst k3; subst k4
        exact ⟨s, t, c, l, d, rfl⟩

end Go.Proofs.YtdikgjbpjdnodaaGreat

/-
  Questions, records, messages in memory; the same ones are told the same.
-/
namespace Go.Proofs.YtdikgjbpjdnodaaGreat
open Go.RowKit Go.Shelf
set_option linter.unusedVariables false
set_option linter.unusedSimpArgs false
set_option maxRecDepth 100000

/-- The cells of a question. -/
def cq (x : Qn) : List Value := [.string (bs x.n), .int .i64 x.t, .int .i64 x.c]
/-- The cells of a record. -/
def cr (x : Rc) : List Value := [.string (bs x.n), .int .i64 x.t, .int .i64 x.c, .int .i64 x.l, .string (bs x.d)]
def acq (l : List Qn) : List Value := l.flatMap cq
def acr (l : List Rc) : List Value := l.flatMap cr
theorem acq_len (l : List Qn) : (acq l).length = l.length * 3 := flat_len (f := cq) (k := 3) (fun _ => rfl) l
theorem acr_len (l : List Rc) : (acr l).length = l.length * 5 := flat_len (f := cr) (k := 5) (fun _ => rfl) l
theorem acq_app (l m : List Qn) : acq (l ++ m) = acq l ++ acq m := List.flatMap_append
theorem acr_app (l m : List Rc) : acr (l ++ m) = acr l ++ acr m := List.flatMap_append
theorem acq_one (l : List Qn) : ∀ u ∈ acq l, u.oneCell' = true := flat_one (fun x u hu => by
  simp only [cq, List.mem_cons, List.mem_nil_iff, or_false] at hu
  rcases hu with rfl | rfl | rfl <;> rfl) l
theorem acr_one (l : List Rc) : ∀ u ∈ acr l, u.oneCell' = true := flat_one (fun x u hu => by
  simp only [cr, List.mem_cons, List.mem_nil_iff, or_false] at hu
  rcases hu with rfl | rfl | rfl | rfl | rfl <;> rfl) l

/-- The cells of a question stand at a place. -/
def AtQn (w : World) (b o : Nat) (x : Qn) : Prop := w.cell? ⟨b, o, none⟩ = some (.string (bs x.n)) ∧ w.cell? ⟨b, o + 1, none⟩ = some (.int .i64 x.t) ∧ w.cell? ⟨b, o + 2, none⟩ = some (.int .i64 x.c)
theorem AtQn.keep {w w' : World} {b o : Nat} {x : Qn} (h : AtQn w b o x) (hk : ∀ o, w'.cell? ⟨b, o, none⟩ = w.cell? ⟨b, o, none⟩) : AtQn w' b o x := ⟨(hk _).trans h.1, (hk _).trans h.2.1, (hk _).trans h.2.2⟩

/-- The slice v reads as these questions. -/
def SQ (w : World) (hi : Nat) (v : Value) (l : List Qn) : Prop := Lst w hi v l.length (acq l)
/-- The slice v reads as these records. -/
def SR (w : World) (hi : Nat) (v : Value) (l : List Rc) : Prop := Lst w hi v l.length (acr l)
/-- A row of questions of the call's own. -/
def OwnQn (w : World) (B : Nat) (v : Value) (l : List Qn) : Prop := w.ownsRow B 56 3 v l.length (acq l)
/-- A row of records of the call's own. -/
def OwnRc (w : World) (B : Nat) (v : Value) (l : List Rc) : Prop := w.ownsRow B 78 5 v l.length (acr l)

theorem SQ.at_ {w : World} {hi : Nat} {v : Value} {l : List Qn} (h : SQ w hi v l) (j : Nat) (hj : j < l.length) : ∃ b off c, v = .slice (some ⟨b, off, none⟩) l.length c ∧ b < hi ∧ AtQn w b (off + j * 3) l[j] := by
  obtain ⟨a, c, rfl, _, _, hx⟩ := h
  obtain ⟨b, off, rfl, h1, h2⟩ := hx (by omega)
  have e := fun i u hu => h2 _ _ (flat_at (f := cq) (k := 3) (fun _ => rfl) l j hj i u hu)
  simp only [← Nat.add_assoc] at e
  exact ⟨b, off, c, rfl, h1, e 0 _ rfl, e 1 _ rfl, e 2 _ rfl⟩
theorem SR.at_ {w : World} {hi : Nat} {v : Value} {l : List Rc} (h : SR w hi v l) (j : Nat) (hj : j < l.length) : ∃ b off c, v = .slice (some ⟨b, off, none⟩) l.length c ∧ b < hi ∧ AtR w b (off + j * 5) l[j] := by
  obtain ⟨a, c, rfl, _, _, hx⟩ := h
  obtain ⟨b, off, rfl, h1, h2⟩ := hx (by omega)
  have e := fun i u hu => h2 _ _ (flat_at (f := cr) (k := 5) (fun _ => rfl) l j hj i u hu)
  simp only [← Nat.add_assoc] at e
  exact ⟨b, off, c, rfl, h1, e 0 _ rfl, e 1 _ rfl, e 2 _ rfl, e 3 _ rfl, e 4 _ rfl⟩

/-- The value v reads as this message. -/
def Mg (w : World) (hi : Nat) (v : Value) (m : Ms) : Prop := ∃ q a n r, v = .agg #[.int .i64 m.id, .int .i64 m.fl, q, a, n, r] ∧ SQ w hi q m.q ∧ SR w hi a m.an ∧ SR w hi n m.ns ∧ SR w hi r m.ar
theorem Mg.below {w w' : World} {hi B : Nat} {v : Value} {m : Ms} (h : Mg w hi v m) (hb : Below B w w') (hB : hi ≤ B) : Mg w' hi v m := by
  obtain ⟨q, a, n, r, rfl, h1, h2, h3, h4⟩ := h
  exact ⟨q, a, n, r, rfl, Lst.below h1 hb hB, Lst.below h2 hb hB, Lst.below h3 hb hB, Lst.below h4 hb hB⟩
theorem Mg.wide {w : World} {hi hi' : Nat} {v : Value} {m : Ms} (h : Mg w hi v m) (hh : hi ≤ hi') : Mg w hi' v m := by
  obtain ⟨q, a, n, r, rfl, h1, h2, h3, h4⟩ := h
  exact ⟨q, a, n, r, rfl, Lst.wide h1 hh, Lst.wide h2 hh, Lst.wide h3 hh, Lst.wide h4 hh⟩
theorem Mg.later {w w' : World} {v : Value} {m : Ms} (h : Mg w w.heap.size v m) (hb : Below w.heap.size w w') : Mg w' w'.heap.size v m := (h.below hb (Nat.le_refl _)).wide hb.size

theorem neqQ (x : Qn) (w : World) : (binOp .neq 56 (.agg #[.string (bs x.n), .int .i64 x.t, .int .i64 x.c]) (.agg #[.string (bs x.n), .int .i64 x.t, .int .i64 x.c])).run Tryz.prog w = .ok (.bool false) w := by
  have hS : Tryz.prog.underlying 56 = some (.struct (Tryz.prog.fieldsOf 56)) := by kernel_rfl
  have hI : Tryz.prog.stoodInHeld 56 = false := by kernel_rfl
  have u3 := Tryz.underlying3
  have u9 := Tryz.underlying9
  have a3 := Tryz.isAgg3
  have z3 := Tryz.sizeOf3
  have a9 := Tryz.isAgg9
  have z9 := Tryz.sizeOf9
  rw [run_neq_struct, run_equalIn_agg _ _ _ _ _ hS hI]
  simp only [Program.fieldsOf, Tryz.underlying56]
  go_simp
theorem neqR (x : Rc) (w : World) : (binOp .neq 78 (.agg #[.string (bs x.n), .int .i64 x.t, .int .i64 x.c, .int .i64 x.l, .string (bs x.d)]) (.agg #[.string (bs x.n), .int .i64 x.t, .int .i64 x.c, .int .i64 x.l, .string (bs x.d)])).run Tryz.prog w = .ok (.bool false) w := by
  have hS : Tryz.prog.underlying 78 = some (.struct (Tryz.prog.fieldsOf 78)) := by kernel_rfl
  have hI : Tryz.prog.stoodInHeld 78 = false := by kernel_rfl
  have u3 := Tryz.underlying3
  have u9 := Tryz.underlying9
  have a3 := Tryz.isAgg3
  have z3 := Tryz.sizeOf3
  have a9 := Tryz.isAgg9
  have z9 := Tryz.sizeOf9
  rw [run_neq_struct, run_equalIn_agg _ _ _ _ _ hS hI]
  simp only [Program.fieldsOf, Tryz.underlying78]
  go_simp
end Go.Proofs.YtdikgjbpjdnodaaGreat

/-
  Two readings of the same message are told the same.
-/
namespace Go.Proofs.YtdikgjbpjdnodaaGreat
open Go.RowKit Go.Shelf
set_option linter.unusedVariables false
set_option linter.unusedSimpArgs false
set_option maxRecDepth 100000

set_option maxHeartbeats 1000000 in
theorem sameQ_yes {w : World} {hi hi' : Nat} {u v : Value} {l : List Qn} (h : SQ w hi u l) (h' : SQ w hi' v l) (h1 : hi ≤ w.heap.size) (h2 : hi' ≤ w.heap.size) :
    Calls Tryz.prog 34 #[u, v] w (Tells w (.bool true)) := by
  have HN := Lib.hid (Lst.len h)
  have HS := Lib.hid h
  have HS' := Lib.hid h'
  obtain ⟨a, c, rfl⟩ := Lst.shape h
  obtain ⟨a', c', rfl⟩ := Lst.shape h'
  have HB0 := Lib.hid (Below.refl w.heap.size w)
  clear h h'
  go_enter Tryz.func34, Tryz.ntmps34
  go_wp2
  go_loopg [5] l.length (fun g v5 wr => ∃ k : Nat, k + g = l.length ∧ v5 = .int .i64 k ∧ Hid (Below w.heap.size w wr))
  case atStart => exact ⟨0, by omega, rfl, HB0⟩
  case round =>
    clear HB0
    obtain ⟨k, hk, rfl, HB⟩ := hrel
    have hlen := HN.out
    by_cases hlt : k < l.length
    · obtain ⟨b, off, c2, he, hb, hc⟩ := HS.out.at_ k hlt
      obtain ⟨b', off', c2', he', hb', hc'⟩ := HS'.out.at_ k hlt
      injection he with he hn3 hc3
      injection he' with he' hn3' hc3'
      clear hn3 hc3 hn3' hc3'
      subst he; subst he'
      obtain ⟨c0, c1, c2⟩ := hc.keep fun o => HB.out.cell (p := ⟨b, o, none⟩) (Nat.lt_of_lt_of_le hb h1)
      obtain ⟨d0, d1, d2⟩ := hc'.keep fun o => HB.out.cell (p := ⟨b', o, none⟩) (Nat.lt_of_lt_of_le hb' h2)
      have HE := fun wx => neqQ l[k] wx
      obtain ⟨x, hx⟩ : ∃ x, l[k] = x := ⟨_, rfl⟩
      rw [hx] at c0 c1 c2 d0 d1 d2 HE
      have HB2 := Lib.hid (fun n => below_drewN HB.out n)
      clear hc hc' hx HB
      go_wp2_with fail
      go_quiet (fail)
      go_wp2_with fail
      go_roundg (l.length - (k + 1))
      case measure => omega
      case rel => exact ⟨k + 1, by omega, by go_num, HB2.out _⟩
    · have t1 : ¬ ((k : Int) < l.length) := by omega
      go_wp2_with fail
      go_ret
      exact ⟨rfl, HB.out⟩
set_option maxHeartbeats 1000000 in
theorem sameR_yes {w : World} {hi hi' : Nat} {u v : Value} {l : List Rc} (h : SR w hi u l) (h' : SR w hi' v l) (h1 : hi ≤ w.heap.size) (h2 : hi' ≤ w.heap.size) :
    Calls Tryz.prog 50 #[u, v] w (Tells w (.bool true)) := by
  have HN := Lib.hid (Lst.len h)
  have HS := Lib.hid h
  have HS' := Lib.hid h'
  obtain ⟨a, c, rfl⟩ := Lst.shape h
  obtain ⟨a', c', rfl⟩ := Lst.shape h'
  have HB0 := Lib.hid (Below.refl w.heap.size w)
  clear h h'
  go_enter Tryz.func50, Tryz.ntmps50
  go_wp2
  go_loopg [5] l.length (fun g v5 wr => ∃ k : Nat, k + g = l.length ∧ v5 = .int .i64 k ∧ Hid (Below w.heap.size w wr))
  case atStart => exact ⟨0, by omega, rfl, HB0⟩
  case round =>
    clear HB0
    obtain ⟨k, hk, rfl, HB⟩ := hrel
    have hlen := HN.out
    by_cases hlt : k < l.length
    · obtain ⟨b, off, c9, he, hb, hc⟩ := HS.out.at_ k hlt
      obtain ⟨b', off', c9', he', hb', hc'⟩ := HS'.out.at_ k hlt
      injection he with he hn3 hc3
      injection he' with he' hn3' hc3'
      clear hn3 hc3 hn3' hc3'
      subst he; subst he'
      obtain ⟨c0, c1, c2, c3, c4⟩ := hc.keep fun o => HB.out.cell (p := ⟨b, o, none⟩) (Nat.lt_of_lt_of_le hb h1)
      obtain ⟨d0, d1, d2, d3, d4⟩ := hc'.keep fun o => HB.out.cell (p := ⟨b', o, none⟩) (Nat.lt_of_lt_of_le hb' h2)
      have HE := fun wx => neqR l[k] wx
      obtain ⟨x, hx⟩ : ∃ x, l[k] = x := ⟨_, rfl⟩
      rw [hx] at c0 c1 c2 c3 c4 d0 d1 d2 d3 d4 HE
      have HB2 := Lib.hid (fun n => below_drewN HB.out n)
      clear hc hc' hx HB
      go_wp2_with fail
      go_quiet (fail)
      go_wp2_with fail
      go_roundg (l.length - (k + 1))
      case measure => omega
      case rel => exact ⟨k + 1, by omega, by go_num, HB2.out _⟩
    · have t1 : ¬ ((k : Int) < l.length) := by omega
      go_wp2_with fail
      go_ret
      exact ⟨rfl, HB.out⟩

theorem cel_new6 (w : World) (a b c d e f : Value) (T : TypeId) : Cel (w.alloc (.cells #[a, b, c, d, e, f] T)) w.heap.size [a, b, c, d, e, f] := ⟨fun j hj => by
    match j, hj with
    | 0, _ => simp [go_sem]
    | 1, _ => simp [go_sem]
    | 2, _ => simp [go_sem]
    | 3, _ => simp [go_sem]
    | 4, _ => simp [go_sem]
    | 5, _ => simp [go_sem], fun j => by simp [go_sem]⟩
theorem Cel.six {w : World} {q : Nat} {a b c d e f : Value} (h : Cel w q [a, b, c, d, e, f]) : w.cell? ⟨q, 0, none⟩ = some a ∧ w.cell? ⟨q, 1, none⟩ = some b ∧ w.cell? ⟨q, 2, none⟩ = some c ∧ w.cell? ⟨q, 3, none⟩ = some d ∧ w.cell? ⟨q, 4, none⟩ = some e ∧ w.cell? ⟨q, 5, none⟩ = some f :=
  ⟨h.c 0 (by simp), h.c 1 (by simp), h.c 2 (by simp), h.c 3 (by simp), h.c 4 (by simp), h.c 5 (by simp)⟩

set_option maxHeartbeats 4000000 in
theorem sameM_yes {w : World} {hi hi' : Nat} {u v : Value} {m : Ms} (h : Mg w hi u m) (h' : Mg w hi' v m) (h1 : hi ≤ w.heap.size) (h2 : hi' ≤ w.heap.size) :
    Calls Tryz.prog 21 #[u, v] w (Tells w (.bool true)) := by
  obtain ⟨q, a, n, r, rfl, k1, k2, k3, k4⟩ := h
  obtain ⟨q', a', n', r', rfl, k1', k2', k3', k4'⟩ := h'
  have HQ := Lib.hid (fun wx (hb : Below w.heap.size w wx) => sameQ_yes (Lst.below k1 hb h1) (Lst.below k1' hb h2) (Nat.le_trans h1 hb.size) (Nat.le_trans h2 hb.size))
  have HA := Lib.hid (fun wx (hb : Below w.heap.size w wx) => sameR_yes (Lst.below k2 hb h1) (Lst.below k2' hb h2) (Nat.le_trans h1 hb.size) (Nat.le_trans h2 hb.size))
  have HN := Lib.hid (fun wx (hb : Below w.heap.size w wx) => sameR_yes (Lst.below k3 hb h1) (Lst.below k3' hb h2) (Nat.le_trans h1 hb.size) (Nat.le_trans h2 hb.size))
  have HR := Lib.hid (fun wx (hb : Below w.heap.size w wx) => sameR_yes (Lst.below k4 hb h1) (Lst.below k4' hb h2) (Nat.le_trans h1 hb.size) (Nat.le_trans h2 hb.size))
  obtain ⟨i0, hi0⟩ : ∃ i, m.id = i := ⟨_, rfl⟩
  obtain ⟨i1, hi1⟩ : ∃ i, m.fl = i := ⟨_, rfl⟩
  rw [hi0, hi1]
  have HX := Lib.hid ((cel_new6 w (.int .i64 i0) (.int .i64 i1) q a n r 25).below (by simp) ((Below.refl _ _).alloc (Nat.le_refl _) (.cells #[.int .i64 i0, .int .i64 i1, q', a', n', r'] 25)))
  have HY := Lib.hid (cel_new6 (w.alloc (.cells #[.int .i64 i0, .int .i64 i1, q, a, n, r] 25)) (.int .i64 i0) (.int .i64 i1) q' a' n' r' 25)
  have HB := Lib.hid (((Below.refl w.heap.size w).alloc (Nat.le_refl _) (.cells #[.int .i64 i0, .int .i64 i1, q, a, n, r] 25)).alloc (by simp) (.cells #[.int .i64 i0, .int .i64 i1, q', a', n', r'] 25))
  rw [World.size_alloc] at HY
  obtain ⟨c0, c1, c2, c3, c4, c5⟩ := HX.out.six
  obtain ⟨d0, d1, d2, d3, d4, d5⟩ := HY.out.six
  clear k1 k2 k3 k4 k1' k2' k3' k4' hi0 hi1
  go_enter Tryz.func21, Tryz.ntmps21
  go_wp2_with fail
  refine (HQ.out _ HB.out).mono ?_; rintro e w1 ⟨rfl, hb⟩
  replace HB := Lib.hid (bel_call HB.out hb)
  replace HX := Lib.hid (HX.out.below (by simp) hb)
  replace HY := Lib.hid (HY.out.below (by simp) hb)
  clear c0 c1 c2 c3 c4 c5 d0 d1 d2 d3 d4 d5 hb
  obtain ⟨c0, c1, c2, c3, c4, c5⟩ := HX.out.six
  obtain ⟨d0, d1, d2, d3, d4, d5⟩ := HY.out.six
  go_wp2_with fail
  refine (HA.out _ HB.out).mono ?_; rintro e w2 ⟨rfl, hb⟩
  replace HB := Lib.hid (bel_call HB.out hb)
  replace HX := Lib.hid (HX.out.below (by simp) hb)
  replace HY := Lib.hid (HY.out.below (by simp) hb)
  clear c0 c1 c2 c3 c4 c5 d0 d1 d2 d3 d4 d5 hb
  obtain ⟨c0, c1, c2, c3, c4, c5⟩ := HX.out.six
  obtain ⟨d0, d1, d2, d3, d4, d5⟩ := HY.out.six
  go_wp2_with fail
  refine (HN.out _ HB.out).mono ?_; rintro e w3 ⟨rfl, hb⟩
  replace HB := Lib.hid (bel_call HB.out hb)
  replace HX := Lib.hid (HX.out.below (by simp) hb)
  replace HY := Lib.hid (HY.out.below (by simp) hb)
  clear c0 c1 c2 c3 c4 c5 d0 d1 d2 d3 d4 d5 hb
  obtain ⟨c0, c1, c2, c3, c4, c5⟩ := HX.out.six
  obtain ⟨d0, d1, d2, d3, d4, d5⟩ := HY.out.six
  go_wp2_with fail
  refine (HR.out _ HB.out).mono ?_; rintro e w4 ⟨rfl, hb⟩
  replace HB := Lib.hid (bel_call HB.out hb)
  replace HX := Lib.hid (HX.out.below (by simp) hb)
  replace HY := Lib.hid (HY.out.below (by simp) hb)
  clear c0 c1 c2 c3 c4 c5 d0 d1 d2 d3 d4 d5 hb
  obtain ⟨c0, c1, c2, c3, c4, c5⟩ := HX.out.six
  obtain ⟨d0, d1, d2, d3, d4, d5⟩ := HY.out.six
  go_wp2_with fail
  go_ret
  exact ⟨rfl, HB.out⟩
end Go.Proofs.YtdikgjbpjdnodaaGreat
