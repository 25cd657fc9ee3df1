/-
  Messages, plainly: what is read of any bytes, and of bytes with others behind.
-/
import Derived.Test.YteegekpanadmkaaGreatS08
import Derived.Test.YteegekpanadmkaaGreatS11
import Derived.Test.YteegekpanadmkaaGreatS00
import Derived.Test.YteegekpanadmkaaGreatS06
namespace Go.Proofs.YteegekpanadmkaaGreat
open Go.RowKit Go.Shelf
set_option linter.unusedVariables false
set_option linter.unusedSimpArgs false
set_option maxRecDepth 100000

/-- Whatever bytes: a fault within them, or a question. -/
theorem ques_cases (b : List UInt8) (p : Nat) (hp : p ≤ b.length) :
    ((s3 b p).e ≠ 0 ∧ 0 ≤ (s3 b p).p ∧ (s3 b p).p ≤ b.length) ∨
    (∃ n i, rda b p = (n, i, 0, 0) ∧ chk n = 0 ∧ p < i ∧ i + 4 ≤ b.length ∧ s3 b p = ⟨((i + 4 : Nat) : Int), 0, 0⟩ ∧ rN b p = n ∧ rT b p = nAt2 (iz b) i ∧ rC b p = nAt2 (iz b) (i + 2)) := by
  have hrp := rda_place b p
  have b0 : (⟨0, 4, (b.length : Int)⟩ : RS).e ≠ 0 := by simp
  by_cases h0 : (rda b p).2.2.1 = 0
  · obtain ⟨hch, hlt, hle⟩ := rda_fine b p h0
    have hz := rda_zero h0
    obtain ⟨⟨n, i, f, g⟩, hR⟩ : ∃ R, rda b p = R := ⟨_, rfl⟩
    rw [hR] at h0 hch hlt hle hz
    simp only at h0 hch hlt hle hz
    subst h0; subst hz
    obtain ⟨h1, hN⟩ := s1_ok hR
    by_cases hi2 : b.length < i + 2
    · have e2 : s2 b p = ⟨0, 4, b.length⟩ := by unfold s2; rw [h1]; exact st2_short hle hi2 0
      have e : s3 b p = ⟨0, 4, b.length⟩ := by unfold s3; rw [e2, st2_bad b0]
      rw [e]
      exact .inl ⟨by simp, by simp, by simp⟩
    · have g1 := st2_ok (b := b) (i := i) (by omega) 0 0
      have e2 : s2 b p = ⟨((i + 2 : Nat) : Int), 0, 0⟩ := by unfold s2; rw [h1]; exact g1.1
      by_cases hi4 : b.length < i + 4
      · have e3 : s3 b p = ⟨0, 4, b.length⟩ := by unfold s3; rw [e2]; exact st2_short (by omega) (by omega) 0
        rw [e3]
        exact .inl ⟨by simp, by simp, by simp⟩
      · obtain ⟨e3, e4, hT, hC⟩ := ques_ok hR (by omega)
        exact .inr ⟨n, i, hR, hch, hlt, by omega, e3, e4, hT, hC⟩
  · have e1 : s1 b p = ⟨(rda b p).2.1, (rda b p).2.2.1, (rda b p).2.2.2⟩ := by unfold s1 stN; rw [if_neg (by simp)]
    have hne : (s1 b p).e ≠ 0 := by rw [e1]; exact h0
    have e : s3 b p = s1 b p := by
      unfold s3 s2
      rw [st2_bad hne, st2_bad hne]
    rw [e]
    refine .inl ⟨hne, ?_, ?_⟩
    · rw [e1]; show (0 : Int) ≤ ((rda b p).2.2.2 : Nat); omega
    · rw [e1]; show (((rda b p).2.2.2 : Nat) : Int) ≤ _; omega

/-- What reading a record came by, if it is read. -/
theorem rec_parts {b : List UInt8} {p : Nat} (hp : p ≤ b.length) (h : (s6 b p).e = 0) : ∃ n i L, rda b p = (n, i, 0, 0) ∧ i + 10 ≤ b.length ∧ rdR b ((i + 10 : Nat) : Int) (rZ b p) (rT b p) = .ok L := by
  have h5 : (s5 b p).e = 0 := by
    by_cases h5 : (s5 b p).e = 0
    · exact h5
    · unfold s6 at h; rw [stD_bad h5] at h; exact absurd h h5
  have h4 : (s4 b p).e = 0 := by
    by_cases h4 : (s4 b p).e = 0
    · exact h4
    · unfold s5 at h5; rw [st2_bad h4] at h5; exact absurd h5 h4
  have h3 : (s3 b p).e = 0 := by
    by_cases h3 : (s3 b p).e = 0
    · exact h3
    · unfold s4 at h4; rw [st4_bad h3] at h4; exact absurd h4 h3
  rcases ques_cases b p hp with ⟨h1, _⟩ | ⟨n, i, hR, _, _, hi, e1, e2, e3, e4⟩
  · exact absurd h3 h1
  · have hi8 : i + 8 ≤ b.length := by
      by_cases hi8 : i + 8 ≤ b.length
      · exact hi8
      · have e4' : s4 b p = ⟨0, 4, b.length⟩ := by unfold s4; rw [e1]; exact st4_short (by omega) (by omega) 0
        rw [e4'] at h4; exact absurd h4 (by simp)
    have g4 := st4_ok (b := b) (i := i + 4) (by omega) 0 0
    have e4' : s4 b p = ⟨((i + 8 : Nat) : Int), 0, 0⟩ := by unfold s4; rw [e1]; exact g4.1
    have hi10 : i + 10 ≤ b.length := by
      by_cases hi10 : i + 10 ≤ b.length
      · exact hi10
      · have e5 : s5 b p = ⟨0, 4, b.length⟩ := by unfold s5; rw [e4']; exact st2_short (by omega) (by omega) 0
        rw [e5] at h5; exact absurd h5 (by simp)
    rcases hr : rdR b ((i + 10 : Nat) : Int) (rZ b p) (rT b p) with L | ⟨c, a⟩
    · exact ⟨n, i, L, hR, hi10, hr⟩
    · obtain ⟨e6, _⟩ := data_no hR hi10 hr
      obtain ⟨_, hc2⟩ := rdR_bad hr
      rw [e6] at h
      exact absurd h hc2

end Go.Proofs.YteegekpanadmkaaGreat

/-
  Messages, plainly: the message that bytes are.
-/
namespace Go.Proofs.YteegekpanadmkaaGreat
open Go.RowKit Go.Shelf
set_option linter.unusedVariables false
set_option linter.unusedSimpArgs false
set_option maxRecDepth 100000

/-- What reading some comes to: these, and where they end; or the fault. -/
inductive RD (α : Type) where
  | ok (l : List α) (p : Nat)
  | bad (e a : Int)

def RD.cons {α : Type} (x : α) : RD α → RD α
  | .ok l q => .ok (x :: l) q
  | .bad e a => .bad e a

/-- The question, the record that is read. -/
def quesR (b : List UInt8) (p : Nat) : Qn := ⟨rN b p, rT b p, rC b p⟩
def recR (b : List UInt8) (p : Nat) : Rc := ⟨rN b p, rT b p, rC b p, ttlR (rL b p), rD b p⟩

/-- So many questions, records, one behind the other. -/
def rdQs (b : List UInt8) : Nat → Nat → RD Qn
  | 0, p => .ok [] p
  | n + 1, p => if (s3 b p).e ≠ 0 then .bad (s3 b p).e (s3 b p).p else (rdQs b n (s3 b p).a.toNat).cons (quesR b p)
def rdRs (b : List UInt8) : Nat → Nat → RD Rc
  | 0, p => .ok [] p
  | n + 1, p => if (s6 b p).e ≠ 0 then .bad (s6 b p).e (s6 b p).p else (rdRs b n (s6 b p).a.toNat).cons (recR b p)

/-- What reading a message comes to. -/
inductive RM where
  | ok (m : Ms)
  | bad (e a : Int)

/-- A number of the head. -/
def hd (b : List UInt8) (k : Nat) : Int := nAt2 (iz b) (2 * k)

def rdM4 (b : List UInt8) (q : List Qn) (an ns : List Rc) : RD Rc → RM
  | .bad e a => .bad e a
  | .ok ar p => if p < b.length then .bad 4 p else .ok ⟨hd b 0, hd b 1, q, an, ns, ar⟩
def rdM3 (b : List UInt8) (q : List Qn) (an : List Rc) : RD Rc → RM
  | .bad e a => .bad e a
  | .ok ns p => rdM4 b q an ns (rdRs b (hd b 5).toNat p)
def rdM2 (b : List UInt8) (q : List Qn) : RD Rc → RM
  | .bad e a => .bad e a
  | .ok an p => rdM3 b q an (rdRs b (hd b 4).toNat p)
def rdM1 (b : List UInt8) : RD Qn → RM
  | .bad e a => .bad e a
  | .ok q p => rdM2 b q (rdRs b (hd b 3).toNat p)

def rdM (b : List UInt8) : RM := if 65535 < b.length then .bad 3 0 else if b.length < 12 then .bad 4 b.length else rdM1 b (rdQs b (hd b 2).toNat 12)

theorem rdM_of {b : List UInt8} {q : List Qn} {an ns ar : List Rc} {p1 p2 p3 p4 : Nat} (h0 : b.length ≤ 65535) (h00 : 12 ≤ b.length) (h1 : rdQs b (hd b 2).toNat 12 = .ok q p1) (h2 : rdRs b (hd b 3).toNat p1 = .ok an p2) (h3 : rdRs b (hd b 4).toNat p2 = .ok ns p3) (h4 : rdRs b (hd b 5).toNat p3 = .ok ar p4) :
    rdM b = if p4 < b.length then .bad 4 p4 else .ok ⟨hd b 0, hd b 1, q, an, ns, ar⟩ := by
  unfold rdM
  rw [if_neg (by omega), if_neg (by omega), h1]
  simp only [rdM1]
  rw [h2]
  simp only [rdM2]
  rw [h3]
  simp only [rdM3]
  rw [h4]
  rfl

/-- A question that is read ends within the bytes, and may be. -/
theorem ques_fine {b : List UInt8} {p : Nat} (hp : p ≤ b.length) (h : (s3 b p).e = 0) : ∃ q : Nat, (s3 b p).a = q ∧ p < q ∧ q ≤ b.length ∧ (It.q (quesR b p)).err = 0 := by
  rcases ques_cases b p hp with ⟨h1, _⟩ | ⟨n, i, hR, hc, hlt, hi, e1, e2, e3, e4⟩
  · exact absurd h h1
  · refine ⟨i + 4, by rw [e1], by omega, hi, ?_⟩
    have hT : 0 ≤ rT b p ∧ rT b p ≤ 65535 := vl2_lt b _
    have hC : 0 ≤ rC b p ∧ rC b p ≤ 65535 := vl2_lt b _
    show askE (rN b p) (rT b p) (rC b p) = 0
    unfold askE
    rw [e2, if_neg (by simpa using hc), if_neg (by omega)]

/-- Where a record ends, whatever the bytes' length. -/
theorem rec_end {b : List UInt8} {p : Nat} (hp : p ≤ b.length) (hb : b.length ≤ 1000000) (h : (s6 b p).e = 0) : ∃ q : Nat, (s6 b p).a = q ∧ p < q ∧ q ≤ b.length := by
  obtain ⟨n, i, L, hR, hi, hr⟩ := rec_parts hp h
  obtain ⟨_, hlt, hle⟩ := rda_fine b p (by rw [hR])
  rw [hR] at hlt hle
  simp only at hlt hle
  obtain ⟨t0, t1, _, _, _, hz0, hzl, _⟩ := rdR_ok hr
  obtain ⟨e6, _⟩ := data_ok hR hi hr
  have hwr : wrap64 (((i + 10 : Nat) : Int) + rZ b p) = ((i + 10 : Nat) : Int) + rZ b p := IntWalk.wrap64_in _ ⟨by omega, by omega⟩
  refine ⟨i + 10 + (rZ b p).toNat, ?_, by omega, by omega⟩
  rw [e6, hwr]
  show ((i + 10 : Nat) : Int) + rZ b p = _
  omega

theorem hd_lt (b : List UInt8) (k : Nat) : 0 ≤ hd b k ∧ hd b k ≤ 65535 := by
  have hg : ∀ k, 0 ≤ (iz b).getD k 0 ∧ (iz b).getD k 0 < 256 := fun k => by
    rcases Nat.lt_or_ge k b.length with hk | hk
    · rw [iz_get b k hk]
      have : b[k].toNat < 256 := b[k].toNat_lt
      omega
    · rw [List.getD, List.getElem?_eq_none (by rw [iz_len]; exact hk)]; decide
  unfold hd nAt2
  exact num2_lt _ _ (hg _) (hg _)

/-! ### faults -/

/-! ### with others behind -/

/-! ### what stands is read -/

theorem ques_lies {b : List UInt8} {p : Nat} {x : Qn} {en : Nat} (h : LiesI b p (.q x) en) : (s3 b p) = ⟨(en : Nat), 0, 0⟩ ∧ quesR b p = x := by
  obtain ⟨i, ⟨ls, h1, h2, h3, h4, h5, h6⟩, rfl⟩ := h
  obtain ⟨e1, e2, e3, e4⟩ := ques_ok (rdaE h3 h1) h4
  refine ⟨e1, ?_⟩
  unfold quesR
  rw [e2, e3, e4, h5, h6, ← h2]
  rfl

theorem rec_lies {b : List UInt8} {p : Nat} {x : Rc} {en : Nat} (h : LiesI b p (.r x) en) (hb : b.length ≤ 1000000) (hx : (It.r x).err = 0) : (s6 b p) = ⟨(en : Nat), 0, 0⟩ ∧ recR b p = x := by
  obtain ⟨i, ⟨ls, h1, h2, h3, h4, h5, h6⟩, ⟨g1, g2, m, L, g3, g4, g5, g6, g7⟩⟩ := h
  have hl := (chkC_ok hx).2.2.1
  have hr := rdaE h3 h1
  obtain ⟨_, e2, e3, e4⟩ := ques_ok hr h4
  obtain ⟨_, e5, e6⟩ := head_ok hr g1
  obtain ⟨k1, k2⟩ := lies_rdR g5 g6 g4
  have hT : rT b p = x.t := e3.trans h5
  have hZ : rZ b p = m := e6.trans g3
  obtain ⟨f1, f2⟩ := data_ok (L := L) hr g1 (by rw [hZ, hT]; exact k1)
  have hle := g6.le
  have hw : wrap64 (((i + 10 : Nat) : Int) + rZ b p) = (en : Int) := by rw [hZ, IntWalk.wrap64_in _ ⟨by omega, by omega⟩, g7]; push_cast; rfl
  rw [hw] at f1
  have ht : ttlR (rL b p) = x.l := by rw [e5, g2]; unfold ttlR; rw [if_neg (by omega)]
  refine ⟨f1, ?_⟩
  unfold recR
  rw [e2, hT, e4, h6, ht, f2, k2, ← h2]

theorem rdQs_lies {b : List UInt8} : ∀ {l : List Qn} {p en : Nat}, LiesIs b p (l.map .q) en → rdQs b l.length p = .ok l en
  | [], p, en, h => by cases h; rfl
  | x :: l, p, en, h => by
    rw [List.map_cons] at h
    cases h with
    | cons h r =>
      obtain ⟨h1, h2⟩ := ques_lies h
      rw [List.length_cons, rdQs, h1, if_neg (by simp), h2]
      show (rdQs b l.length (Int.toNat (Nat.cast _))).cons x = _
      rw [Int.toNat_natCast, rdQs_lies r]
      rfl
theorem rdRs_lies {b : List UInt8} (hb : b.length ≤ 1000000) : ∀ {l : List Rc} {p en : Nat}, LiesIs b p (l.map .r) en → (∀ x ∈ l, (It.r x).err = 0) → rdRs b l.length p = .ok l en
  | [], p, en, h, _ => by cases h; rfl
  | x :: l, p, en, h, hx => by
    rw [List.map_cons] at h
    cases h with
    | cons h r =>
      obtain ⟨h1, h2⟩ := rec_lies h hb (hx x (by simp))
      rw [List.length_cons, rdRs, h1, if_neg (by simp), h2]
      show (rdRs b l.length (Int.toNat (Nat.cast _))).cons x = _
      rw [Int.toNat_natCast, rdRs_lies hb r fun y hy => hx y (by simp [hy])]
      rfl

theorem head_hd (m : Ms) (c : List UInt8) (h : chkM m = 0) : hd (headM m ++ c) 0 = m.id ∧ hd (headM m ++ c) 1 = m.fl ∧ hd (headM m ++ c) 2 = m.q.length ∧ hd (headM m ++ c) 3 = m.an.length ∧ hd (headM m ++ c) 4 = m.ns.length ∧ hd (headM m ++ c) 5 = m.ar.length := by
  obtain ⟨a1, a2, a3, a4, a5, a6, a7, a8, _⟩ := chkM_ok h
  have e0 := at2 [] (two m.fl ++ (two m.q.length ++ (two m.an.length ++ (two m.ns.length ++ (two m.ar.length ++ c))))) m.id a1 a2
  have e1 := at2 (two m.id) (two m.q.length ++ (two m.an.length ++ (two m.ns.length ++ (two m.ar.length ++ c)))) m.fl a3 a4
  have e2 := at2 (two m.id ++ two m.fl) (two m.an.length ++ (two m.ns.length ++ (two m.ar.length ++ c))) m.q.length (by omega) (by omega)
  have e3 := at2 (two m.id ++ two m.fl ++ two m.q.length) (two m.ns.length ++ (two m.ar.length ++ c)) m.an.length (by omega) (by omega)
  have e4 := at2 (two m.id ++ two m.fl ++ two m.q.length ++ two m.an.length) (two m.ar.length ++ c) m.ns.length (by omega) (by omega)
  have e5 := at2 (two m.id ++ two m.fl ++ two m.q.length ++ two m.an.length ++ two m.ns.length) c m.ar.length (by omega) (by omega)
  refine ⟨?_, ?_, ?_, ?_, ?_, ?_⟩
  · refine Eq.trans ?_ e0; unfold hd headM; simp [two_len]
  · refine Eq.trans ?_ e1; unfold hd headM; simp [two_len]
  · refine Eq.trans ?_ e2; unfold hd headM; simp [two_len]
  · refine Eq.trans ?_ e3; unfold hd headM; simp [two_len]
  · refine Eq.trans ?_ e4; unfold hd headM; simp [two_len]
  · refine Eq.trans ?_ e5; unfold hd headM; simp [two_len]

/-- What is written, with others behind: where its parts are read. -/
theorem wrM_steps {m : Ms} {z : List UInt8} {e : Int} (h : wrM m = (some z, e)) (c : List UInt8) (hc : (z ++ c).length ≤ 65535) :
    12 ≤ z.length ∧ rdM (z ++ c) = if z.length < (z ++ c).length then .bad 4 z.length else .ok m := by
  obtain ⟨_, hm, hz, r, hr, hL⟩ := wrM_lies h
  have h12 : 12 ≤ z.length := by rw [hr, List.length_append, headM_len]; omega
  have hL := hL.more c
  unfold Ms.its at hL
  obtain ⟨p1, L1, hL⟩ := hL.app
  obtain ⟨p2, L2, hL⟩ := hL.app
  obtain ⟨p3, L3, L4⟩ := hL.app
  have hall := (chkM_ok hm).2.2.2.2.2.2.2.2
  have hzc : z ++ c = headM m ++ (r ++ c) := by rw [hr, List.append_assoc]
  obtain ⟨d0, d1, d2, d3, d4, d5⟩ := head_hd m (r ++ c) hm
  rw [← hzc] at d0 d1 d2 d3 d4 d5
  have r1 := rdQs_lies L1
  have r2 := rdRs_lies (by omega) L2 fun x hx => hall _ (by unfold Ms.its; simp [hx])
  have r3 := rdRs_lies (by omega) L3 fun x hx => hall _ (by unfold Ms.its; simp [hx])
  have r4 := rdRs_lies (by omega) L4 fun x hx => hall _ (by unfold Ms.its; simp [hx])
  have := rdM_of hc (by rw [List.length_append]; omega) (by rw [d2, Int.toNat_natCast]; exact r1) (by rw [d3, Int.toNat_natCast]; exact r2) (by rw [d4, Int.toNat_natCast]; exact r3) (by rw [d5, Int.toNat_natCast]; exact r4)
  rw [d0, d1] at this
  exact ⟨h12, this⟩

/-- What is written is read as it was. -/
theorem wrM_back {m : Ms} {z : List UInt8} {e : Int} (h : wrM m = (some z, e)) : rdM z = .ok m := by
  have h2 := (wrM_lies h).2.2.1
  have := (wrM_steps h [] (by rw [List.append_nil]; exact h2)).2
  rw [List.append_nil, if_neg (by omega)] at this
  exact this

end Go.Proofs.YteegekpanadmkaaGreat

/-
  The numbers at a message's head: numbers, Head.
-/
namespace Go.Proofs.YteegekpanadmkaaGreat
open Go.RowKit Go.Shelf
set_option linter.unusedVariables false
set_option linter.unusedSimpArgs false
set_option maxRecDepth 100000

/-- The first k numbers, then noughts. -/
def pre (b : List UInt8) : Nat → List Value
  | 0 => [.int .i64 0, .int .i64 0, .int .i64 0, .int .i64 0, .int .i64 0, .int .i64 0]
  | k + 1 => (pre b k).set k (.int .i64 (hd b k))
theorem pre_len (b : List UInt8) : ∀ k, (pre b k).length = 6
  | 0 => rfl
  | k + 1 => by rw [pre, List.length_set]; exact pre_len b k

/-- What numbers tells. -/
def numsV (b : List UInt8) : Value := if 12 ≤ b.length then .tuple #[.agg #[.int .i64 (hd b 0), .int .i64 (hd b 1), .int .i64 (hd b 2), .int .i64 (hd b 3), .int .i64 (hd b 4), .int .i64 (hd b 5)], .int .i64 12, .agg #[.int .i64 0, .int .i64 0]]
  else .tuple #[.agg #[.int .i64 0, .int .i64 0, .int .i64 0, .int .i64 0, .int .i64 0, .int .i64 0], .int .i64 0, .agg #[.int .i64 4, .int .i64 b.length]]

theorem hd_ok {w : World} {lo hi : Nat} {vb : Value} {b : List UInt8} (hS : Sl w lo hi vb (iz b)) (hhi : hi ≤ w.heap.size) (hbl : b.length ≤ 300000) (k : Nat) (hk : 2 * k + 2 ≤ b.length) (K : Int) (hK : K = ((2 * k : Nat) : Int)) :
    Calls Tryz.prog 72 #[vb, .int .i64 K] w (Tells w (.tuple #[.int .i64 (hd b k), .int .i64 (K + 2), .agg #[.int .i64 0, .int .i64 0]])) := by
  subst hK
  refine (get16_any hS (iz_byte b) (by rw [iz_len]; omega) hhi ((2 * k : Nat) : Int)).mono ?_
  rintro e w' ⟨rfl, hb⟩
  refine ⟨?_, hb⟩
  unfold getF getE getA
  rw [iz_len, if_pos (by omega), if_pos (by omega), if_neg (by omega), if_neg (by omega), if_neg (by omega), Int.toNat_natCast]
  rfl
theorem hd_no {w : World} {lo hi : Nat} {vb : Value} {b : List UInt8} (hS : Sl w lo hi vb (iz b)) (hhi : hi ≤ w.heap.size) (hbl : b.length ≤ 300000) (k : Nat) (hk : b.length < 2 * k + 2) (hk2 : 2 * k ≤ b.length) (K : Int) (hK : K = ((2 * k : Nat) : Int)) :
    Calls Tryz.prog 72 #[vb, .int .i64 K] w (Tells w (.tuple #[.int .i64 0, .int .i64 0, .agg #[.int .i64 4, .int .i64 b.length]])) := by
  subst hK
  refine (get16_any hS (iz_byte b) (by rw [iz_len]; omega) hhi ((2 * k : Nat) : Int)).mono ?_
  rintro e w' ⟨rfl, hb⟩
  refine ⟨?_, hb⟩
  unfold getF getE getA
  rw [iz_len, if_neg (by omega), if_neg (by omega), if_neg (by omega), if_pos (by omega), if_pos (by omega)]

theorem cel_new2 (w : World) (a b : Value) (T : TypeId) : Cel (w.alloc (.cells #[a, b] T)) w.heap.size [a, b] := ⟨fun j hj => by
    match j, hj with
    | 0, _ => simp [go_sem]
    | 1, _ => simp [go_sem], fun j => by simp [go_sem]⟩

set_option maxHeartbeats 4000000 in
theorem nums_any {w : World} {lo hi : Nat} {vb : Value} {b : List UInt8} (hS : Sl w lo hi vb (iz b)) (hhi : hi ≤ w.heap.size) (hbl : b.length ≤ 300000) :
    Calls Tryz.prog 48 #[vb] w (Tells w (numsV b)) := by
  obtain ⟨H, hH⟩ : ∃ H, w.heap.size = H := ⟨_, rfl⟩
  obtain ⟨W1, hW1⟩ : ∃ W, w.alloc (.cells #[.int .i64 0, .int .i64 0, .int .i64 0, .int .i64 0, .int .i64 0, .int .i64 0] 84) = W := ⟨_, rfl⟩
  obtain ⟨W2, hW2⟩ : ∃ W, W1.alloc (.cells #[.int .i64 0, .int .i64 0] 42) = W := ⟨_, rfl⟩
  have s1 : W1.heap.size = H + 1 := by rw [← hW1, World.size_alloc, hH]
  have b1 : Below w.heap.size w W1 := by rw [← hW1]; exact (Below.refl _ _).alloc (Nat.le_refl _) _
  have b2 : Below w.heap.size w W2 := by rw [← hW2]; exact b1.alloc (by omega) _
  have x1 : Cel W1 H (pre b 0) := by rw [← hW1, ← hH]; exact cel_new6 w _ _ _ _ _ _ _
  have x2 : Cel W2 H (pre b 0) := x1.below (by rw [pre_len]; decide) (by rw [← hW2]; exact (Below.refl _ _).alloc (Nat.le_refl _) _)
  have y2 : Cel W2 (H + 1) [.int .i64 0, .int .i64 0] := by rw [← hW2, ← s1]; exact cel_new2 W1 _ _ _
  have HX := Lib.hid x2
  have HY := Lib.hid y2
  have HB := Lib.hid b2
  have HG := Lib.hid (fun wx (hb : Below w.heap.size w wx) k (hk : 2 * k + 2 ≤ b.length) K hK => hd_ok (hS.below hb hhi) (Nat.le_trans hhi hb.size) hbl k hk K hK)
  have HN := Lib.hid (fun wx (hb : Below w.heap.size w wx) k (hk : b.length < 2 * k + 2) (hk2 : 2 * k ≤ b.length) K hK => hd_no (hS.below hb hhi) (Nat.le_trans hhi hb.size) hbl k hk hk2 K hK)
  have HH := Lib.hid hH
  obtain ⟨V, hV⟩ : ∃ V, numsV b = V := ⟨_, rfl⟩
  rw [hV]
  unfold numsV at hV
  have HV := Lib.hid hV
  clear hV x1 x2 y2 b1 b2
  go_enter Tryz.func48, Tryz.ntmps48
  go_wp2_with fail
  go_loopg [3, 6] 6 (fun g v3 v6 wr => ∃ k : Nat, k + g = 6 ∧ v6 = .int .i64 k ∧ v3 = .int .i64 (2 * (k : Int)) ∧ 2 * k ≤ b.length ∧ Hid (Cel wr H (pre b k)) ∧ Hid (Cel wr (H + 1) [.int .i64 0, .int .i64 0]) ∧ Hid (Below w.heap.size w wr))
  case atStart => exact ⟨0, by omega, rfl, rfl, by omega, HX, HY, HB⟩
  case round =>
    clear HX HY HB hW1 hW2 s1
    obtain ⟨k, hk, rfl, rfl, hkl, HX, HY, HB⟩ := hrel
    by_cases hk6 : k < 6
    · by_cases hok : 2 * k + 2 ≤ b.length
      · have HC := Lib.hid (HG.out wr HB.out k hok (2 * (k : Int)) (by push_cast; rfl))
        obtain ⟨hv, hhv⟩ : ∃ x, hd b k = x := ⟨_, rfl⟩
        have HHV := Lib.hid hhv
        rw [hhv] at HC
        clear hhv
        go_wp2_with fail
        refine HC.out.mono ?_; rintro e w1 ⟨rfl, hb⟩
        replace HX := Lib.hid (HX.out.below (by rw [pre_len]; decide) hb)
        replace HY := Lib.hid (HY.out.below (by simp) hb)
        replace HB := Lib.hid (bel_call HB.out hb)
        have x1 := HX.out.c k (by rw [pre_len]; exact hk6)
        have f1 := HX.out.fz
        have y0 := HY.out.c 0 (by simp)
        have y1 := HY.out.c 1 (by simp)
        simp only [List.getElem_cons_zero, List.getElem_cons_succ] at y0 y1
        have f2 := HY.out.fz
        clear hb
        go_wp2_with fail
        go_roundg (6 - (k + 1))
        case measure => omega
        case rel =>
          refine ⟨k + 1, by omega, by go_num, (by congr 1; try (push_cast; try omega)), by omega, ?_, ?_, ?_⟩
          · have := ((HX.out.set (o := k) (by rw [pre_len]; exact hk6) (.int .i64 hv)).other (a := ⟨H + 1, 0, none⟩) (by simp) (.int .i64 0)).other (a := ⟨H + 1, 1, none⟩) (by simp) (.int .i64 0)
            rw [← HHV.out] at this ⊢
            exact this
          · have := ((HY.out.other (a := ⟨H, k, none⟩) (by simp) (.int .i64 hv)).set (o := 0) (by simp) (.int .i64 0)).set (o := 1) (by simp) (.int .i64 0)
            simp only [List.set_cons_zero, List.set_cons_succ] at this
            exact this
          · have hh := HH.out
            exact ((HB.out.setCell (by show w.heap.size ≤ H; omega) _).setCell (by show w.heap.size ≤ H + 1; omega) _).setCell (by show w.heap.size ≤ H + 1; omega) _
      · have HC := Lib.hid (HN.out wr HB.out k (by omega) hkl (2 * (k : Int)) (by push_cast; rfl))
        have HV2 := Lib.hid (show Value.tuple #[.agg #[.int .i64 0, .int .i64 0, .int .i64 0, .int .i64 0, .int .i64 0, .int .i64 0], .int .i64 0, .agg #[.int .i64 4, .int .i64 b.length]] = V by rw [← HV.out, if_neg (by omega)])
        clear HV
        go_wp2_with fail
        refine HC.out.mono ?_; rintro e w1 ⟨rfl, hb⟩
        replace HX := Lib.hid (HX.out.below (by rw [pre_len]; decide) hb)
        replace HY := Lib.hid (HY.out.below (by simp) hb)
        replace HB := Lib.hid (bel_call HB.out hb)
        have x1 := HX.out.c k (by rw [pre_len]; exact hk6)
        have f1 := HX.out.fz
        have y0 := HY.out.c 0 (by simp)
        have y1 := HY.out.c 1 (by simp)
        simp only [List.getElem_cons_zero, List.getElem_cons_succ] at y0 y1
        have f2 := HY.out.fz
        have hx1 := ((HX.out.set (o := k) (by rw [pre_len]; exact hk6) (.int .i64 0)).other (a := ⟨H + 1, 0, none⟩) (by simp) (.int .i64 4)).other (a := ⟨H + 1, 1, none⟩) (by simp) (.int .i64 b.length)
        have hy1 := ((HY.out.other (a := ⟨H, k, none⟩) (by simp) (.int .i64 0)).set (o := 0) (by simp) (.int .i64 4)).set (o := 1) (by simp) (.int .i64 b.length)
        simp only [List.set_cons_zero, List.set_cons_succ] at hy1
        have hb1 := ((HB.out.setCell (p := ⟨H, k, none⟩) (by have := HH.out; show w.heap.size ≤ H; omega) (.int .i64 0)).setCell (p := ⟨H + 1, 0, none⟩) (by have := HH.out; show w.heap.size ≤ H + 1; omega) (.int .i64 4)).setCell (p := ⟨H + 1, 1, none⟩) (by have := HH.out; show w.heap.size ≤ H + 1; omega) (.int .i64 b.length)
        obtain ⟨X, hX⟩ : ∃ X, ((w1.setCell ⟨H, k, none⟩ (.int .i64 0)).setCell ⟨H + 1, 0, none⟩ (.int .i64 4)).setCell ⟨H + 1, 1, none⟩ (.int .i64 b.length) = X := ⟨_, rfl⟩
        rw [hX] at hx1 hy1 hb1
        have HX1 := Lib.hid hx1
        have HY1 := Lib.hid hy1
        have HB1 := Lib.hid hb1
        have hl6 : ((pre b k).set k (.int .i64 0)).length = 6 := by rw [List.length_set, pre_len]
        have z0 := hx1.c 0 (by omega)
        have z1 := hx1.c 1 (by omega)
        have z2 := hx1.c 2 (by omega)
        have z3 := hx1.c 3 (by omega)
        have z4 := hx1.c 4 (by omega)
        have z5 := hx1.c 5 (by omega)
        have g1 := hx1.fz
        have q0 := hy1.c 0 (by simp)
        have q1 := hy1.c 1 (by simp)
        simp only [List.getElem_cons_zero, List.getElem_cons_succ] at q0 q1
        have g2 := hy1.fz
        obtain ⟨p0, hp0⟩ : ∃ p, ((pre b k).set k (.int .i64 0))[0]'(by omega) = p := ⟨_, rfl⟩
        obtain ⟨p1, hp1⟩ : ∃ p, ((pre b k).set k (.int .i64 0))[1]'(by omega) = p := ⟨_, rfl⟩
        obtain ⟨p2, hp2⟩ : ∃ p, ((pre b k).set k (.int .i64 0))[2]'(by omega) = p := ⟨_, rfl⟩
        obtain ⟨p3, hp3⟩ : ∃ p, ((pre b k).set k (.int .i64 0))[3]'(by omega) = p := ⟨_, rfl⟩
        obtain ⟨p4, hp4⟩ : ∃ p, ((pre b k).set k (.int .i64 0))[4]'(by omega) = p := ⟨_, rfl⟩
        obtain ⟨p5, hp5⟩ : ∃ p, ((pre b k).set k (.int .i64 0))[5]'(by omega) = p := ⟨_, rfl⟩
        rw [hp0] at z0
        rw [hp1] at z1
        rw [hp2] at z2
        rw [hp3] at z3
        rw [hp4] at z4
        rw [hp5] at z5
        clear hx1 hy1 hb1 hb hp0 hp1 hp2 hp3 hp4 hp5
        go_wp2_with fail
        go_region
        go_wp2_with fail
        have hc6 : Cel X H [p0, p1, p2, p3, p4, p5] := ⟨fun j hj => by
            match j, hj with
            | 0, _ => exact z0
            | 1, _ => exact z1
            | 2, _ => exact z2
            | 3, _ => exact z3
            | 4, _ => exact z4
            | 5, _ => exact z5
            , g1⟩
        have r6 := (((((((hc6.set (o := 0) (by simp) (.int .i64 0)).set (o := 1) (by simp) (.int .i64 0)).set (o := 2) (by simp) (.int .i64 0)).set (o := 3) (by simp) (.int .i64 0)).set (o := 4) (by simp) (.int .i64 0)).set (o := 5) (by simp) (.int .i64 0)).other (a := ⟨H + 1, 0, none⟩) (by simp) (.int .i64 4)).other (a := ⟨H + 1, 1, none⟩) (by simp) (.int .i64 b.length)
        have r2 := (((((((HY1.out.other (a := ⟨H, 0, none⟩) (by simp) (.int .i64 0)).other (a := ⟨H, 1, none⟩) (by simp) (.int .i64 0)).other (a := ⟨H, 2, none⟩) (by simp) (.int .i64 0)).other (a := ⟨H, 3, none⟩) (by simp) (.int .i64 0)).other (a := ⟨H, 4, none⟩) (by simp) (.int .i64 0)).other (a := ⟨H, 5, none⟩) (by simp) (.int .i64 0)).set (o := 0) (by simp) (.int .i64 4)).set (o := 1) (by simp) (.int .i64 b.length)
        simp only [List.set_cons_zero, List.set_cons_succ] at r6 r2
        have m0 := r6.c 0 (by simp)
        have m1 := r6.c 1 (by simp)
        have m2 := r6.c 2 (by simp)
        have m3 := r6.c 3 (by simp)
        have m4 := r6.c 4 (by simp)
        have m5 := r6.c 5 (by simp)
        have l0 := r2.c 0 (by simp)
        have l1 := r2.c 1 (by simp)
        simp only [List.getElem_cons_zero, List.getElem_cons_succ] at m0 m1 m2 m3 m4 m5 l0 l1
        clear z0 z1 z2 z3 z4 z5 q0 q1 x1 y0 y1 hc6 r6 r2
        refine bodyPost_ret (by simp [results, Tryz.results48, go_sem, m0, m1, m2, m3, m4, m5, l0, l1]; rfl) rfl ⟨by rw [← HV2.out], ?_⟩
        have hh := HH.out
        exact ((((((((HB1.out.setCell (by show w.heap.size ≤ H; omega) _).setCell (by show w.heap.size ≤ H; omega) _).setCell (by show w.heap.size ≤ H; omega) _).setCell (by show w.heap.size ≤ H; omega) _).setCell (by show w.heap.size ≤ H; omega) _).setCell (by show w.heap.size ≤ H; omega) _).setCell (by show w.heap.size ≤ H + 1; omega) _).setCell (by show w.heap.size ≤ H + 1; omega) _).drew
    · obtain rfl : k = 6 := by omega
      have HV2 := Lib.hid (show Value.tuple #[.agg #[.int .i64 (hd b 0), .int .i64 (hd b 1), .int .i64 (hd b 2), .int .i64 (hd b 3), .int .i64 (hd b 4), .int .i64 (hd b 5)], .int .i64 12, .agg #[.int .i64 0, .int .i64 0]] = V by rw [← HV.out, if_pos (by omega)])
      have hc6 : Cel wr H [.int .i64 (hd b 0), .int .i64 (hd b 1), .int .i64 (hd b 2), .int .i64 (hd b 3), .int .i64 (hd b 4), .int .i64 (hd b 5)] := by
        have := HX.out
        simpa [pre] using this
      clear HV HX
      obtain ⟨z0, z1, z2, z3, z4, z5⟩ := hc6.six
      have f1 := hc6.fz
      have y0 := HY.out.c 0 (by simp)
      have y1 := HY.out.c 1 (by simp)
      simp only [List.getElem_cons_zero, List.getElem_cons_succ] at y0 y1
      have f2 := HY.out.fz
      go_wp2_with fail
      have r6 := (((((((hc6.set (o := 0) (by simp) (.int .i64 (hd b 0))).set (o := 1) (by simp) (.int .i64 (hd b 1))).set (o := 2) (by simp) (.int .i64 (hd b 2))).set (o := 3) (by simp) (.int .i64 (hd b 3))).set (o := 4) (by simp) (.int .i64 (hd b 4))).set (o := 5) (by simp) (.int .i64 (hd b 5))).other (a := ⟨H + 1, 0, none⟩) (by simp) (.int .i64 0)).other (a := ⟨H + 1, 1, none⟩) (by simp) (.int .i64 0)
      have r2 := (((((((HY.out.other (a := ⟨H, 0, none⟩) (by simp) (.int .i64 (hd b 0))).other (a := ⟨H, 1, none⟩) (by simp) (.int .i64 (hd b 1))).other (a := ⟨H, 2, none⟩) (by simp) (.int .i64 (hd b 2))).other (a := ⟨H, 3, none⟩) (by simp) (.int .i64 (hd b 3))).other (a := ⟨H, 4, none⟩) (by simp) (.int .i64 (hd b 4))).other (a := ⟨H, 5, none⟩) (by simp) (.int .i64 (hd b 5))).set (o := 0) (by simp) (.int .i64 0)).set (o := 1) (by simp) (.int .i64 0)
      simp only [List.set_cons_zero, List.set_cons_succ] at r6 r2
      obtain ⟨m0, m1, m2, m3, m4, m5⟩ := r6.six
      have l0 := r2.c 0 (by simp)
      have l1 := r2.c 1 (by simp)
      simp only [List.getElem_cons_zero, List.getElem_cons_succ] at l0 l1
      clear z0 z1 z2 z3 z4 z5 y0 y1 hc6 r6 r2
      refine bodyPost_ret (by simp [results, Tryz.results48, go_sem, m0, m1, m2, m3, m4, m5, l0, l1]; rfl) rfl ⟨by rw [← HV2.out], ?_⟩
      have hh := HH.out
      exact ((((((((HB.out.setCell (by show w.heap.size ≤ H; omega) _).setCell (by show w.heap.size ≤ H; omega) _).setCell (by show w.heap.size ≤ H; omega) _).setCell (by show w.heap.size ≤ H; omega) _).setCell (by show w.heap.size ≤ H; omega) _).setCell (by show w.heap.size ≤ H; omega) _).setCell (by show w.heap.size ≤ H + 1; omega) _).setCell (by show w.heap.size ≤ H + 1; omega) _)

end Go.Proofs.YteegekpanadmkaaGreat

/-
  An entry of a list is read, and laid behind the others.
-/
namespace Go.Proofs.YteegekpanadmkaaGreat
open Go.RowKit Go.Shelf
set_option linter.unusedVariables false
set_option linter.unusedSimpArgs false
set_option maxRecDepth 100000

/-- What comes of reading an entry: the list that stands in cell o of block M has it behind the others. -/
def RdPost (w : World) (M o : Nat) (xs : List Value) (v : Value) (own : World → Value → Prop) (E F A : Int) (x : Ending) (w' : World) : Prop :=
  ∃ v', x = .returned (.tuple #[.int .i64 E, .agg #[.int .i64 F, .int .i64 A]]) ∧ Cel w' M (xs.set o v') ∧ own w' v' ∧ Aside (fun k => k = M ∨ v.ownBlock = some k) w w' ∧ (v'.ownBlock = v.ownBlock ∨ ∃ k, v'.ownBlock = some k ∧ w.heap.size ≤ k)

theorem info_qn : (Tryz.prog.info? 56).map (fun i => (i.zero, i.size, i.bytes)) = some (some (.agg #[.string ⟨#[]⟩, .int .i64 0, .int .i64 0]), 3, 32) := by kernel_rfl
theorem info_rc : (Tryz.prog.info? 52).map (fun i => (i.zero, i.size, i.bytes)) = some (some (.agg #[.string ⟨#[]⟩, .int .i64 0, .int .i64 0, .int .i64 0, .string ⟨#[]⟩]), 5, 56) := by kernel_rfl

/-- append to rows of questions, of records. -/
theorem run_appQn {w : World} {B hi : Nat} {v u : Value} {l m : List Qn} (h : OwnQn w B v l) (hx : SQ w hi u m) (hnm : l.length + m.length ≤ 1000000) (hB : B ≤ w.heap.size) :
    ∃ a' c' w', (Builtin.append_ #[22, 22] 22 #[v, u]).run Tryz.prog w = .ok (.slice a' (l.length + m.length) c') w' ∧ OwnQn w' B (.slice a' (l.length + m.length) c') (l ++ m) ∧ Aside (fun b => v.ownBlock = some b) w w' ∧
      ((Value.slice a' (l.length + m.length) c').ownBlock = v.ownBlock ∨ (Value.slice a' (l.length + m.length) c').ownBlock = some w.heap.size) := by
  obtain ⟨i0, hi, hz0, hz1, hz2⟩ := info_parts info_qn
  obtain ⟨a', c', w', h1, h2, h3, h4⟩ := row_more (ty := 22) 32 Tryz.underlying22 hi hz0 hz1 hz2 rfl (by decide) (by decide) h hx (acq_len m) (acq_one m) hnm hB
  refine ⟨a', c', w', h1, ?_, h3, h4⟩
  unfold OwnQn
  rw [List.length_append, acq_app]
  exact h2
theorem run_appRc {w : World} {B hi : Nat} {v u : Value} {l m : List Rc} (h : OwnRc w B v l) (hx : SR w hi u m) (hnm : l.length + m.length ≤ 1000000) (hB : B ≤ w.heap.size) :
    ∃ a' c' w', (Builtin.append_ #[23, 23] 23 #[v, u]).run Tryz.prog w = .ok (.slice a' (l.length + m.length) c') w' ∧ OwnRc w' B (.slice a' (l.length + m.length) c') (l ++ m) ∧ Aside (fun b => v.ownBlock = some b) w w' ∧
      ((Value.slice a' (l.length + m.length) c').ownBlock = v.ownBlock ∨ (Value.slice a' (l.length + m.length) c').ownBlock = some w.heap.size) := by
  obtain ⟨i0, hi, hz0, hz1, hz2⟩ := info_parts info_rc
  obtain ⟨a', c', w', h1, h2, h3, h4⟩ := row_more (ty := 23) 56 Tryz.underlying23 hi hz0 hz1 hz2 rfl (by decide) (by decide) h hx (acr_len m) (acr_one m) hnm hB
  refine ⟨a', c', w', h1, ?_, h3, h4⟩
  unfold OwnRc
  rw [List.length_append, acr_app]
  exact h2

/-- One that was just built, as a slice. -/
theorem sq_one (w : World) (x : Qn) : SQ (w.alloc (.cells #[.string (bs x.n), .int .i64 x.t, .int .i64 x.c] 56)) (w.heap.size + 1) (.slice (some ⟨w.heap.size, 0, none⟩) 1 1) [x] :=
  ⟨_, 1, rfl, by simp, fun h => by simp at h, fun _ => ⟨w.heap.size, 0, rfl, by omega, fun i u hu => by
    have hc := cel_new3 w (.string (bs x.n)) (.int .i64 x.t) (.int .i64 x.c) 56
    rw [Nat.zero_add]
    match i, hu with
    | 0, hu => rw [hc.c 0 (by simp)]; simpa [acq, cq] using hu
    | 1, hu => rw [hc.c 1 (by simp)]; simpa [acq, cq] using hu
    | 2, hu => rw [hc.c 2 (by simp)]; simpa [acq, cq] using hu
    | i + 3, hu => simp [acq, cq] at hu⟩⟩
theorem sr_one (w : World) (x : Rc) : SR (w.alloc (.cells #[.string (bs x.n), .int .i64 x.t, .int .i64 x.c, .int .i64 x.l, .string (bs x.d)] 52)) (w.heap.size + 1) (.slice (some ⟨w.heap.size, 0, none⟩) 1 1) [x] :=
  ⟨_, 1, rfl, by simp, fun h => by simp at h, fun _ => ⟨w.heap.size, 0, rfl, by omega, fun i u hu => by
    have hc := cel_new w (.string (bs x.n)) (.int .i64 x.t) (.int .i64 x.c) (.int .i64 x.l) (.string (bs x.d)) 52
    rw [Nat.zero_add]
    match i, hu with
    | 0, hu => rw [hc.c 0 (by simp)]; simpa [acr, cr] using hu
    | 1, hu => rw [hc.c 1 (by simp)]; simpa [acr, cr] using hu
    | 2, hu => rw [hc.c 2 (by simp)]; simpa [acr, cr] using hu
    | 3, hu => rw [hc.c 3 (by simp)]; simpa [acr, cr] using hu
    | 4, hu => rw [hc.c 4 (by simp)]; simpa [acr, cr] using hu
    | i + 5, hu => simp [acr, cr] at hu⟩⟩

set_option maxHeartbeats 8000000 in
theorem readQ_gen {w : World} {M o B : Nat} {xs : List Value} {v vb : Value} {l : List Qn} (a : Int) (x : Qn) (E F A : Int) (hm : Cel w M xs) (ho : o < xs.length) (hv : xs[o] = v) (how : OwnQn w B v l) (hMB : M < B) (hB : B ≤ w.heap.size) (hln : l.length + 1 ≤ 1000000)
    (hc : ∀ wx, Below w.heap.size w wx → Calls Tryz.prog 123 #[vb, .int .i64 a] wx (Tells wx (.tuple #[.agg #[.string (bs x.n), .int .i64 x.t, .int .i64 x.c], .int .i64 E, .agg #[.int .i64 F, .int .i64 A]]))) :
    Calls Tryz.prog 120 #[.agg #[.pointer (some ⟨M, o, none⟩)], vb, .int .i64 a] w (RdPost w M o xs v (fun w' v' => OwnQn w' B v' (l ++ [x])) E F A) := by
  obtain ⟨g0, hg0⟩ : ∃ g, w.heap.size = g := ⟨_, rfl⟩
  obtain ⟨W1, hW1⟩ : ∃ W, w.alloc (.cells #[.pointer (some ⟨M, o, none⟩)] 117) = W := ⟨_, rfl⟩
  obtain ⟨W2, hW2⟩ : ∃ W, W1.alloc (.cells #[.int .i64 0, .int .i64 0] 42) = W := ⟨_, rfl⟩
  have s1 : W1.heap.size = g0 + 1 := by rw [← hW1, World.size_alloc, hg0]
  have s2 : W2.heap.size = g0 + 2 := by rw [← hW2, World.size_alloc, s1]
  have b2 : Below w.heap.size w W2 := by rw [← hW2, ← hW1]; exact ((Below.refl _ _).alloc (Nat.le_refl _) _).alloc (by simp) _
  have x1 : Cel W2 g0 [.pointer (some ⟨M, o, none⟩)] := by
    have := cel_new1 w (.pointer (some ⟨M, o, none⟩)) 117
    rw [hW1, hg0] at this
    exact this.below (by simp) (by rw [← hW2]; exact (Below.refl _ _).alloc (Nat.le_refl _) _)
  have x7 : Cel W2 (g0 + 1) [.int .i64 0, .int .i64 0] := by
    have := cel_new2 W1 (.int .i64 0) (.int .i64 0) 42
    rwa [hW2, s1] at this
  have HCB := Lib.hid x1
  have HC7 := Lib.hid x7
  have HXL := Lib.hid (show 0 < xs.length by omega)
  have HCM := Lib.hid (hm.below HXL.out b2)
  have HOW0 := Lib.hid how
  have HOW := Lib.hid (row_below how b2)
  have HAS := Lib.hid (Aside.of_all b2 : Aside (fun k => k = M ∨ v.ownBlock = some k) w W2)
  have HO := Lib.hid ho
  have HV := Lib.hid hv
  have HMB := Lib.hid hMB
  have HBB := Lib.hid hB
  have HLN := Lib.hid (show l.length + [x].length ≤ 1000000 from hln)
  have HG0 := Lib.hid hg0
  have HC := Lib.hid (hc W2 b2)
  clear hm how b2 x1 x7 hc hMB hB hv
  go_enter Tryz.func120, Tryz.ntmps120
  go_wp2_with fail
  refine HC.out.mono ?_; rintro e w3 ⟨rfl, hb⟩
  obtain ⟨g1, hg1⟩ : ∃ g, w3.heap.size = g := ⟨_, rfl⟩
  have HG1 := Lib.hid (show g0 + 2 ≤ g1 by have := hb.size; omega)
  obtain ⟨W4, hW4⟩ : ∃ W, w3.alloc (.cells #[.string (bs x.n), .int .i64 x.t, .int .i64 x.c] 56) = W := ⟨_, rfl⟩
  obtain ⟨W5, hW5⟩ : ∃ W, W4.alloc (.cells #[.int .i64 F, .int .i64 A] 42) = W := ⟨_, rfl⟩
  have s4 : W4.heap.size = g1 + 1 := by rw [← hW4, World.size_alloc, hg1]
  have b5 : Below W2.heap.size W2 W5 := by rw [← hW5, ← hW4]; exact (hb.alloc hb.size _).alloc (by simp; exact Nat.le_succ_of_le hb.size) _
  have xq : Cel W5 g1 [.string (bs x.n), .int .i64 x.t, .int .i64 x.c] := by
    have := cel_new3 w3 (.string (bs x.n)) (.int .i64 x.t) (.int .i64 x.c) 56
    rw [hW4, hg1] at this
    exact this.below (by simp) (by rw [← hW5]; exact (Below.refl _ _).alloc (Nat.le_refl _) _)
  have xf : Cel W5 (g1 + 1) [.int .i64 F, .int .i64 A] := by
    have := cel_new2 W4 (.int .i64 F) (.int .i64 A) 42
    rwa [hW5, s4] at this
  replace HCB := Lib.hid (HCB.out.below (by simp) b5)
  replace HC7 := Lib.hid (HC7.out.below (by simp) b5)
  replace HCM := Lib.hid (HCM.out.below HXL.out b5)
  replace HOW := Lib.hid (row_below HOW.out b5)
  replace HAS := Lib.hid (HAS.out.trans (Aside.of_all b5))
  have HCQ := Lib.hid xq
  have s5 : W5.heap.size = g1 + 2 := by rw [← hW5, World.size_alloc, s4]
  have HCF := Lib.hid xf
  obtain ⟨WX, hWX⟩ : ∃ X, W5.drew = X := ⟨_, rfl⟩
  have HS5 := Lib.hid (show g1 + 2 ≤ WX.heap.size by rw [← hWX]; exact Nat.le_of_eq s5.symm)
  have b6 : Below W5.heap.size W5 WX := by rw [← hWX]; exact (Below.refl _ _).drew
  replace HCB := Lib.hid (HCB.out.below (by simp) b6)
  replace HC7 := Lib.hid (HC7.out.below (by simp) b6)
  replace HCM := Lib.hid (HCM.out.below HXL.out b6)
  replace HOW := Lib.hid (row_below HOW.out b6)
  replace HAS := Lib.hid (HAS.out.trans (Aside.of_all b6))
  replace HCQ := Lib.hid (HCQ.out.below (by simp) b6)
  replace HCF := Lib.hid (HCF.out.below (by simp) b6)
  have d1 : WX.cell? ⟨M, o, none⟩ = some v := by have := HCM.out.c o HO.out; rw [HV.out] at this; exact this
  clear xq xf b5 b6 hb HC s5
  go_wp2_with fail
  refine wp_region_held_drew (S := (fun wx => wx.cell? ⟨g0, 0, none⟩ = some (.pointer (some ⟨M, o, none⟩)) ∧ wx.cell? ⟨g1, 0, none⟩ = some (.string (bs x.n)) ∧ wx.cell? ⟨g1, 1, none⟩ = some (.int .i64 x.t) ∧ wx.cell? ⟨g1, 2, none⟩ = some (.int .i64 x.c))) (by kernel_rfl) (by rw [hWX]; exact ⟨HCB.out.c 0 (by simp), HCQ.out.c 0 (by simp), HCQ.out.c 1 (by simp), HCQ.out.c 2 (by simp)⟩) (fun hHeld => ?_)
  refine wpAnyH_take (i := 0) (oi := { dst := some 18, op := Op.fieldAddr 117 (Operand.tmp 3) 0, type := 0, pos := "list.go:50", after := #[], guard := none }) (v := ?_) rfl (by kernel_rfl) (by kernel_rfl) (by kernel_rfl) (fun _ _ _ h => h) (Or.inl ⟨by rfl, ?_⟩) (by assumption) ?_
  rotate_left 1
  · intro w hSw; (try dsimp only at hSw); go_simp; try (with_reducible rfl)
  try simp only [Act.put, List.setIfInBounds_toArray, List.set_cons_zero, List.set_cons_succ]
  refine wpAnyH_take (i := 1) (oi := { dst := some 19, op := Op.load 115 (Operand.tmp 18), type := 115, pos := "list.go:50", after := #[{ on := 0, ground := Ground.data }], guard := none }) (v := ?_) rfl (by kernel_rfl) (by kernel_rfl) (by kernel_rfl) (fun _ _ _ h => h) (Or.inl ⟨by rfl, ?_⟩) (by assumption) ?_
  rotate_left 1
  · intro w hSw; (try dsimp only at hSw); go_simp; try (with_reducible rfl)
  try simp only [Act.put, List.setIfInBounds_toArray, List.set_cons_zero, List.set_cons_succ]
  refine wpAnyH_take (i := 2) (oi := { dst := some 20, op := Op.fieldAddr 117 (Operand.tmp 3) 0, type := 0, pos := "list.go:50", after := #[], guard := none }) (v := ?_) rfl (by kernel_rfl) (by kernel_rfl) (by kernel_rfl) (fun _ _ _ h => h) (Or.inl ⟨by rfl, ?_⟩) (by assumption) ?_
  rotate_left 1
  · intro w hSw; (try dsimp only at hSw); go_simp; try (with_reducible rfl)
  try simp only [Act.put, List.setIfInBounds_toArray, List.set_cons_zero, List.set_cons_succ]
  refine wpAnyH_take (i := 3) (oi := { dst := some 21, op := Op.load 115 (Operand.tmp 20), type := 115, pos := "list.go:50", after := #[{ on := 2, ground := Ground.data }], guard := none }) (v := ?_) rfl (by kernel_rfl) (by kernel_rfl) (by kernel_rfl) (fun _ _ _ h => h) (Or.inl ⟨by rfl, ?_⟩) (by assumption) ?_
  rotate_left 1
  · intro w hSw; (try dsimp only at hSw); go_simp; try (with_reducible rfl)
  try simp only [Act.put, List.setIfInBounds_toArray, List.set_cons_zero, List.set_cons_succ]
  refine wpAnyH_take (i := 4) (oi := { dst := some 22, op := Op.nilCheck (Operand.tmp 21), type := 0, pos := "list.go:50", after := #[{ on := 3, ground := Ground.data }], guard := none }) (v := ?_) rfl (by kernel_rfl) (by kernel_rfl) (by kernel_rfl) (fun _ _ _ h => h) (Or.inl ⟨by rfl, ?_⟩) (by assumption) ?_
  rotate_left 1
  · intro w hSw; (try dsimp only at hSw); go_simp; try (with_reducible rfl)
  try simp only [Act.put, List.setIfInBounds_toArray, List.set_cons_zero, List.set_cons_succ]
  refine wpAnyH_take (i := 6) (oi := { dst := some 24, op := Op.load 56 (Operand.tmp 8), type := 56, pos := "list.go:50", after := #[], guard := none }) (v := ?_) rfl (by kernel_rfl) (by kernel_rfl) (by kernel_rfl) (fun _ _ _ h => h) (Or.inl ⟨by rfl, ?_⟩) (by assumption) ?_
  rotate_left 1
  · intro w hSw; (try dsimp only at hSw); go_simp; try (with_reducible rfl)
  try simp only [Act.put, List.setIfInBounds_toArray, List.set_cons_zero, List.set_cons_succ]
  refine wpAnyH_ready (rs := [5, 7]) (by kernel_rfl) (by simp) ?_
  refine AllReadyH.cons (o := { dst := some 23, op := Op.load 22 (Operand.tmp 22), type := 22, pos := "list.go:50", after := #[{ on := 4, ground := Ground.data }], guard := none }) rfl (fun K hK => ?_) (AllReadyH.cons (o := { dst := some 25, op := Op.buildSlice 22 1 #[(0, Operand.tmp 24)], type := 22, pos := "list.go:50", after := #[{ on := 6, ground := Ground.data }], guard := none }) rfl (fun K hK => ?_) (AllReadyH.nil))
  · go_simp
    refine hK.out _ _ ⟨HCB.out.c 0 (by simp), HCQ.out.c 0 (by simp), HCQ.out.c 1 (by simp), HCQ.out.c 2 (by simp)⟩ (fun hHeld => ?_)
    clear hK K
    try simp only [Act.put, List.setIfInBounds_toArray, List.set_cons_zero, List.set_cons_succ]
    refine wpAnyH_ready (rs := [7]) (by kernel_rfl) (by simp) ?_
    refine AllReadyH.cons (o := { dst := some 25, op := Op.buildSlice 22 1 #[(0, Operand.tmp 24)], type := 22, pos := "list.go:50", after := #[{ on := 6, ground := Ground.data }], guard := none }) rfl (fun K hK => ?_) (AllReadyH.nil)
    go_simp
    have hb : Below WX.heap.size WX (WX.alloc (.cells #[.string (bs x.n), .int .i64 x.t, .int .i64 x.c] 56)) := (Below.refl _ _).alloc (Nat.le_refl _) _
    have HONE := Lib.hid (sq_one WX x)
    replace HCB := Lib.hid (HCB.out.below (by simp) hb)
    replace HC7 := Lib.hid (HC7.out.below (by simp) hb)
    replace HCQ := Lib.hid (HCQ.out.below (by simp) hb)
    replace HCF := Lib.hid (HCF.out.below (by simp) hb)
    replace HCM := Lib.hid (HCM.out.below HXL.out hb)
    replace HOW := Lib.hid (row_below HOW.out hb)
    replace HAS := Lib.hid (HAS.out.trans (Aside.of_all hb))
    clear hb d1
    have d1 : (WX.alloc (.cells #[.string (bs x.n), .int .i64 x.t, .int .i64 x.c] 56)).cell? ⟨M, o, none⟩ = some v := by have := HCM.out.c o HO.out; rw [HV.out] at this; exact this
    refine hK.out _ _ ⟨HCB.out.c 0 (by simp), HCQ.out.c 0 (by simp), HCQ.out.c 1 (by simp), HCQ.out.c 2 (by simp)⟩ (fun hHeld => ?_)
    clear hK K
    try simp only [Act.put, List.setIfInBounds_toArray, List.set_cons_zero, List.set_cons_succ]
    refine wpAnyH_ready (rs := [8]) (by kernel_rfl) (by simp) ?_
    refine AllReadyH.cons (o := { dst := some 26, op := Op.call { callee := Callee.builtin Builtin.append, args := #[Operand.tmp 23, Operand.tmp 25], argTypes := #[22, 22] }, type := 22, pos := "list.go:50", after := #[{ on := 5, ground := Ground.data }, { on := 7, ground := Ground.data }], guard := none }) rfl (fun K hK => ?_) (AllReadyH.nil)
    obtain ⟨a2, c2, w6, hrun, ho6, ha6, hk6⟩ := run_appQn HOW.out HONE.out HLN.out (Nat.le_trans HBB.out HAS.out.size)
    simp only [List.length_singleton] at hrun ho6 hk6
    have HRUN := Lib.hid hrun
    have hlt := World.ownsRow.lt HOW0.out
    have hG : ∀ k, k < B ∨ g0 ≤ k → ¬ v.ownBlock = some k := fun k hk hg => by have := hlt k hg; have := HG0.out; omega
    replace HCB := Lib.hid (HCB.out.aside (by simp) ha6 (hG _ (by omega)))
    replace HC7 := Lib.hid (HC7.out.aside (by simp) ha6 (hG _ (by omega)))
    replace HCQ := Lib.hid (HCQ.out.aside (by simp) ha6 (hG _ (by have := HG1.out; omega)))
    replace HCF := Lib.hid (HCF.out.aside (by simp) ha6 (hG _ (by have := HG1.out; omega)))
    replace HCM := Lib.hid (HCM.out.aside HXL.out ha6 (hG _ (.inl HMB.out)))
    have HAS6 := Lib.hid (HAS.out.trans (ha6.mono fun k _ hk => .inr hk))
    have HO6 := Lib.hid ho6
    have HK6 := Lib.hid hk6
    clear d1
    have d1 : w6.cell? ⟨M, o, none⟩ = some v := by have := HCM.out.c o HO.out; rw [HV.out] at this; exact this
    have f1 := HCM.out.fz
    clear hrun ho6 ha6 hk6 hlt hG
    refine oper_app_run (.tmp 23) (.tmp 25) 22 22 rfl rfl rfl rfl HRUN.out ?_
    refine hK.out _ _ ⟨HCB.out.c 0 (by simp), HCQ.out.c 0 (by simp), HCQ.out.c 1 (by simp), HCQ.out.c 2 (by simp)⟩ (fun hHeld => ?_)
    clear hK K
    try simp only [Act.put, List.setIfInBounds_toArray, List.set_cons_zero, List.set_cons_succ]
    refine wpAnyH_take (i := 9) (oi := { dst := some 27, op := Op.nilCheck (Operand.tmp 19), type := 0, pos := "list.go:50", after := #[{ on := 1, ground := Ground.data }, { on := 0, ground := Ground.phase }, { on := 1, ground := Ground.phase }, { on := 2, ground := Ground.phase }, { on := 3, ground := Ground.phase }, { on := 4, ground := Ground.phase }, { on := 5, ground := Ground.phase }, { on := 6, ground := Ground.phase }, { on := 7, ground := Ground.phase }, { on := 8, ground := Ground.phase }], guard := none }) (v := ?_) rfl (by kernel_rfl) (by kernel_rfl) (by kernel_rfl) (fun _ _ _ h => h) (Or.inl ⟨by rfl, ?_⟩) (by assumption) ?_
    rotate_left 1
    · intro w hSw; (try dsimp only at hSw); go_simp; try (with_reducible rfl)
    try simp only [Act.put, List.setIfInBounds_toArray, List.set_cons_zero, List.set_cons_succ]
    refine wpAnyH_ready (rs := [10]) (by kernel_rfl) (by simp) ?_
    refine AllReadyH.cons (o := { dst := none, op := Op.store 22 (Operand.tmp 27) (Operand.tmp 26), type := 0, pos := "list.go:50", after := #[{ on := 9, ground := Ground.data }, { on := 8, ground := Ground.data }, { on := 8, ground := Ground.chain }, { on := 0, ground := Ground.phase }, { on := 1, ground := Ground.phase }, { on := 2, ground := Ground.phase }, { on := 3, ground := Ground.phase }, { on := 4, ground := Ground.phase }, { on := 5, ground := Ground.phase }, { on := 6, ground := Ground.phase }, { on := 7, ground := Ground.phase }, { on := 8, ground := Ground.phase }], guard := none }) rfl (fun K hK => ?_) (AllReadyH.nil)
    go_simp
    replace HCB := Lib.hid (HCB.out.other (a := ⟨M, o, none⟩) (by have := HMB.out; have := HBB.out; have := HG0.out; show M ≠ g0; omega) (.slice a2 (l.length + 1) c2))
    replace HC7 := Lib.hid (HC7.out.other (a := ⟨M, o, none⟩) (by have := HMB.out; have := HBB.out; have := HG0.out; show M ≠ g0 + 1; omega) (.slice a2 (l.length + 1) c2))
    replace HCQ := Lib.hid (HCQ.out.other (a := ⟨M, o, none⟩) (by have := HMB.out; have := HBB.out; have := HG0.out; have := HG1.out; show M ≠ g1; omega) (.slice a2 (l.length + 1) c2))
    replace HCF := Lib.hid (HCF.out.other (a := ⟨M, o, none⟩) (by have := HMB.out; have := HBB.out; have := HG0.out; have := HG1.out; show M ≠ g1 + 1; omega) (.slice a2 (l.length + 1) c2))
    replace HCM := Lib.hid (HCM.out.set HO.out (.slice a2 (l.length + 1) c2))
    replace HAS6 := Lib.hid (HAS6.out.trans (Aside.setCell w6 (p := ⟨M, o, none⟩) (.slice a2 (l.length + 1) c2) (.inl rfl)))
    replace HO6 := Lib.hid (row_aside (G := fun k => k = M) HO6.out (Aside.setCell w6 (p := ⟨M, o, none⟩) (.slice a2 (l.length + 1) c2) rfl) (fun k hk hg => by have := (World.ownsRow.lt HO6.out k hk).1; have := HMB.out; omega))
    refine hK.out _ _ ⟨HCB.out.c 0 (by simp), HCQ.out.c 0 (by simp), HCQ.out.c 1 (by simp), HCQ.out.c 2 (by simp)⟩ (fun hHeld => ?_)
    clear hK K
    try simp only [Act.put, List.setIfInBounds_toArray, List.set_cons_zero, List.set_cons_succ]
    refine wpAnyH_done (by kernel_rfl) ?_ _
    clear hHeld
    obtain ⟨X, hX⟩ : ∃ X, w6.setCell ⟨M, o, none⟩ (.slice a2 (l.length + 1) c2) = X := ⟨_, rfl⟩
    rw [hX] at HCB HC7 HCQ HCF HCM HAS6 HO6 ⊢
    clear hX HONE HRUN d1 f1
    have y0 := HCF.out.c 0 (by simp)
    have y1 := HCF.out.c 1 (by simp)
    have z0 := HC7.out.c 0 (by simp)
    have z1 := HC7.out.c 1 (by simp)
    simp only [List.getElem_cons_zero, List.getElem_cons_succ] at y0 y1 z0 z1
    have f7 := HC7.out.fz
    go_wp2_with fail
    go_region
    go_wp2_with fail
    have r7 := (HC7.out.set (o := 0) (by simp) (.int .i64 F)).set (o := 1) (by simp) (.int .i64 A)
    simp only [List.set_cons_zero, List.set_cons_succ] at r7
    have m0 := r7.c 0 (by simp)
    have m1 := r7.c 1 (by simp)
    simp only [List.getElem_cons_zero, List.getElem_cons_succ] at m0 m1
    clear y0 y1 z0 z1 f7 r7
    have hk6 := HK6.out
    have hlt0 := World.ownsRow.lt HOW0.out
    have hnb : ∀ k, (Value.slice a2 (l.length + 1) c2).ownBlock = some k → ¬ k = g0 + 1 := fun k hk hg => by
      have h0 := HG0.out
      have h5 := HS5.out
      rcases hk6 with h | h
      · have := hlt0 k (by rw [← h]; exact hk); omega
      · rw [h] at hk; injection hk with hk; simp only [World.size_alloc] at hk; have := HG1.out; omega
    have hne : (⟨M, 0, none⟩ : Addr).block ≠ g0 + 1 := by have := HMB.out; have := HBB.out; have := HG0.out; show M ≠ g0 + 1; omega
    have hst : Aside (fun k => k = g0 + 1) X ((X.setCell ⟨g0 + 1, 0, none⟩ (.int .i64 F)).setCell ⟨g0 + 1, 1, none⟩ (.int .i64 A)).drew := by
      have h1 : Aside (fun k => k = g0 + 1) X (X.setCell ⟨g0 + 1, 0, none⟩ (.int .i64 F)) := Aside.setCell X (p := ⟨g0 + 1, 0, none⟩) _ rfl
      have h2 : Aside (fun k => k = g0 + 1) (X.setCell ⟨g0 + 1, 0, none⟩ (.int .i64 F)) ((X.setCell ⟨g0 + 1, 0, none⟩ (.int .i64 F)).setCell ⟨g0 + 1, 1, none⟩ (.int .i64 A)) := Aside.setCell _ (p := ⟨g0 + 1, 1, none⟩) _ rfl
      have h3 := h1.trans h2
      exact ⟨h3.os, h3.tape, h3.output, h3.size, h3.block⟩
    refine bodyPost_ret (by simp [results, Tryz.results120, go_sem, m0, m1]) rfl ⟨.slice a2 (l.length + 1) c2, rfl, ?_, ?_, ?_, ?_⟩
    · have := (HCM.out.other (a := ⟨g0 + 1, 0, none⟩) (fun h => hne h.symm) (.int .i64 F)).other (a := ⟨g0 + 1, 1, none⟩) (fun h => hne h.symm) (.int .i64 A)
      exact ⟨this.c, this.fz⟩
    · exact row_aside (G := fun k => k = g0 + 1) HO6.out hst hnb
    · exact HAS6.out.onto (M := fun k => k = g0 + 1) hst (fun k hk _ hg => by have := HG0.out; omega)
    · rcases hk6 with h | h
      · exact .inl h
      · refine .inr ⟨_, h, ?_⟩
        have h0 := HG0.out
        have h5 := HS5.out
        have := HG1.out
        simp only [World.size_alloc]
        omega
  · go_simp
    have hb : Below WX.heap.size WX (WX.alloc (.cells #[.string (bs x.n), .int .i64 x.t, .int .i64 x.c] 56)) := (Below.refl _ _).alloc (Nat.le_refl _) _
    have HONE := Lib.hid (sq_one WX x)
    replace HCB := Lib.hid (HCB.out.below (by simp) hb)
    replace HC7 := Lib.hid (HC7.out.below (by simp) hb)
    replace HCQ := Lib.hid (HCQ.out.below (by simp) hb)
    replace HCF := Lib.hid (HCF.out.below (by simp) hb)
    replace HCM := Lib.hid (HCM.out.below HXL.out hb)
    replace HOW := Lib.hid (row_below HOW.out hb)
    replace HAS := Lib.hid (HAS.out.trans (Aside.of_all hb))
    clear hb d1
    have d1 : (WX.alloc (.cells #[.string (bs x.n), .int .i64 x.t, .int .i64 x.c] 56)).cell? ⟨M, o, none⟩ = some v := by have := HCM.out.c o HO.out; rw [HV.out] at this; exact this
    refine hK.out _ _ ⟨HCB.out.c 0 (by simp), HCQ.out.c 0 (by simp), HCQ.out.c 1 (by simp), HCQ.out.c 2 (by simp)⟩ (fun hHeld => ?_)
    clear hK K
    try simp only [Act.put, List.setIfInBounds_toArray, List.set_cons_zero, List.set_cons_succ]
    refine wpAnyH_ready (rs := [5]) (by kernel_rfl) (by simp) ?_
    refine AllReadyH.cons (o := { dst := some 23, op := Op.load 22 (Operand.tmp 22), type := 22, pos := "list.go:50", after := #[{ on := 4, ground := Ground.data }], guard := none }) rfl (fun K hK => ?_) (AllReadyH.nil)
    go_simp
    refine hK.out _ _ ⟨HCB.out.c 0 (by simp), HCQ.out.c 0 (by simp), HCQ.out.c 1 (by simp), HCQ.out.c 2 (by simp)⟩ (fun hHeld => ?_)
    clear hK K
    try simp only [Act.put, List.setIfInBounds_toArray, List.set_cons_zero, List.set_cons_succ]
    refine wpAnyH_ready (rs := [8]) (by kernel_rfl) (by simp) ?_
    refine AllReadyH.cons (o := { dst := some 26, op := Op.call { callee := Callee.builtin Builtin.append, args := #[Operand.tmp 23, Operand.tmp 25], argTypes := #[22, 22] }, type := 22, pos := "list.go:50", after := #[{ on := 5, ground := Ground.data }, { on := 7, ground := Ground.data }], guard := none }) rfl (fun K hK => ?_) (AllReadyH.nil)
    obtain ⟨a2, c2, w6, hrun, ho6, ha6, hk6⟩ := run_appQn HOW.out HONE.out HLN.out (Nat.le_trans HBB.out HAS.out.size)
    simp only [List.length_singleton] at hrun ho6 hk6
    have HRUN := Lib.hid hrun
    have hlt := World.ownsRow.lt HOW0.out
    have hG : ∀ k, k < B ∨ g0 ≤ k → ¬ v.ownBlock = some k := fun k hk hg => by have := hlt k hg; have := HG0.out; omega
    replace HCB := Lib.hid (HCB.out.aside (by simp) ha6 (hG _ (by omega)))
    replace HC7 := Lib.hid (HC7.out.aside (by simp) ha6 (hG _ (by omega)))
    replace HCQ := Lib.hid (HCQ.out.aside (by simp) ha6 (hG _ (by have := HG1.out; omega)))
    replace HCF := Lib.hid (HCF.out.aside (by simp) ha6 (hG _ (by have := HG1.out; omega)))
    replace HCM := Lib.hid (HCM.out.aside HXL.out ha6 (hG _ (.inl HMB.out)))
    have HAS6 := Lib.hid (HAS.out.trans (ha6.mono fun k _ hk => .inr hk))
    have HO6 := Lib.hid ho6
    have HK6 := Lib.hid hk6
    clear d1
    have d1 : w6.cell? ⟨M, o, none⟩ = some v := by have := HCM.out.c o HO.out; rw [HV.out] at this; exact this
    have f1 := HCM.out.fz
    clear hrun ho6 ha6 hk6 hlt hG
    refine oper_app_run (.tmp 23) (.tmp 25) 22 22 rfl rfl rfl rfl HRUN.out ?_
    refine hK.out _ _ ⟨HCB.out.c 0 (by simp), HCQ.out.c 0 (by simp), HCQ.out.c 1 (by simp), HCQ.out.c 2 (by simp)⟩ (fun hHeld => ?_)
    clear hK K
    try simp only [Act.put, List.setIfInBounds_toArray, List.set_cons_zero, List.set_cons_succ]
    refine wpAnyH_take (i := 9) (oi := { dst := some 27, op := Op.nilCheck (Operand.tmp 19), type := 0, pos := "list.go:50", after := #[{ on := 1, ground := Ground.data }, { on := 0, ground := Ground.phase }, { on := 1, ground := Ground.phase }, { on := 2, ground := Ground.phase }, { on := 3, ground := Ground.phase }, { on := 4, ground := Ground.phase }, { on := 5, ground := Ground.phase }, { on := 6, ground := Ground.phase }, { on := 7, ground := Ground.phase }, { on := 8, ground := Ground.phase }], guard := none }) (v := ?_) rfl (by kernel_rfl) (by kernel_rfl) (by kernel_rfl) (fun _ _ _ h => h) (Or.inl ⟨by rfl, ?_⟩) (by assumption) ?_
    rotate_left 1
    · intro w hSw; (try dsimp only at hSw); go_simp; try (with_reducible rfl)
    try simp only [Act.put, List.setIfInBounds_toArray, List.set_cons_zero, List.set_cons_succ]
    refine wpAnyH_ready (rs := [10]) (by kernel_rfl) (by simp) ?_
    refine AllReadyH.cons (o := { dst := none, op := Op.store 22 (Operand.tmp 27) (Operand.tmp 26), type := 0, pos := "list.go:50", after := #[{ on := 9, ground := Ground.data }, { on := 8, ground := Ground.data }, { on := 8, ground := Ground.chain }, { on := 0, ground := Ground.phase }, { on := 1, ground := Ground.phase }, { on := 2, ground := Ground.phase }, { on := 3, ground := Ground.phase }, { on := 4, ground := Ground.phase }, { on := 5, ground := Ground.phase }, { on := 6, ground := Ground.phase }, { on := 7, ground := Ground.phase }, { on := 8, ground := Ground.phase }], guard := none }) rfl (fun K hK => ?_) (AllReadyH.nil)
    go_simp
    replace HCB := Lib.hid (HCB.out.other (a := ⟨M, o, none⟩) (by have := HMB.out; have := HBB.out; have := HG0.out; show M ≠ g0; omega) (.slice a2 (l.length + 1) c2))
    replace HC7 := Lib.hid (HC7.out.other (a := ⟨M, o, none⟩) (by have := HMB.out; have := HBB.out; have := HG0.out; show M ≠ g0 + 1; omega) (.slice a2 (l.length + 1) c2))
    replace HCQ := Lib.hid (HCQ.out.other (a := ⟨M, o, none⟩) (by have := HMB.out; have := HBB.out; have := HG0.out; have := HG1.out; show M ≠ g1; omega) (.slice a2 (l.length + 1) c2))
    replace HCF := Lib.hid (HCF.out.other (a := ⟨M, o, none⟩) (by have := HMB.out; have := HBB.out; have := HG0.out; have := HG1.out; show M ≠ g1 + 1; omega) (.slice a2 (l.length + 1) c2))
    replace HCM := Lib.hid (HCM.out.set HO.out (.slice a2 (l.length + 1) c2))
    replace HAS6 := Lib.hid (HAS6.out.trans (Aside.setCell w6 (p := ⟨M, o, none⟩) (.slice a2 (l.length + 1) c2) (.inl rfl)))
    replace HO6 := Lib.hid (row_aside (G := fun k => k = M) HO6.out (Aside.setCell w6 (p := ⟨M, o, none⟩) (.slice a2 (l.length + 1) c2) rfl) (fun k hk hg => by have := (World.ownsRow.lt HO6.out k hk).1; have := HMB.out; omega))
    refine hK.out _ _ ⟨HCB.out.c 0 (by simp), HCQ.out.c 0 (by simp), HCQ.out.c 1 (by simp), HCQ.out.c 2 (by simp)⟩ (fun hHeld => ?_)
    clear hK K
    try simp only [Act.put, List.setIfInBounds_toArray, List.set_cons_zero, List.set_cons_succ]
    refine wpAnyH_done (by kernel_rfl) ?_ _
    clear hHeld
    obtain ⟨X, hX⟩ : ∃ X, w6.setCell ⟨M, o, none⟩ (.slice a2 (l.length + 1) c2) = X := ⟨_, rfl⟩
    rw [hX] at HCB HC7 HCQ HCF HCM HAS6 HO6 ⊢
    clear hX HONE HRUN d1 f1
    have y0 := HCF.out.c 0 (by simp)
    have y1 := HCF.out.c 1 (by simp)
    have z0 := HC7.out.c 0 (by simp)
    have z1 := HC7.out.c 1 (by simp)
    simp only [List.getElem_cons_zero, List.getElem_cons_succ] at y0 y1 z0 z1
    have f7 := HC7.out.fz
    go_wp2_with fail
    go_region
    go_wp2_with fail
    have r7 := (HC7.out.set (o := 0) (by simp) (.int .i64 F)).set (o := 1) (by simp) (.int .i64 A)
    simp only [List.set_cons_zero, List.set_cons_succ] at r7
    have m0 := r7.c 0 (by simp)
    have m1 := r7.c 1 (by simp)
    simp only [List.getElem_cons_zero, List.getElem_cons_succ] at m0 m1
    clear y0 y1 z0 z1 f7 r7
    have hk6 := HK6.out
    have hlt0 := World.ownsRow.lt HOW0.out
    have hnb : ∀ k, (Value.slice a2 (l.length + 1) c2).ownBlock = some k → ¬ k = g0 + 1 := fun k hk hg => by
      have h0 := HG0.out
      have h5 := HS5.out
      rcases hk6 with h | h
      · have := hlt0 k (by rw [← h]; exact hk); omega
      · rw [h] at hk; injection hk with hk; simp only [World.size_alloc] at hk; have := HG1.out; omega
    have hne : (⟨M, 0, none⟩ : Addr).block ≠ g0 + 1 := by have := HMB.out; have := HBB.out; have := HG0.out; show M ≠ g0 + 1; omega
    have hst : Aside (fun k => k = g0 + 1) X ((X.setCell ⟨g0 + 1, 0, none⟩ (.int .i64 F)).setCell ⟨g0 + 1, 1, none⟩ (.int .i64 A)).drew := by
      have h1 : Aside (fun k => k = g0 + 1) X (X.setCell ⟨g0 + 1, 0, none⟩ (.int .i64 F)) := Aside.setCell X (p := ⟨g0 + 1, 0, none⟩) _ rfl
      have h2 : Aside (fun k => k = g0 + 1) (X.setCell ⟨g0 + 1, 0, none⟩ (.int .i64 F)) ((X.setCell ⟨g0 + 1, 0, none⟩ (.int .i64 F)).setCell ⟨g0 + 1, 1, none⟩ (.int .i64 A)) := Aside.setCell _ (p := ⟨g0 + 1, 1, none⟩) _ rfl
      have h3 := h1.trans h2
      exact ⟨h3.os, h3.tape, h3.output, h3.size, h3.block⟩
    refine bodyPost_ret (by simp [results, Tryz.results120, go_sem, m0, m1]) rfl ⟨.slice a2 (l.length + 1) c2, rfl, ?_, ?_, ?_, ?_⟩
    · have := (HCM.out.other (a := ⟨g0 + 1, 0, none⟩) (fun h => hne h.symm) (.int .i64 F)).other (a := ⟨g0 + 1, 1, none⟩) (fun h => hne h.symm) (.int .i64 A)
      exact ⟨this.c, this.fz⟩
    · exact row_aside (G := fun k => k = g0 + 1) HO6.out hst hnb
    · exact HAS6.out.onto (M := fun k => k = g0 + 1) hst (fun k hk _ hg => by have := HG0.out; omega)
    · rcases hk6 with h | h
      · exact .inl h
      · refine .inr ⟨_, h, ?_⟩
        have h0 := HG0.out
        have h5 := HS5.out
        have := HG1.out
        simp only [World.size_alloc]
        omega

set_option maxHeartbeats 8000000 in
theorem readR_gen {w : World} {M o B : Nat} {xs : List Value} {v vb : Value} {l : List Rc} (a : Int) (x : Rc) (E F A : Int) (hm : Cel w M xs) (ho : o < xs.length) (hv : xs[o] = v) (how : OwnRc w B v l) (hMB : M < B) (hB : B ≤ w.heap.size) (hln : l.length + 1 ≤ 1000000)
    (hc : ∀ wx, Below w.heap.size w wx → Calls Tryz.prog 156 #[vb, .int .i64 a] wx (Tells wx (.tuple #[.agg #[.string (bs x.n), .int .i64 x.t, .int .i64 x.c, .int .i64 x.l, .string (bs x.d)], .int .i64 E, .agg #[.int .i64 F, .int .i64 A]]))) :
    Calls Tryz.prog 153 #[.agg #[.pointer (some ⟨M, o, none⟩)], vb, .int .i64 a] w (RdPost w M o xs v (fun w' v' => OwnRc w' B v' (l ++ [x])) E F A) := by
  obtain ⟨g0, hg0⟩ : ∃ g, w.heap.size = g := ⟨_, rfl⟩
  obtain ⟨W1, hW1⟩ : ∃ W, w.alloc (.cells #[.pointer (some ⟨M, o, none⟩)] 120) = W := ⟨_, rfl⟩
  obtain ⟨W2, hW2⟩ : ∃ W, W1.alloc (.cells #[.int .i64 0, .int .i64 0] 42) = W := ⟨_, rfl⟩
  have s1 : W1.heap.size = g0 + 1 := by rw [← hW1, World.size_alloc, hg0]
  have s2 : W2.heap.size = g0 + 2 := by rw [← hW2, World.size_alloc, s1]
  have b2 : Below w.heap.size w W2 := by rw [← hW2, ← hW1]; exact ((Below.refl _ _).alloc (Nat.le_refl _) _).alloc (by simp) _
  have x1 : Cel W2 g0 [.pointer (some ⟨M, o, none⟩)] := by
    have := cel_new1 w (.pointer (some ⟨M, o, none⟩)) 120
    rw [hW1, hg0] at this
    exact this.below (by simp) (by rw [← hW2]; exact (Below.refl _ _).alloc (Nat.le_refl _) _)
  have x7 : Cel W2 (g0 + 1) [.int .i64 0, .int .i64 0] := by
    have := cel_new2 W1 (.int .i64 0) (.int .i64 0) 42
    rwa [hW2, s1] at this
  have HCB := Lib.hid x1
  have HC7 := Lib.hid x7
  have HXL := Lib.hid (show 0 < xs.length by omega)
  have HCM := Lib.hid (hm.below HXL.out b2)
  have HOW0 := Lib.hid how
  have HOW := Lib.hid (row_below how b2)
  have HAS := Lib.hid (Aside.of_all b2 : Aside (fun k => k = M ∨ v.ownBlock = some k) w W2)
  have HO := Lib.hid ho
  have HV := Lib.hid hv
  have HMB := Lib.hid hMB
  have HBB := Lib.hid hB
  have HLN := Lib.hid (show l.length + [x].length ≤ 1000000 from hln)
  have HG0 := Lib.hid hg0
  have HC := Lib.hid (hc W2 b2)
  clear hm how b2 x1 x7 hc hMB hB hv
  go_enter Tryz.func153, Tryz.ntmps153
  go_wp2_with fail
  refine HC.out.mono ?_; rintro e w3 ⟨rfl, hb⟩
  obtain ⟨g1, hg1⟩ : ∃ g, w3.heap.size = g := ⟨_, rfl⟩
  have HG1 := Lib.hid (show g0 + 2 ≤ g1 by have := hb.size; omega)
  obtain ⟨W4, hW4⟩ : ∃ W, w3.alloc (.cells #[.string (bs x.n), .int .i64 x.t, .int .i64 x.c, .int .i64 x.l, .string (bs x.d)] 52) = W := ⟨_, rfl⟩
  obtain ⟨W5, hW5⟩ : ∃ W, W4.alloc (.cells #[.int .i64 F, .int .i64 A] 42) = W := ⟨_, rfl⟩
  have s4 : W4.heap.size = g1 + 1 := by rw [← hW4, World.size_alloc, hg1]
  have b5 : Below W2.heap.size W2 W5 := by rw [← hW5, ← hW4]; exact (hb.alloc hb.size _).alloc (by simp; exact Nat.le_succ_of_le hb.size) _
  have xq : Cel W5 g1 [.string (bs x.n), .int .i64 x.t, .int .i64 x.c, .int .i64 x.l, .string (bs x.d)] := by
    have := cel_new w3 (.string (bs x.n)) (.int .i64 x.t) (.int .i64 x.c) (.int .i64 x.l) (.string (bs x.d)) 52
    rw [hW4, hg1] at this
    exact this.below (by simp) (by rw [← hW5]; exact (Below.refl _ _).alloc (Nat.le_refl _) _)
  have xf : Cel W5 (g1 + 1) [.int .i64 F, .int .i64 A] := by
    have := cel_new2 W4 (.int .i64 F) (.int .i64 A) 42
    rwa [hW5, s4] at this
  replace HCB := Lib.hid (HCB.out.below (by simp) b5)
  replace HC7 := Lib.hid (HC7.out.below (by simp) b5)
  replace HCM := Lib.hid (HCM.out.below HXL.out b5)
  replace HOW := Lib.hid (row_below HOW.out b5)
  replace HAS := Lib.hid (HAS.out.trans (Aside.of_all b5))
  have HCQ := Lib.hid xq
  have s5 : W5.heap.size = g1 + 2 := by rw [← hW5, World.size_alloc, s4]
  have HCF := Lib.hid xf
  obtain ⟨WX, hWX⟩ : ∃ X, W5.drew = X := ⟨_, rfl⟩
  have HS5 := Lib.hid (show g1 + 2 ≤ WX.heap.size by rw [← hWX]; exact Nat.le_of_eq s5.symm)
  have b6 : Below W5.heap.size W5 WX := by rw [← hWX]; exact (Below.refl _ _).drew
  replace HCB := Lib.hid (HCB.out.below (by simp) b6)
  replace HC7 := Lib.hid (HC7.out.below (by simp) b6)
  replace HCM := Lib.hid (HCM.out.below HXL.out b6)
  replace HOW := Lib.hid (row_below HOW.out b6)
  replace HAS := Lib.hid (HAS.out.trans (Aside.of_all b6))
  replace HCQ := Lib.hid (HCQ.out.below (by simp) b6)
  replace HCF := Lib.hid (HCF.out.below (by simp) b6)
  have d1 : WX.cell? ⟨M, o, none⟩ = some v := by have := HCM.out.c o HO.out; rw [HV.out] at this; exact this
  clear xq xf b5 b6 hb HC s5
  go_wp2_with fail
  refine wp_region_held_drew (S := (fun wx => wx.cell? ⟨g0, 0, none⟩ = some (.pointer (some ⟨M, o, none⟩)) ∧ wx.cell? ⟨g1, 0, none⟩ = some (.string (bs x.n)) ∧ wx.cell? ⟨g1, 1, none⟩ = some (.int .i64 x.t) ∧ wx.cell? ⟨g1, 2, none⟩ = some (.int .i64 x.c) ∧ wx.cell? ⟨g1, 3, none⟩ = some (.int .i64 x.l) ∧ wx.cell? ⟨g1, 4, none⟩ = some (.string (bs x.d)))) (by kernel_rfl) (by rw [hWX]; exact ⟨HCB.out.c 0 (by simp), HCQ.out.c 0 (by simp), HCQ.out.c 1 (by simp), HCQ.out.c 2 (by simp), HCQ.out.c 3 (by simp), HCQ.out.c 4 (by simp)⟩) (fun hHeld => ?_)
  refine wpAnyH_take (i := 0) (oi := { dst := some 18, op := Op.fieldAddr 120 (Operand.tmp 3) 0, type := 0, pos := "list.go:64", after := #[], guard := none }) (v := ?_) rfl (by kernel_rfl) (by kernel_rfl) (by kernel_rfl) (fun _ _ _ h => h) (Or.inl ⟨by rfl, ?_⟩) (by assumption) ?_
  rotate_left 1
  · intro w hSw; (try dsimp only at hSw); go_simp; try (with_reducible rfl)
  try simp only [Act.put, List.setIfInBounds_toArray, List.set_cons_zero, List.set_cons_succ]
  refine wpAnyH_take (i := 1) (oi := { dst := some 19, op := Op.load 118 (Operand.tmp 18), type := 118, pos := "list.go:64", after := #[{ on := 0, ground := Ground.data }], guard := none }) (v := ?_) rfl (by kernel_rfl) (by kernel_rfl) (by kernel_rfl) (fun _ _ _ h => h) (Or.inl ⟨by rfl, ?_⟩) (by assumption) ?_
  rotate_left 1
  · intro w hSw; (try dsimp only at hSw); go_simp; try (with_reducible rfl)
  try simp only [Act.put, List.setIfInBounds_toArray, List.set_cons_zero, List.set_cons_succ]
  refine wpAnyH_take (i := 2) (oi := { dst := some 20, op := Op.fieldAddr 120 (Operand.tmp 3) 0, type := 0, pos := "list.go:64", after := #[], guard := none }) (v := ?_) rfl (by kernel_rfl) (by kernel_rfl) (by kernel_rfl) (fun _ _ _ h => h) (Or.inl ⟨by rfl, ?_⟩) (by assumption) ?_
  rotate_left 1
  · intro w hSw; (try dsimp only at hSw); go_simp; try (with_reducible rfl)
  try simp only [Act.put, List.setIfInBounds_toArray, List.set_cons_zero, List.set_cons_succ]
  refine wpAnyH_take (i := 3) (oi := { dst := some 21, op := Op.load 118 (Operand.tmp 20), type := 118, pos := "list.go:64", after := #[{ on := 2, ground := Ground.data }], guard := none }) (v := ?_) rfl (by kernel_rfl) (by kernel_rfl) (by kernel_rfl) (fun _ _ _ h => h) (Or.inl ⟨by rfl, ?_⟩) (by assumption) ?_
  rotate_left 1
  · intro w hSw; (try dsimp only at hSw); go_simp; try (with_reducible rfl)
  try simp only [Act.put, List.setIfInBounds_toArray, List.set_cons_zero, List.set_cons_succ]
  refine wpAnyH_take (i := 4) (oi := { dst := some 22, op := Op.nilCheck (Operand.tmp 21), type := 0, pos := "list.go:64", after := #[{ on := 3, ground := Ground.data }], guard := none }) (v := ?_) rfl (by kernel_rfl) (by kernel_rfl) (by kernel_rfl) (fun _ _ _ h => h) (Or.inl ⟨by rfl, ?_⟩) (by assumption) ?_
  rotate_left 1
  · intro w hSw; (try dsimp only at hSw); go_simp; try (with_reducible rfl)
  try simp only [Act.put, List.setIfInBounds_toArray, List.set_cons_zero, List.set_cons_succ]
  refine wpAnyH_take (i := 6) (oi := { dst := some 24, op := Op.load 52 (Operand.tmp 8), type := 52, pos := "list.go:64", after := #[], guard := none }) (v := ?_) rfl (by kernel_rfl) (by kernel_rfl) (by kernel_rfl) (fun _ _ _ h => h) (Or.inl ⟨by rfl, ?_⟩) (by assumption) ?_
  rotate_left 1
  · intro w hSw; (try dsimp only at hSw); go_simp; try (with_reducible rfl)
  try simp only [Act.put, List.setIfInBounds_toArray, List.set_cons_zero, List.set_cons_succ]
  refine wpAnyH_ready (rs := [5, 7]) (by kernel_rfl) (by simp) ?_
  refine AllReadyH.cons (o := { dst := some 23, op := Op.load 23 (Operand.tmp 22), type := 23, pos := "list.go:64", after := #[{ on := 4, ground := Ground.data }], guard := none }) rfl (fun K hK => ?_) (AllReadyH.cons (o := { dst := some 25, op := Op.buildSlice 23 1 #[(0, Operand.tmp 24)], type := 23, pos := "list.go:64", after := #[{ on := 6, ground := Ground.data }], guard := none }) rfl (fun K hK => ?_) (AllReadyH.nil))
  · go_simp
    refine hK.out _ _ ⟨HCB.out.c 0 (by simp), HCQ.out.c 0 (by simp), HCQ.out.c 1 (by simp), HCQ.out.c 2 (by simp), HCQ.out.c 3 (by simp), HCQ.out.c 4 (by simp)⟩ (fun hHeld => ?_)
    clear hK K
    try simp only [Act.put, List.setIfInBounds_toArray, List.set_cons_zero, List.set_cons_succ]
    refine wpAnyH_ready (rs := [7]) (by kernel_rfl) (by simp) ?_
    refine AllReadyH.cons (o := { dst := some 25, op := Op.buildSlice 23 1 #[(0, Operand.tmp 24)], type := 23, pos := "list.go:64", after := #[{ on := 6, ground := Ground.data }], guard := none }) rfl (fun K hK => ?_) (AllReadyH.nil)
    go_simp
    have hb : Below WX.heap.size WX (WX.alloc (.cells #[.string (bs x.n), .int .i64 x.t, .int .i64 x.c, .int .i64 x.l, .string (bs x.d)] 52)) := (Below.refl _ _).alloc (Nat.le_refl _) _
    have HONE := Lib.hid (sr_one WX x)
    replace HCB := Lib.hid (HCB.out.below (by simp) hb)
    replace HC7 := Lib.hid (HC7.out.below (by simp) hb)
    replace HCQ := Lib.hid (HCQ.out.below (by simp) hb)
    replace HCF := Lib.hid (HCF.out.below (by simp) hb)
    replace HCM := Lib.hid (HCM.out.below HXL.out hb)
    replace HOW := Lib.hid (row_below HOW.out hb)
    replace HAS := Lib.hid (HAS.out.trans (Aside.of_all hb))
    clear hb d1
    have d1 : (WX.alloc (.cells #[.string (bs x.n), .int .i64 x.t, .int .i64 x.c, .int .i64 x.l, .string (bs x.d)] 52)).cell? ⟨M, o, none⟩ = some v := by have := HCM.out.c o HO.out; rw [HV.out] at this; exact this
    refine hK.out _ _ ⟨HCB.out.c 0 (by simp), HCQ.out.c 0 (by simp), HCQ.out.c 1 (by simp), HCQ.out.c 2 (by simp), HCQ.out.c 3 (by simp), HCQ.out.c 4 (by simp)⟩ (fun hHeld => ?_)
    clear hK K
    try simp only [Act.put, List.setIfInBounds_toArray, List.set_cons_zero, List.set_cons_succ]
    refine wpAnyH_ready (rs := [8]) (by kernel_rfl) (by simp) ?_
    refine AllReadyH.cons (o := { dst := some 26, op := Op.call { callee := Callee.builtin Builtin.append, args := #[Operand.tmp 23, Operand.tmp 25], argTypes := #[23, 23] }, type := 23, pos := "list.go:64", after := #[{ on := 5, ground := Ground.data }, { on := 7, ground := Ground.data }], guard := none }) rfl (fun K hK => ?_) (AllReadyH.nil)
    obtain ⟨a2, c2, w6, hrun, ho6, ha6, hk6⟩ := run_appRc HOW.out HONE.out HLN.out (Nat.le_trans HBB.out HAS.out.size)
    simp only [List.length_singleton] at hrun ho6 hk6
    have HRUN := Lib.hid hrun
    have hlt := World.ownsRow.lt HOW0.out
    have hG : ∀ k, k < B ∨ g0 ≤ k → ¬ v.ownBlock = some k := fun k hk hg => by have := hlt k hg; have := HG0.out; omega
    replace HCB := Lib.hid (HCB.out.aside (by simp) ha6 (hG _ (by omega)))
    replace HC7 := Lib.hid (HC7.out.aside (by simp) ha6 (hG _ (by omega)))
    replace HCQ := Lib.hid (HCQ.out.aside (by simp) ha6 (hG _ (by have := HG1.out; omega)))
    replace HCF := Lib.hid (HCF.out.aside (by simp) ha6 (hG _ (by have := HG1.out; omega)))
    replace HCM := Lib.hid (HCM.out.aside HXL.out ha6 (hG _ (.inl HMB.out)))
    have HAS6 := Lib.hid (HAS.out.trans (ha6.mono fun k _ hk => .inr hk))
    have HO6 := Lib.hid ho6
    have HK6 := Lib.hid hk6
    clear d1
    have d1 : w6.cell? ⟨M, o, none⟩ = some v := by have := HCM.out.c o HO.out; rw [HV.out] at this; exact this
    have f1 := HCM.out.fz
    clear hrun ho6 ha6 hk6 hlt hG
    refine oper_app_run (.tmp 23) (.tmp 25) 23 23 rfl rfl rfl rfl HRUN.out ?_
    refine hK.out _ _ ⟨HCB.out.c 0 (by simp), HCQ.out.c 0 (by simp), HCQ.out.c 1 (by simp), HCQ.out.c 2 (by simp), HCQ.out.c 3 (by simp), HCQ.out.c 4 (by simp)⟩ (fun hHeld => ?_)
    clear hK K
    try simp only [Act.put, List.setIfInBounds_toArray, List.set_cons_zero, List.set_cons_succ]
    refine wpAnyH_take (i := 9) (oi := { dst := some 27, op := Op.nilCheck (Operand.tmp 19), type := 0, pos := "list.go:64", after := #[{ on := 1, ground := Ground.data }, { on := 0, ground := Ground.phase }, { on := 1, ground := Ground.phase }, { on := 2, ground := Ground.phase }, { on := 3, ground := Ground.phase }, { on := 4, ground := Ground.phase }, { on := 5, ground := Ground.phase }, { on := 6, ground := Ground.phase }, { on := 7, ground := Ground.phase }, { on := 8, ground := Ground.phase }], guard := none }) (v := ?_) rfl (by kernel_rfl) (by kernel_rfl) (by kernel_rfl) (fun _ _ _ h => h) (Or.inl ⟨by rfl, ?_⟩) (by assumption) ?_
    rotate_left 1
    · intro w hSw; (try dsimp only at hSw); go_simp; try (with_reducible rfl)
    try simp only [Act.put, List.setIfInBounds_toArray, List.set_cons_zero, List.set_cons_succ]
    refine wpAnyH_ready (rs := [10]) (by kernel_rfl) (by simp) ?_
    refine AllReadyH.cons (o := { dst := none, op := Op.store 23 (Operand.tmp 27) (Operand.tmp 26), type := 0, pos := "list.go:64", after := #[{ on := 9, ground := Ground.data }, { on := 8, ground := Ground.data }, { on := 8, ground := Ground.chain }, { on := 0, ground := Ground.phase }, { on := 1, ground := Ground.phase }, { on := 2, ground := Ground.phase }, { on := 3, ground := Ground.phase }, { on := 4, ground := Ground.phase }, { on := 5, ground := Ground.phase }, { on := 6, ground := Ground.phase }, { on := 7, ground := Ground.phase }, { on := 8, ground := Ground.phase }], guard := none }) rfl (fun K hK => ?_) (AllReadyH.nil)
    go_simp
    replace HCB := Lib.hid (HCB.out.other (a := ⟨M, o, none⟩) (by have := HMB.out; have := HBB.out; have := HG0.out; show M ≠ g0; omega) (.slice a2 (l.length + 1) c2))
    replace HC7 := Lib.hid (HC7.out.other (a := ⟨M, o, none⟩) (by have := HMB.out; have := HBB.out; have := HG0.out; show M ≠ g0 + 1; omega) (.slice a2 (l.length + 1) c2))
    replace HCQ := Lib.hid (HCQ.out.other (a := ⟨M, o, none⟩) (by have := HMB.out; have := HBB.out; have := HG0.out; have := HG1.out; show M ≠ g1; omega) (.slice a2 (l.length + 1) c2))
    replace HCF := Lib.hid (HCF.out.other (a := ⟨M, o, none⟩) (by have := HMB.out; have := HBB.out; have := HG0.out; have := HG1.out; show M ≠ g1 + 1; omega) (.slice a2 (l.length + 1) c2))
    replace HCM := Lib.hid (HCM.out.set HO.out (.slice a2 (l.length + 1) c2))
    replace HAS6 := Lib.hid (HAS6.out.trans (Aside.setCell w6 (p := ⟨M, o, none⟩) (.slice a2 (l.length + 1) c2) (.inl rfl)))
    replace HO6 := Lib.hid (row_aside (G := fun k => k = M) HO6.out (Aside.setCell w6 (p := ⟨M, o, none⟩) (.slice a2 (l.length + 1) c2) rfl) (fun k hk hg => by have := (World.ownsRow.lt HO6.out k hk).1; have := HMB.out; omega))
    refine hK.out _ _ ⟨HCB.out.c 0 (by simp), HCQ.out.c 0 (by simp), HCQ.out.c 1 (by simp), HCQ.out.c 2 (by simp), HCQ.out.c 3 (by simp), HCQ.out.c 4 (by simp)⟩ (fun hHeld => ?_)
    clear hK K
    try simp only [Act.put, List.setIfInBounds_toArray, List.set_cons_zero, List.set_cons_succ]
    refine wpAnyH_done (by kernel_rfl) ?_ _
    clear hHeld
    obtain ⟨X, hX⟩ : ∃ X, w6.setCell ⟨M, o, none⟩ (.slice a2 (l.length + 1) c2) = X := ⟨_, rfl⟩
    rw [hX] at HCB HC7 HCQ HCF HCM HAS6 HO6 ⊢
    clear hX HONE HRUN d1 f1
    have y0 := HCF.out.c 0 (by simp)
    have y1 := HCF.out.c 1 (by simp)
    have z0 := HC7.out.c 0 (by simp)
    have z1 := HC7.out.c 1 (by simp)
    simp only [List.getElem_cons_zero, List.getElem_cons_succ] at y0 y1 z0 z1
    have f7 := HC7.out.fz
    go_wp2_with fail
    go_region
    go_wp2_with fail
    have r7 := (HC7.out.set (o := 0) (by simp) (.int .i64 F)).set (o := 1) (by simp) (.int .i64 A)
    simp only [List.set_cons_zero, List.set_cons_succ] at r7
    have m0 := r7.c 0 (by simp)
    have m1 := r7.c 1 (by simp)
    simp only [List.getElem_cons_zero, List.getElem_cons_succ] at m0 m1
    clear y0 y1 z0 z1 f7 r7
    have hk6 := HK6.out
    have hlt0 := World.ownsRow.lt HOW0.out
    have hnb : ∀ k, (Value.slice a2 (l.length + 1) c2).ownBlock = some k → ¬ k = g0 + 1 := fun k hk hg => by
      have h0 := HG0.out
      have h5 := HS5.out
      rcases hk6 with h | h
      · have := hlt0 k (by rw [← h]; exact hk); omega
      · rw [h] at hk; injection hk with hk; simp only [World.size_alloc] at hk; have := HG1.out; omega
    have hne : (⟨M, 0, none⟩ : Addr).block ≠ g0 + 1 := by have := HMB.out; have := HBB.out; have := HG0.out; show M ≠ g0 + 1; omega
    have hst : Aside (fun k => k = g0 + 1) X ((X.setCell ⟨g0 + 1, 0, none⟩ (.int .i64 F)).setCell ⟨g0 + 1, 1, none⟩ (.int .i64 A)).drew := by
      have h1 : Aside (fun k => k = g0 + 1) X (X.setCell ⟨g0 + 1, 0, none⟩ (.int .i64 F)) := Aside.setCell X (p := ⟨g0 + 1, 0, none⟩) _ rfl
      have h2 : Aside (fun k => k = g0 + 1) (X.setCell ⟨g0 + 1, 0, none⟩ (.int .i64 F)) ((X.setCell ⟨g0 + 1, 0, none⟩ (.int .i64 F)).setCell ⟨g0 + 1, 1, none⟩ (.int .i64 A)) := Aside.setCell _ (p := ⟨g0 + 1, 1, none⟩) _ rfl
      have h3 := h1.trans h2
      exact ⟨h3.os, h3.tape, h3.output, h3.size, h3.block⟩
    refine bodyPost_ret (by simp [results, Tryz.results153, go_sem, m0, m1]) rfl ⟨.slice a2 (l.length + 1) c2, rfl, ?_, ?_, ?_, ?_⟩
    · have := (HCM.out.other (a := ⟨g0 + 1, 0, none⟩) (fun h => hne h.symm) (.int .i64 F)).other (a := ⟨g0 + 1, 1, none⟩) (fun h => hne h.symm) (.int .i64 A)
      exact ⟨this.c, this.fz⟩
    · exact row_aside (G := fun k => k = g0 + 1) HO6.out hst hnb
    · exact HAS6.out.onto (M := fun k => k = g0 + 1) hst (fun k hk _ hg => by have := HG0.out; omega)
    · rcases hk6 with h | h
      · exact .inl h
      · refine .inr ⟨_, h, ?_⟩
        have h0 := HG0.out
        have h5 := HS5.out
        have := HG1.out
        simp only [World.size_alloc]
        omega
  · go_simp
    have hb : Below WX.heap.size WX (WX.alloc (.cells #[.string (bs x.n), .int .i64 x.t, .int .i64 x.c, .int .i64 x.l, .string (bs x.d)] 52)) := (Below.refl _ _).alloc (Nat.le_refl _) _
    have HONE := Lib.hid (sr_one WX x)
    replace HCB := Lib.hid (HCB.out.below (by simp) hb)
    replace HC7 := Lib.hid (HC7.out.below (by simp) hb)
    replace HCQ := Lib.hid (HCQ.out.below (by simp) hb)
    replace HCF := Lib.hid (HCF.out.below (by simp) hb)
    replace HCM := Lib.hid (HCM.out.below HXL.out hb)
    replace HOW := Lib.hid (row_below HOW.out hb)
    replace HAS := Lib.hid (HAS.out.trans (Aside.of_all hb))
    clear hb d1
    have d1 : (WX.alloc (.cells #[.string (bs x.n), .int .i64 x.t, .int .i64 x.c, .int .i64 x.l, .string (bs x.d)] 52)).cell? ⟨M, o, none⟩ = some v := by have := HCM.out.c o HO.out; rw [HV.out] at this; exact this
    refine hK.out _ _ ⟨HCB.out.c 0 (by simp), HCQ.out.c 0 (by simp), HCQ.out.c 1 (by simp), HCQ.out.c 2 (by simp), HCQ.out.c 3 (by simp), HCQ.out.c 4 (by simp)⟩ (fun hHeld => ?_)
    clear hK K
    try simp only [Act.put, List.setIfInBounds_toArray, List.set_cons_zero, List.set_cons_succ]
    refine wpAnyH_ready (rs := [5]) (by kernel_rfl) (by simp) ?_
    refine AllReadyH.cons (o := { dst := some 23, op := Op.load 23 (Operand.tmp 22), type := 23, pos := "list.go:64", after := #[{ on := 4, ground := Ground.data }], guard := none }) rfl (fun K hK => ?_) (AllReadyH.nil)
    go_simp
    refine hK.out _ _ ⟨HCB.out.c 0 (by simp), HCQ.out.c 0 (by simp), HCQ.out.c 1 (by simp), HCQ.out.c 2 (by simp), HCQ.out.c 3 (by simp), HCQ.out.c 4 (by simp)⟩ (fun hHeld => ?_)
    clear hK K
    try simp only [Act.put, List.setIfInBounds_toArray, List.set_cons_zero, List.set_cons_succ]
    refine wpAnyH_ready (rs := [8]) (by kernel_rfl) (by simp) ?_
    refine AllReadyH.cons (o := { dst := some 26, op := Op.call { callee := Callee.builtin Builtin.append, args := #[Operand.tmp 23, Operand.tmp 25], argTypes := #[23, 23] }, type := 23, pos := "list.go:64", after := #[{ on := 5, ground := Ground.data }, { on := 7, ground := Ground.data }], guard := none }) rfl (fun K hK => ?_) (AllReadyH.nil)
    obtain ⟨a2, c2, w6, hrun, ho6, ha6, hk6⟩ := run_appRc HOW.out HONE.out HLN.out (Nat.le_trans HBB.out HAS.out.size)
    simp only [List.length_singleton] at hrun ho6 hk6
    have HRUN := Lib.hid hrun
    have hlt := World.ownsRow.lt HOW0.out
    have hG : ∀ k, k < B ∨ g0 ≤ k → ¬ v.ownBlock = some k := fun k hk hg => by have := hlt k hg; have := HG0.out; omega
    replace HCB := Lib.hid (HCB.out.aside (by simp) ha6 (hG _ (by omega)))
    replace HC7 := Lib.hid (HC7.out.aside (by simp) ha6 (hG _ (by omega)))
    replace HCQ := Lib.hid (HCQ.out.aside (by simp) ha6 (hG _ (by have := HG1.out; omega)))
    replace HCF := Lib.hid (HCF.out.aside (by simp) ha6 (hG _ (by have := HG1.out; omega)))
    replace HCM := Lib.hid (HCM.out.aside HXL.out ha6 (hG _ (.inl HMB.out)))
    have HAS6 := Lib.hid (HAS.out.trans (ha6.mono fun k _ hk => .inr hk))
    have HO6 := Lib.hid ho6
    have HK6 := Lib.hid hk6
    clear d1
    have d1 : w6.cell? ⟨M, o, none⟩ = some v := by have := HCM.out.c o HO.out; rw [HV.out] at this; exact this
    have f1 := HCM.out.fz
    clear hrun ho6 ha6 hk6 hlt hG
    refine oper_app_run (.tmp 23) (.tmp 25) 23 23 rfl rfl rfl rfl HRUN.out ?_
    refine hK.out _ _ ⟨HCB.out.c 0 (by simp), HCQ.out.c 0 (by simp), HCQ.out.c 1 (by simp), HCQ.out.c 2 (by simp), HCQ.out.c 3 (by simp), HCQ.out.c 4 (by simp)⟩ (fun hHeld => ?_)
    clear hK K
    try simp only [Act.put, List.setIfInBounds_toArray, List.set_cons_zero, List.set_cons_succ]
    refine wpAnyH_take (i := 9) (oi := { dst := some 27, op := Op.nilCheck (Operand.tmp 19), type := 0, pos := "list.go:64", after := #[{ on := 1, ground := Ground.data }, { on := 0, ground := Ground.phase }, { on := 1, ground := Ground.phase }, { on := 2, ground := Ground.phase }, { on := 3, ground := Ground.phase }, { on := 4, ground := Ground.phase }, { on := 5, ground := Ground.phase }, { on := 6, ground := Ground.phase }, { on := 7, ground := Ground.phase }, { on := 8, ground := Ground.phase }], guard := none }) (v := ?_) rfl (by kernel_rfl) (by kernel_rfl) (by kernel_rfl) (fun _ _ _ h => h) (Or.inl ⟨by rfl, ?_⟩) (by assumption) ?_
    rotate_left 1
    · intro w hSw; (try dsimp only at hSw); go_simp; try (with_reducible rfl)
    try simp only [Act.put, List.setIfInBounds_toArray, List.set_cons_zero, List.set_cons_succ]
    refine wpAnyH_ready (rs := [10]) (by kernel_rfl) (by simp) ?_
    refine AllReadyH.cons (o := { dst := none, op := Op.store 23 (Operand.tmp 27) (Operand.tmp 26), type := 0, pos := "list.go:64", after := #[{ on := 9, ground := Ground.data }, { on := 8, ground := Ground.data }, { on := 8, ground := Ground.chain }, { on := 0, ground := Ground.phase }, { on := 1, ground := Ground.phase }, { on := 2, ground := Ground.phase }, { on := 3, ground := Ground.phase }, { on := 4, ground := Ground.phase }, { on := 5, ground := Ground.phase }, { on := 6, ground := Ground.phase }, { on := 7, ground := Ground.phase }, { on := 8, ground := Ground.phase }], guard := none }) rfl (fun K hK => ?_) (AllReadyH.nil)
    go_simp
    replace HCB := Lib.hid (HCB.out.other (a := ⟨M, o, none⟩) (by have := HMB.out; have := HBB.out; have := HG0.out; show M ≠ g0; omega) (.slice a2 (l.length + 1) c2))
    replace HC7 := Lib.hid (HC7.out.other (a := ⟨M, o, none⟩) (by have := HMB.out; have := HBB.out; have := HG0.out; show M ≠ g0 + 1; omega) (.slice a2 (l.length + 1) c2))
    replace HCQ := Lib.hid (HCQ.out.other (a := ⟨M, o, none⟩) (by have := HMB.out; have := HBB.out; have := HG0.out; have := HG1.out; show M ≠ g1; omega) (.slice a2 (l.length + 1) c2))
    replace HCF := Lib.hid (HCF.out.other (a := ⟨M, o, none⟩) (by have := HMB.out; have := HBB.out; have := HG0.out; have := HG1.out; show M ≠ g1 + 1; omega) (.slice a2 (l.length + 1) c2))
    replace HCM := Lib.hid (HCM.out.set HO.out (.slice a2 (l.length + 1) c2))
    replace HAS6 := Lib.hid (HAS6.out.trans (Aside.setCell w6 (p := ⟨M, o, none⟩) (.slice a2 (l.length + 1) c2) (.inl rfl)))
    replace HO6 := Lib.hid (row_aside (G := fun k => k = M) HO6.out (Aside.setCell w6 (p := ⟨M, o, none⟩) (.slice a2 (l.length + 1) c2) rfl) (fun k hk hg => by have := (World.ownsRow.lt HO6.out k hk).1; have := HMB.out; omega))
    refine hK.out _ _ ⟨HCB.out.c 0 (by simp), HCQ.out.c 0 (by simp), HCQ.out.c 1 (by simp), HCQ.out.c 2 (by simp), HCQ.out.c 3 (by simp), HCQ.out.c 4 (by simp)⟩ (fun hHeld => ?_)
    clear hK K
    try simp only [Act.put, List.setIfInBounds_toArray, List.set_cons_zero, List.set_cons_succ]
    refine wpAnyH_done (by kernel_rfl) ?_ _
    clear hHeld
    obtain ⟨X, hX⟩ : ∃ X, w6.setCell ⟨M, o, none⟩ (.slice a2 (l.length + 1) c2) = X := ⟨_, rfl⟩
    rw [hX] at HCB HC7 HCQ HCF HCM HAS6 HO6 ⊢
    clear hX HONE HRUN d1 f1
    have y0 := HCF.out.c 0 (by simp)
    have y1 := HCF.out.c 1 (by simp)
    have z0 := HC7.out.c 0 (by simp)
    have z1 := HC7.out.c 1 (by simp)
    simp only [List.getElem_cons_zero, List.getElem_cons_succ] at y0 y1 z0 z1
    have f7 := HC7.out.fz
    go_wp2_with fail
    go_region
    go_wp2_with fail
    have r7 := (HC7.out.set (o := 0) (by simp) (.int .i64 F)).set (o := 1) (by simp) (.int .i64 A)
    simp only [List.set_cons_zero, List.set_cons_succ] at r7
    have m0 := r7.c 0 (by simp)
    have m1 := r7.c 1 (by simp)
    simp only [List.getElem_cons_zero, List.getElem_cons_succ] at m0 m1
    clear y0 y1 z0 z1 f7 r7
    have hk6 := HK6.out
    have hlt0 := World.ownsRow.lt HOW0.out
    have hnb : ∀ k, (Value.slice a2 (l.length + 1) c2).ownBlock = some k → ¬ k = g0 + 1 := fun k hk hg => by
      have h0 := HG0.out
      have h5 := HS5.out
      rcases hk6 with h | h
      · have := hlt0 k (by rw [← h]; exact hk); omega
      · rw [h] at hk; injection hk with hk; simp only [World.size_alloc] at hk; have := HG1.out; omega
    have hne : (⟨M, 0, none⟩ : Addr).block ≠ g0 + 1 := by have := HMB.out; have := HBB.out; have := HG0.out; show M ≠ g0 + 1; omega
    have hst : Aside (fun k => k = g0 + 1) X ((X.setCell ⟨g0 + 1, 0, none⟩ (.int .i64 F)).setCell ⟨g0 + 1, 1, none⟩ (.int .i64 A)).drew := by
      have h1 : Aside (fun k => k = g0 + 1) X (X.setCell ⟨g0 + 1, 0, none⟩ (.int .i64 F)) := Aside.setCell X (p := ⟨g0 + 1, 0, none⟩) _ rfl
      have h2 : Aside (fun k => k = g0 + 1) (X.setCell ⟨g0 + 1, 0, none⟩ (.int .i64 F)) ((X.setCell ⟨g0 + 1, 0, none⟩ (.int .i64 F)).setCell ⟨g0 + 1, 1, none⟩ (.int .i64 A)) := Aside.setCell _ (p := ⟨g0 + 1, 1, none⟩) _ rfl
      have h3 := h1.trans h2
      exact ⟨h3.os, h3.tape, h3.output, h3.size, h3.block⟩
    refine bodyPost_ret (by simp [results, Tryz.results153, go_sem, m0, m1]) rfl ⟨.slice a2 (l.length + 1) c2, rfl, ?_, ?_, ?_, ?_⟩
    · have := (HCM.out.other (a := ⟨g0 + 1, 0, none⟩) (fun h => hne h.symm) (.int .i64 F)).other (a := ⟨g0 + 1, 1, none⟩) (fun h => hne h.symm) (.int .i64 A)
      exact ⟨this.c, this.fz⟩
    · exact row_aside (G := fun k => k = g0 + 1) HO6.out hst hnb
    · exact HAS6.out.onto (M := fun k => k = g0 + 1) hst (fun k hk _ hg => by have := HG0.out; omega)
    · rcases hk6 with h | h
      · exact .inl h
      · refine .inr ⟨_, h, ?_⟩
        have h0 := HG0.out
        have h5 := HS5.out
        have := HG1.out
        simp only [World.size_alloc]
        omega
end Go.Proofs.YteegekpanadmkaaGreat
