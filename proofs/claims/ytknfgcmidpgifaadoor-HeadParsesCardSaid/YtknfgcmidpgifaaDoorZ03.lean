/-
  The document's words, targets, values.
-/
import Derived.Test.YtknfgcmidpgifaaDoorZ02
import Derived.Lib.OthersKept
import Derived.Deep.WholeRow
import Derived.Laws.Tables
namespace Go.Proofs.YtknfgcmidpgifaaDoor
open Go.RowKit Go.Shelf
set_option linter.unusedVariables false
set_option linter.unusedSimpArgs false
set_option maxRecDepth 100000

theorem only_iff (r s : List UInt8) : onlyR r s = true ↔ ∀ k, k < s.length → inR r (s.getD k 0).toNat = true := by
  unfold onlyR
  rw [List.all_eq_true]
  constructor
  · intro h k hk
    rw [getD_at s k hk]
    exact h _ (List.getElem_mem hk)
  · intro h x hx
    obtain ⟨k, hk, rfl⟩ := List.getElem_of_mem hx
    have := h k hk
    rwa [getD_at s k hk] at this
theorem only_not (r s : List UInt8) (k : Nat) (hk : k < s.length) (h : inR r (s.getD k 0).toNat = false) : onlyR r s = false := by
  rw [← Bool.not_eq_true, only_iff]
  exact fun h2 => by rw [h2 k hk] at h; cases h

set_option maxHeartbeats 1000000 in
theorem rword_any (s : List UInt8) (most : Nat) (hs : s.length ≤ 1000000000000) (hm : most ≤ 1000000) (w : World) : Calls Tryd.prog 19 #[.string (bs s), .int .i64 most] w (Tells w (.bool (wordL s most))) := by
  by_cases h1 : 1 ≤ s.length
  · by_cases h2 : s.length ≤ most
    · have e : wordL s most = onlyR wR s := by unfold wordL; rw [decide_eq_true h1, decide_eq_true h2]; rfl
      have HY := Lib.hid (only_iff wR s)
      have HN := Lib.hid (only_not wR s)
      rw [e]
      obtain ⟨R, hR⟩ : ∃ R, onlyR wR s = R := ⟨_, rfl⟩
      rw [hR] at HY HN ⊢
      clear hR e
      have t1 : ¬ (s.length : Int) < 1 := by omega
      have t2 : ¬ most < s.length := by omega
      have HB := Lib.hid (Below.refl w.heap.size w)
      go_enter Tryd.func19, Tryd.ntmps19
      go_wp2_with fail
      go_loopw [5] (fun i wr => ∃ k : Nat, k ≤ s.length ∧ i = .int .i64 k ∧ Hid (∀ j, j < k → inR wR (s.getD j 0).toNat = true) ∧ w = wr) (fun i _ => s.length - (intOf i).toNat)
      case atStart => exact ⟨0, Nat.zero_le _, rfl, Lib.hid fun j hj => by omega, rfl⟩
      case round =>
        obtain ⟨k, hk, rfl, HD, rfl⟩ := hrel
        by_cases hlt : k < s.length
        · have ia := ix_run s k hlt
          have HX := Lib.hid (HN.out k hlt)
          rw [← getD_at s k hlt] at ia
          obtain ⟨x, hx⟩ : ∃ x, s.getD k 0 = x := ⟨_, rfl⟩
          rw [hx] at ia HX
          have HE := Lib.hid hx
          clear hx
          obtain ⟨B, hB⟩ : ∃ B, inR wR x.toNat = B := ⟨_, rfl⟩
          have HL := Lib.hid (fun w => letter_any x w)
          rw [hB] at HX
          simp only [hB] at HL
          have HB2 := Lib.hid hB
          clear hB
          cases B with
          | true =>
            have HE2 := Lib.hid (show ∀ j, j < k + 1 → inR wR (s.getD j 0).toNat = true from fun j hj => by
              by_cases e : j = k
              · subst e; rw [HE.out]; exact HB2.out
              · exact HD.out j (by omega))
            go_wp2_with fail
            refine (HL.out _).mono ?_; rintro e w1 ⟨rfl, rfl⟩
            go_wp2_with fail
            go_roundw
            case rel => exact ⟨k + 1, by omega, by go_num, HE2, trivial⟩
            case measure => simp [intOf]; omega
          | false =>
            have hR := HX.out rfl
            subst hR
            go_wp2_with fail
            refine (HL.out _).mono ?_; rintro e w1 ⟨rfl, rfl⟩
            go_wp2_with fail
            go_ret
            exact ⟨rfl, HB.out⟩
        · have hR : R = true := HY.out.2 fun j hj => HD.out j (by omega)
          subst hR
          go_wp2_with fail
          go_ret
          exact ⟨rfl, HB.out⟩
    · have e : wordL s most = false := by unfold wordL; rw [decide_eq_false h2]; simp
      rw [e]
      have t1 : ¬ (s.length : Int) < 1 := by omega
      have t2 : most < s.length := by omega
      go_enter Tryd.func19, Tryd.ntmps19
      go_wp2_with fail
      go_ret
      exact ⟨rfl, Below.refl _ _⟩
  · have e : wordL s most = false := by unfold wordL; rw [decide_eq_false h1]; rfl
    rw [e]
    have t1 : (s.length : Int) < 1 := by omega
    go_enter Tryd.func19, Tryd.ntmps19
    go_wp2_with fail
    go_ret
    exact ⟨rfl, Below.refl _ _⟩

/-- A target, but for how long it is. -/
def tgtD (s : List UInt8) : Bool := decide (1 ≤ s.length) && (s.head? == some 47 && onlyR tR s)
theorem tgt_eq (s : List UInt8) (h : s.length ≤ 2048) : tgtD s = tgtL s := by
  unfold tgtD tgtL
  rw [decide_eq_true h, Bool.true_and, Bool.and_assoc, Bool.and_comm (onlyR tR s)]
theorem inT (n : Nat) : inR tR n = decide (33 ≤ n ∧ n ≤ 126) := by
  rw [Bool.eq_iff_iff]
  simp [inR, tR]
set_option maxHeartbeats 1000000 in
theorem rtarget_any (s : List UInt8) (hs : s.length ≤ 1000000000000) (w : World) : Calls Tryd.prog 21 #[.string (bs s)] w (Tells w (.bool (tgtD s))) := by
  by_cases h1 : 1 ≤ s.length
  · have h2 : s.head? = some (s.getD 0 0) := by
      cases s with
      | nil => simp at h1
      | cons x r => rfl
    have i0 := ix_run s 0 (by omega)
    rw [← getD_at s 0 (by omega)] at i0
    by_cases h3 : s.getD 0 0 = 47
    · have e : tgtD s = onlyR tR s := by unfold tgtD; rw [decide_eq_true h1, h2, h3]; simp
      have HY := Lib.hid (only_iff tR s)
      have HN := Lib.hid (only_not tR s)
      rw [e]
      obtain ⟨R, hR⟩ : ∃ R, onlyR tR s = R := ⟨_, rfl⟩
      rw [hR] at HY HN ⊢
      rw [h3] at i0
      have i0 : ∀ (w : World), (Instr.index 9 (.string (bs s)) (.int .i64 0)).run Tryd.prog w = .ok (.int .u8 47) w := i0
      clear hR e h2 h3
      have t1 : ¬ (s.length : Int) < 1 := by omega
      have HB := Lib.hid (Below.refl w.heap.size w)
      go_enter Tryd.func21, Tryd.ntmps21
      go_wp2_with fail
      go_loopw [3] (fun i wr => ∃ k : Nat, k ≤ s.length ∧ i = .int .i64 k ∧ Hid (∀ j, j < k → inR tR (s.getD j 0).toNat = true) ∧ w = wr) (fun i _ => s.length - (intOf i).toNat)
      case atStart => exact ⟨0, Nat.zero_le _, rfl, Lib.hid fun j hj => by omega, rfl⟩
      case round =>
        obtain ⟨k, hk, rfl, HD, rfl⟩ := hrel
        clear i0
        by_cases hlt : k < s.length
        · have ia := ix_run s k hlt
          have HX := Lib.hid (HN.out k hlt)
          rw [← getD_at s k hlt] at ia
          obtain ⟨x, hx⟩ : ∃ x, (s.getD k 0).toNat = x := ⟨_, rfl⟩
          rw [hx] at ia HX
          have HI := Lib.hid (inT x)
          have HE2 := Lib.hid (show inR tR x = true → ∀ j, j < k + 1 → inR tR (s.getD j 0).toNat = true from fun hb j hj => by
            by_cases e : j = k
            · subst e; rw [hx]; exact hb
            · exact HD.out j (by omega))
          clear hx
          by_cases h4 : 33 ≤ x
          · have t2 : ¬ (x : Int) < 33 := by omega
            by_cases h5 : x ≤ 126
            · have t3 : ¬ (126 : Int) < x := by omega
              replace HE2 := Lib.hid (HE2.out (by rw [HI.out, decide_eq_true ⟨h4, h5⟩]))
              go_wp2_with fail
              go_roundw
              case rel => exact ⟨k + 1, by omega, by go_num, HE2, trivial⟩
              case measure => simp [intOf]; omega
            · have t3 : (126 : Int) < x := by omega
              have hR := HX.out (by rw [HI.out, decide_eq_false (fun h => h5 h.2)])
              subst hR
              go_wp2_with fail
              go_ret
              exact ⟨rfl, HB.out⟩
          · have t2 : (x : Int) < 33 := by omega
            have hR := HX.out (by rw [HI.out, decide_eq_false (fun h => h4 h.1)])
            subst hR
            go_wp2_with fail
            go_ret
            exact ⟨rfl, HB.out⟩
        · have hR : R = true := HY.out.2 fun j hj => HD.out j (by omega)
          subst hR
          go_wp2_with fail
          go_ret
          exact ⟨rfl, HB.out⟩
    · have e : tgtD s = false := by
        unfold tgtD
        rw [h2]
        have : (some (s.getD 0 0) == some 47) = false := by simpa using h3
        rw [this]; simp
      rw [e]
      have t1 : ¬ (s.length : Int) < 1 := by omega
      have i0 : ∀ (w : World), (Instr.index 9 (.string (bs s)) (.int .i64 0)).run Tryd.prog w = .ok (.int .u8 ((s.getD 0 0).toNat : Nat)) w := i0
      have hne : (s.getD 0 0).toNat ≠ 47 := fun e => h3 (UInt8.toNat_inj.mp e)
      obtain ⟨x, hx⟩ : ∃ x, (s.getD 0 0).toNat = x := ⟨_, rfl⟩
      rw [hx] at i0 hne
      have t3 : ((x : Int) != 47) = true := by rw [bne_iff_ne]; omega
      clear hx h2 h3 e
      go_enter Tryd.func21, Tryd.ntmps21
      go_wp2_with fail
      go_ret
      exact ⟨rfl, Below.refl _ _⟩
  · have e : tgtD s = false := by unfold tgtD; rw [decide_eq_false h1]; rfl
    rw [e]
    have t1 : (s.length : Int) < 1 := by omega
    go_enter Tryd.func21, Tryd.ntmps21
    go_wp2_with fail
    go_ret
    exact ⟨rfl, Below.refl _ _⟩
end Go.Proofs.YtknfgcmidpgifaaDoor

/-
  The document's Trim, Value.
-/
namespace Go.Proofs.YtknfgcmidpgifaaDoor
open Go.RowKit Go.Shelf
set_option linter.unusedVariables false
set_option linter.unusedSimpArgs false
set_option maxRecDepth 100000

theorem dW_head (l : List UInt8) (h : 0 < l.length) : (blk (l.getD 0 0) = true → l.dropWhile blk = (l.drop 1).dropWhile blk) ∧ (blk (l.getD 0 0) = false → l.dropWhile blk = l) := by
  cases l with
  | nil => simp at h
  | cons x r =>
    constructor
    · intro e; rw [List.dropWhile_cons, if_pos (by simpa using e)]; rfl
    · intro e; rw [List.dropWhile_cons, if_neg (by simpa using e)]
theorem rdW_last (l : List UInt8) (h : 0 < l.length) : (blk (l.getD (l.length - 1) 0) = true → rdW blk l = rdW blk (l.take (l.length - 1))) ∧ (blk (l.getD (l.length - 1) 0) = false → rdW blk l = l) := by
  have e : l = l.take (l.length - 1) ++ [l.getD (l.length - 1) 0] := by
    rw [getD_at l _ (by omega)]
    have := List.take_append_getElem (l := l) (i := l.length - 1) (by omega)
    rw [show l.length - 1 + 1 = l.length by omega, List.take_length] at this
    exact this.symm
  generalize l.getD (l.length - 1) 0 = x at e ⊢
  generalize l.take (l.length - 1) = a at e ⊢
  subst e
  rw [rdW_snoc]
  constructor
  · intro h; rw [if_pos h]
  · intro h; rw [if_neg (by simp [h])]

theorem take_run (n : List UInt8) (j : Nat) (hj : j ≤ n.length) (w : World) : (Instr.slice 9 (.string (bs n)) none (some (.int .i64 j)) none).run Tryd.prog w = .ok (.string (bs (n.take j))) w := by
  rw [run_slice_string_to_if w 9 _ _ _ Tryd.underlying9, if_pos (by simp; omega), bs_extract]
  simp

set_option maxHeartbeats 1000000 in
theorem rtrim_any (s : List UInt8) (hs : s.length ≤ 1000000000000) (w : World) : Calls Tryd.prog 23 #[.string (bs s)] w (Tells w (.string (bs (trimB s)))) := by
  have e : trimB s = rdW blk (s.dropWhile blk) := trimB_eq' s
  obtain ⟨R, hR⟩ : ∃ R, trimB s = R := ⟨_, rfl⟩
  rw [hR] at e ⊢
  have HR := Lib.hid e
  clear e hR
  have HB := Lib.hid (Below.refl w.heap.size w)
  go_enter Tryd.func23, Tryd.ntmps23
  go_wp2_with fail
  go_loopg [0] s.length (fun g v wr => ∃ l : List UInt8, v = .string (bs l) ∧ l.length = g ∧ l.length ≤ 1000000000000 ∧ Hid (l.dropWhile blk = s.dropWhile blk) ∧ w = wr)
  case atStart => exact ⟨s, rfl, rfl, hs, Lib.hid rfl, rfl⟩
  case round =>
    obtain ⟨l, rfl, hg, hl, HD, rfl⟩ := hrel
    have HG := Lib.hid hg
    clear hg
    by_cases h0 : 0 < l.length
    · have i0 := ix_run l 0 h0
      rw [← getD_at l 0 h0] at i0
      have i0 : ∀ (w : World), (Instr.index 9 (.string (bs l)) (.int .i64 0)).run Tryd.prog w = .ok (.int .u8 ((l.getD 0 0).toNat : Nat)) w := i0
      have f1 : ∀ (w : World), (Instr.slice 9 (.string (bs l)) (some (.int .i64 1)) none none).run Tryd.prog w = .ok (.string (bs (l.drop 1))) w := from_run l 1 (by omega)
      obtain ⟨d1, d2⟩ := dW_head l h0
      have D1 := Lib.hid d1
      have D2 := Lib.hid d2
      clear d1 d2
      obtain ⟨x, hx⟩ : ∃ x, l.getD 0 0 = x := ⟨_, rfl⟩
      rw [hx] at i0 D1 D2
      obtain ⟨m, hm⟩ : ∃ m, l.drop 1 = m := ⟨_, rfl⟩
      have hml : m.length + 1 = l.length := by rw [← hm, List.length_drop]; omega
      rw [hm] at f1 D1
      clear hx hm
      have HL := Lib.hid (fun w => blank_any x w)
      obtain ⟨B, hB⟩ : ∃ B, blk x = B := ⟨_, rfl⟩
      rw [hB] at D1 D2
      simp only [hB] at HL
      clear hB
      cases B with
      | true =>
        replace HD := Lib.hid ((D1.out rfl).symm.trans HD.out)
        have hml' : m.length ≤ 1000000000000 := by omega
        have HM := Lib.hid hml
        clear hml
        go_wp2_with fail
        refine (HL.out _).mono ?_; rintro e w1 ⟨rfl, rfl⟩
        go_wp2_with fail
        go_roundg m.length
        case measure => have := HM.out; have := HG.out; omega
        case rel => exact ⟨m, rfl, rfl, hml', HD, rfl⟩
      | false =>
        have HDl := Lib.hid ((D2.out rfl).symm.trans HD.out)
        have HRl := Lib.hid (show rdW blk l = R by rw [HR.out, HDl.out])
        clear hml
        go_wp2_with fail
        refine (HL.out _).mono ?_; rintro e w1 ⟨rfl, rfl⟩
        go_wp2_with fail
        go_loopg [0] l.length (fun g v wr => ∃ n : List UInt8, v = .string (bs n) ∧ n.length = g ∧ n.length ≤ 1000000000000 ∧ Hid (rdW blk n = R) ∧ Hid (Below w1.heap.size w1 wr))
        case atStart => exact ⟨l, rfl, rfl, hl, HRl, HB⟩
        case round =>
          clear HDl HRl hl HR
          obtain ⟨n, rfl, hn, hnl, HN, HB⟩ := hrel
          have HG2 := Lib.hid hn
          clear hn
          by_cases k0 : 0 < n.length
          · have hwr : IntKind.i64.wrap ((n.length : Int) - 1) = ((n.length - 1 : Nat) : Int) := by rw [show ((n.length : Int) - 1) = ((n.length - 1 : Nat) : Int) by omega]; exact IntWalk.i64_in _ (by omega)
            have j0 := ix_run n (n.length - 1) (by omega)
            rw [← getD_at n _ (by omega)] at j0
            have f2 := take_run n (n.length - 1) (by omega)
            obtain ⟨r1, r2⟩ := rdW_last n k0
            have R1 := Lib.hid r1
            have R2 := Lib.hid r2
            clear r1 r2
            obtain ⟨y, hy⟩ : ∃ y, n.getD (n.length - 1) 0 = y := ⟨_, rfl⟩
            rw [hy] at j0 R1 R2
            obtain ⟨q, hq⟩ : ∃ q, n.take (n.length - 1) = q := ⟨_, rfl⟩
            have hql : q.length + 1 = n.length := by rw [← hq, List.length_take]; omega
            rw [hq] at f2 R1
            clear hy hq
            have hjq : ((n.length - 1 : Nat) : Int) = (n.length : Int) - 1 := by omega
            rw [hjq] at j0 f2
            clear hwr hjq
            have HLk := Lib.hid (fun w => blank_any y w)
            obtain ⟨C, hC⟩ : ∃ C, blk y = C := ⟨_, rfl⟩
            rw [hC] at R1 R2
            simp only [hC] at HLk
            clear hC
            cases C with
            | true =>
              replace HN := Lib.hid ((R1.out rfl).symm.trans HN.out)
              have hqb : q.length ≤ 1000000000000 := by omega
              have HQ := Lib.hid hql
              clear hql
              go_wp2_with fail
              refine (HLk.out _).mono ?_; rintro e w2 ⟨rfl, rfl⟩
              go_wp2_with fail
              go_roundg q.length
              case measure => have := HQ.out; have := HG2.out; omega
              case rel => exact ⟨q, rfl, rfl, hqb, HN, HB⟩
            | false =>
              have HNl := Lib.hid ((R2.out rfl).symm.trans HN.out)
              clear hql
              go_wp2_with fail
              refine (HLk.out _).mono ?_; rintro e w2 ⟨rfl, rfl⟩
              go_wp2_with fail
              go_ret
              exact ⟨congrArg (fun z => Ending.returned (Value.string (bs z))) HNl.out, HB.out⟩
          · have hz : n = [] := List.eq_nil_of_length_eq_zero (by omega)
            have HNl := Lib.hid (show n = R by rw [← HN.out, hz]; rfl)
            have t0 : ¬ ((0 : Int) < n.length) := by omega
            clear hz
            go_wp2_with fail
            go_ret
            exact ⟨congrArg (fun z => Ending.returned (Value.string (bs z))) HNl.out, HB.out⟩
    · have hz : l = [] := List.eq_nil_of_length_eq_zero (by omega)
      have HDl := Lib.hid (show l = s.dropWhile blk by rw [← HD.out, hz]; rfl)
      have HRl := Lib.hid (show rdW blk l = R by rw [HR.out, HDl.out])
      have t0 : ¬ ((0 : Int) < l.length) := by omega
      clear hz
      go_wp2_with fail
      go_loopg [0] l.length (fun g v wr => ∃ n : List UInt8, v = .string (bs n) ∧ n.length = g ∧ n.length ≤ 1000000000000 ∧ Hid (rdW blk n = R) ∧ Hid (Below w.heap.size w wr))
      case atStart => exact ⟨l, rfl, rfl, hl, HRl, HB⟩
      case round =>
        clear HDl HRl hl HR
        obtain ⟨n, rfl, hn, hnl, HN, HB⟩ := hrel
        have HG2 := Lib.hid hn
        clear hn
        by_cases k0 : 0 < n.length
        · have hwr : IntKind.i64.wrap ((n.length : Int) - 1) = ((n.length - 1 : Nat) : Int) := by rw [show ((n.length : Int) - 1) = ((n.length - 1 : Nat) : Int) by omega]; exact IntWalk.i64_in _ (by omega)
          have j0 := ix_run n (n.length - 1) (by omega)
          rw [← getD_at n _ (by omega)] at j0
          have f2 := take_run n (n.length - 1) (by omega)
          obtain ⟨r1, r2⟩ := rdW_last n k0
          have R1 := Lib.hid r1
          have R2 := Lib.hid r2
          clear r1 r2
          obtain ⟨y, hy⟩ : ∃ y, n.getD (n.length - 1) 0 = y := ⟨_, rfl⟩
          rw [hy] at j0 R1 R2
          obtain ⟨q, hq⟩ : ∃ q, n.take (n.length - 1) = q := ⟨_, rfl⟩
          have hql : q.length + 1 = n.length := by rw [← hq, List.length_take]; omega
          rw [hq] at f2 R1
          clear hy hq
          have hjq : ((n.length - 1 : Nat) : Int) = (n.length : Int) - 1 := by omega
          rw [hjq] at j0 f2
          clear hwr hjq
          have HLk := Lib.hid (fun w => blank_any y w)
          obtain ⟨C, hC⟩ : ∃ C, blk y = C := ⟨_, rfl⟩
          rw [hC] at R1 R2
          simp only [hC] at HLk
          clear hC
          cases C with
          | true =>
            replace HN := Lib.hid ((R1.out rfl).symm.trans HN.out)
            have hqb : q.length ≤ 1000000000000 := by omega
            have HQ := Lib.hid hql
            clear hql
            go_wp2_with fail
            refine (HLk.out _).mono ?_; rintro e w2 ⟨rfl, rfl⟩
            go_wp2_with fail
            go_roundg q.length
            case measure => have := HQ.out; have := HG2.out; omega
            case rel => exact ⟨q, rfl, rfl, hqb, HN, HB⟩
          | false =>
            have HNl := Lib.hid ((R2.out rfl).symm.trans HN.out)
            clear hql
            go_wp2_with fail
            refine (HLk.out _).mono ?_; rintro e w2 ⟨rfl, rfl⟩
            go_wp2_with fail
            go_ret
            exact ⟨congrArg (fun z => Ending.returned (Value.string (bs z))) HNl.out, HB.out⟩
        · have hz : n = [] := List.eq_nil_of_length_eq_zero (by omega)
          have HNl := Lib.hid (show n = R by rw [← HN.out, hz]; rfl)
          have t0 : ¬ ((0 : Int) < n.length) := by omega
          clear hz
          go_wp2_with fail
          go_ret
          exact ⟨congrArg (fun z => Ending.returned (Value.string (bs z))) HNl.out, HB.out⟩

theorem inV : ∀ n : Nat, n < 256 → inR vR n = !decide (n ≠ 9 ∧ n < 32 ∨ n = 127) := by decide +kernel

set_option maxHeartbeats 1000000 in
theorem rvalue_any (s : List UInt8) (hs : s.length ≤ 1000000000000) (w : World) : Calls Tryd.prog 22 #[.string (bs s)] w (Tells w (.bool (valL s))) := by
  have HY := Lib.hid (only_iff vR s)
  have HN := Lib.hid (only_not vR s)
  have HV := Lib.hid (show valL s = (onlyR vR s && trimB s == s) from rfl)
  have HT := Lib.hid (fun w => rtrim_any s hs w)
  obtain ⟨V, hV⟩ : ∃ V, valL s = V := ⟨_, rfl⟩
  obtain ⟨R, hR⟩ : ∃ R, onlyR vR s = R := ⟨_, rfl⟩
  obtain ⟨T, hT⟩ : ∃ T, trimB s = T := ⟨_, rfl⟩
  rw [hR] at HY HN
  rw [hV, hR, hT] at HV
  rw [hT] at HT
  rw [hV]
  clear hV hR hT
  have HB := Lib.hid (Below.refl w.heap.size w)
  go_enter Tryd.func22, Tryd.ntmps22
  go_wp2_with fail
  go_loopw [3] (fun i wr => ∃ k : Nat, k ≤ s.length ∧ i = .int .i64 k ∧ Hid (∀ j, j < k → inR vR (s.getD j 0).toNat = true) ∧ w = wr) (fun i _ => s.length - (intOf i).toNat)
  case atStart => exact ⟨0, Nat.zero_le _, rfl, Lib.hid fun j hj => by omega, rfl⟩
  case round =>
    obtain ⟨k, hk, rfl, HD, rfl⟩ := hrel
    by_cases hlt : k < s.length
    · have ia := ix_run s k hlt
      have HX := Lib.hid (HN.out k hlt)
      rw [← getD_at s k hlt] at ia
      have hx8 := (s.getD k 0).toNat_lt
      obtain ⟨x, hx⟩ : ∃ x, (s.getD k 0).toNat = x := ⟨_, rfl⟩
      rw [hx] at ia HX hx8
      have HI := Lib.hid (inV x hx8)
      have HE2 := Lib.hid (show inR vR x = true → ∀ j, j < k + 1 → inR vR (s.getD j 0).toNat = true from fun hb j hj => by
        by_cases e : j = k
        · subst e; rw [hx]; exact hb
        · exact HD.out j (by omega))
      clear hx
      by_cases h4 : x ≠ 9 ∧ x < 32 ∨ x = 127
      · have hR := HX.out (by rw [HI.out, decide_eq_true h4]; rfl)
        subst hR
        have hVf := HV.out
        rw [Bool.false_and] at hVf
        subst hVf
        by_cases h5 : x = 127
        · subst h5
          go_wp2_with fail
          go_ret
          exact ⟨rfl, HB.out⟩
        · have t1 : ((x : Int) != 9) = true := by rw [bne_iff_ne]; omega
          have t2 : (x : Int) < 32 := by omega
          clear h4 h5
          go_wp2_with fail
          go_ret
          exact ⟨rfl, HB.out⟩
      · replace HE2 := Lib.hid (HE2.out (by rw [HI.out, decide_eq_false h4]; rfl))
        have t3 : ((x : Int) == 127) = false := by rw [beq_eq_false_iff_ne]; omega
        by_cases h5 : x = 9
        · have t1 : ((x : Int) != 9) = false := by rw [bne_eq_false_iff_eq]; omega
          clear h4 h5
          go_wp2_with fail
          go_roundw
          case rel => exact ⟨k + 1, by omega, by go_num, HE2, trivial⟩
          case measure => simp [intOf]; omega
        · have t1 : ((x : Int) != 9) = true := by rw [bne_iff_ne]; omega
          have t2 : ¬ (x : Int) < 32 := by omega
          clear h4 h5
          go_wp2_with fail
          go_roundw
          case rel => exact ⟨k + 1, by omega, by go_num, HE2, trivial⟩
          case measure => simp [intOf]; omega
    · have hR : R = true := HY.out.2 fun j hj => HD.out j (by omega)
      subst hR
      have hVf := HV.out
      rw [Bool.true_and] at hVf
      subst hVf
      go_wp2_with fail
      refine (HT.out _).mono ?_; rintro e w1 ⟨rfl, hb⟩
      replace HB := Lib.hid hb
      clear hb
      go_wp2_with fail
      go_ret
      exact ⟨by simp only [bs_toList]; rfl, HB.out⟩
end Go.Proofs.YtknfgcmidpgifaaDoor

/-
  Which bytes may stand where, as arrays.
-/
namespace Go.Proofs.YtknfgcmidpgifaaDoor
open Go.RowKit Go.Shelf
set_option linter.unusedVariables false
set_option linter.unusedSimpArgs false
set_option maxRecDepth 100000

/-- An array of truths, by the place. -/
def tabP (p : Nat → Bool) : Array Value := ((List.range 256).map fun c => Value.bool (p c)).toArray
theorem tab_size (p : Nat → Bool) : (tabP p).size = 256 := by simp [tabP]
theorem tab_und : Tryd.prog.underlying 56 = some (.array 256 4) := by kernel_rfl
theorem tab_siz' : (Tryd.prog.info? 56).map (·.size) = some 256 := by kernel_rfl
theorem tab_siz (p : Nat → Bool) : (Tryd.prog.info? 56).map (·.size) = some (tabP p).size := by rw [tab_size]; exact tab_siz'
theorem tab_one (p : Nat → Bool) : (tabP p).all (·.oneCell') = true := by
  unfold tabP
  rw [List.all_toArray, List.all_map, List.all_eq_true]
  intro x _
  rfl
theorem tab_zero (w : World) : (zeroValue 56).run Tryd.prog w = .ok (.agg (tabP fun _ => false)) w := by kernel_rfl
theorem tab_step (p q : Nat → Bool) (x : Nat) (hx : x < 256) (h : ∀ c, c < 256 → q c = if c = x then true else p c) : (tabP p).setIfInBounds x (.bool true) = tabP q := by
  apply Array.ext
  · simp [tabP]
  · intro c h1 h2
    have h3 : c < 256 := by simpa [tabP] using h2
    rw [Array.getElem_setIfInBounds (hj := by rw [tab_size]; exact h3)]
    simp only [tabP, List.getElem_toArray, List.getElem_map, List.getElem_range]
    rw [h c h3]
    by_cases e : x = c
    · rw [if_pos e, if_pos e.symm]
    · rw [if_neg e, if_neg (fun h => e h.symm)]
theorem tab_get (p : Nat → Bool) (c : Nat) (h : c < 256) : (tabP p)[c]? = some (.bool (p c)) := by
  simp [tabP, h]

/-- Such an array's block. -/
def ArB (w : World) (g : Nat) (p : Nat → Bool) : Prop := w.heap[g]? = some (.cells (tabP p) 56 (0, 0))
theorem ArB.cell {w : World} {g : Nat} {p : Nat → Bool} (h : ArB w g p) (c : Nat) (hc : c < 256) : w.cell? ⟨g, c, none⟩ = some (.bool (p c)) ∧ w.frozen? ⟨g, c, none⟩ = false := by
  unfold ArB at h
  exact ⟨by rw [World.cell?, h]; exact tab_get p c hc, by simp [World.frozen?, h]⟩
theorem ArB.set {w : World} {g : Nat} {p q : Nat → Bool} (h : ArB w g p) (x : Nat) (hx : x < 256) (hq : ∀ c, c < 256 → q c = if c = x then true else p c) : ArB (w.setCell ⟨g, x, none⟩ (.bool true)) g q := by
  unfold ArB at h ⊢
  rw [← tab_step p q x hx hq]
  simp [World.setCell, Array.getElem?_modify, h]

/-- How it is, while the rows are gone through. -/
structure AlI (w wr : World) (p : Nat → Bool) : Prop where
  ar : ArB wr (w.heap.size + 1) p
  res : ArB wr w.heap.size fun _ => false
  bel : Below w.heap.size w wr
  sz : w.heap.size + 1 < wr.heap.size
theorem AlI.next {w wr : World} {p q : Nat → Bool} (h : AlI w wr p) (x : Nat) (hx : x < 256) (hq : ∀ c, c < 256 → q c = if c = x then true else p c) : AlI w (wr.setCell ⟨w.heap.size + 1, x, none⟩ (.bool true)) q := by
  refine ⟨h.ar.set x hx hq, ?_, h.bel.setCell (by simp) _, ?_⟩
  · exact (Below.heap_setCell _ _ _ _ (by simp)).trans h.res
  · have := h.sz
    simp [World.setCell]; omega
theorem AlI.same {w wr : World} {p q : Nat → Bool} (h : AlI w wr p) (hq : ∀ c, c < 256 → q c = p c) : AlI w wr q := by
  refine ⟨?_, h.res, h.bel, h.sz⟩
  have : tabP q = tabP p := by
    unfold tabP
    congr 1
    apply List.map_congr_left
    intro c hc
    rw [hq c (by simpa using hc)]
  unfold ArB
  rw [this]
  exact h.ar

theorem inR_app (r : List UInt8) (lo hi : UInt8) (c : Nat) : ∀ a : List UInt8, a.length % 2 = 0 → inR (a ++ lo :: hi :: r) c = (inR a c || (decide (lo.toNat ≤ c) && decide (c ≤ hi.toNat)) || inR r c)
  | [], _ => by simp [inR]
  | [_], h => by simp at h
  | x :: y :: a, h => by
    simp only [List.cons_append, inR]
    rw [inR_app r lo hi c a (by simp at h; omega)]
    simp only [Bool.or_assoc]
theorem inR_two (r : List UInt8) (i : Nat) (h2 : i % 2 = 0) (h : i + 1 < r.length) (c : Nat) : inR (r.take (i + 2)) c = (inR (r.take i) c || (decide ((r.getD i 0).toNat ≤ c) && decide (c ≤ (r.getD (i + 1) 0).toNat))) := by
  have e : r.take (i + 2) = r.take i ++ r.getD i 0 :: r.getD (i + 1) 0 :: [] := by
    rw [getD_at _ _ (by omega), getD_at _ _ h, show i + 2 = i + 1 + 1 by omega, List.take_succ_eq_append_getElem h, List.take_succ_eq_append_getElem (show i < r.length by omega), List.append_assoc]
    rfl
  rw [e, inR_app _ _ _ _ _ (by rw [List.length_take]; omega)]
  simp [inR]

set_option maxHeartbeats 2000000 in
theorem allOf_any (r : List UInt8) (hr : r.length % 2 = 0) (hl : r.length ≤ 1000) (w : World) : Calls Tryd.prog 29 #[.string (bs r)] w fun e w' => e = .returned (.agg (tabP (inR r))) ∧ Below w.heap.size w w' := by
  have hI0 : AlI w ((w.alloc (.cells (tabP fun _ => false) 56)).alloc (.cells (tabP fun _ => false) 56)) (fun _ => false) := by
    refine ⟨two_alloc _ _ _, (Lib.alloc_old _ _ _ (by simp)).trans (heap_alloc_new w _), ((Below.refl _ _).alloc (Nat.le_refl _) _).alloc (by simp) _, by simp⟩
  have hz := tab_zero
  obtain ⟨Z, hZ⟩ : ∃ Z, tabP (fun _ => false) = Z := ⟨_, rfl⟩
  rw [hZ] at hz hI0
  have HI0 := Lib.hid hI0
  have HZ := Lib.hid hZ
  have HR := Lib.hid hr
  clear hI0 hZ hr
  go_enter Tryd.func29, Tryd.ntmps29
  go_wp2_with fail
  go_loopg [4, 5] r.length (fun g v4 v5 wr => ∃ i : Nat, i % 2 = 0 ∧ i + g = r.length ∧ v4 = .int .i64 i ∧ Hid (AlI w wr (inR (r.take i))))
  case atStart => exact ⟨0, rfl, by omega, rfl, Lib.hid (HI0.out.same fun c hc => by simp [inR])⟩
  case round =>
    clear HI0 hz
    obtain ⟨i, hi2, hi, rfl, HI⟩ := hrel
    by_cases hlt : i < r.length
    · have hlt1 : i + 1 < r.length := by have := HR.out; omega
      have ia := ix_run r i hlt
      have ib := ix_run r (i + 1) hlt1
      rw [← getD_at r i hlt] at ia
      rw [← getD_at r (i + 1) hlt1] at ib
      have HT := Lib.hid (inR_two r i hi2 hlt1)
      have hlo := (r.getD i 0).toNat_lt
      have hhi := (r.getD (i + 1) 0).toNat_lt
      obtain ⟨lo, hlo'⟩ : ∃ x, (r.getD i 0).toNat = x := ⟨_, rfl⟩
      obtain ⟨hh, hhh⟩ : ∃ x, (r.getD (i + 1) 0).toNat = x := ⟨_, rfl⟩
      rw [hlo'] at ia HT hlo
      rw [hhh] at ib HT hhi
      have ib : ∀ (w : World), (Instr.index 9 (.string (bs r)) (.int .i64 ((i : Int) + 1))).run Tryd.prog w = .ok (.int .u8 (hh : Nat)) w := fun w => by have := ib w; rwa [show (((i + 1 : Nat) : Int)) = (i : Int) + 1 by omega] at this
      clear hlo' hhh
      have hlo : lo < 256 := hlo
      have hhi : hh < 256 := hhi
      go_wp2_with fail
      go_loopg [5] 256 (fun g' v5 wr => ∃ x : Nat, 256 ≤ x + g' ∧ lo ≤ x ∧ (x ≤ hh + 1 ∨ x = lo) ∧ v5 = .int .i64 x ∧ Hid (AlI w wr fun c => inR (r.take i) c || (decide (lo ≤ c) && decide (c < x))))
      case atStart => exact ⟨lo, by omega, Nat.le_refl _, .inr rfl, rfl, Lib.hid (HI.out.same fun c hc => by
        by_cases h1 : lo ≤ c
        · rw [decide_eq_true h1, decide_eq_false (by omega : ¬ c < lo)]; simp
        · rw [decide_eq_false h1]; simp)⟩
      case round =>
        clear HI
        obtain ⟨x, hx, hlx, hxh, rfl, HI⟩ := hrel
        by_cases hle : x ≤ hh
        · have hx256 : x < 256 := by omega
          obtain ⟨a0, a1⟩ := HI.out.ar.cell x hx256
          have HI2 := Lib.hid (HI.out.next (q := fun c => inR (r.take i) c || (decide (lo ≤ c) && decide (c < x + 1))) x hx256 fun c hc => by
            by_cases e : c = x
            · subst e; rw [if_pos rfl, decide_eq_true hlx, decide_eq_true (by omega : c < c + 1)]; simp
            · rw [if_neg e]
              have : decide (c < x + 1) = decide (c < x) := by rw [decide_eq_decide]; omega
              rw [this])
          obtain ⟨V, hV⟩ : ∃ V, Value.bool (inR (r.take i) x || (decide (lo ≤ x) && decide (x < x))) = V := ⟨_, rfl⟩
          rw [hV] at a0
          have hxi : (x : Int) < 256 := by omega
          clear hV HI
          go_wp2_with fail
          go_roundg (256 - (x + 1))
          case measure => omega
          case rel => exact ⟨x + 1, by omega, by omega, .inl (by omega), by go_num, HI2⟩
        · have HI2 := Lib.hid (show AlI w _ (inR (r.take (i + 2))) from HI.out.same fun c hc => by
            rw [HT.out]
            have : (decide (lo ≤ c) && decide (c ≤ hh)) = (decide (lo ≤ c) && decide (c < x)) := by
              rw [Bool.eq_iff_iff]
              simp only [Bool.and_eq_true, decide_eq_true_eq]
              omega
            rw [this])
          clear HI
          go_wp2_with fail
          go_roundg (r.length - (i + 2))
          case measure => omega
          case rel => exact ⟨i + 2, by omega, by omega, by go_num, HI2⟩
    · have hi' : r.take i = r := List.take_of_length_le (by omega)
      rw [hi'] at HI
      have HRr := Lib.hid (show ArB (wr.setRow w.heap.size (tabP (inR r))) w.heap.size (inR r) from setRow_heap wr _ _ _ _ _ HI.out.res)
      have HB := Lib.hid (show Below w.heap.size w (wr.setRow w.heap.size (tabP (inR r))) from HI.out.bel.trans ⟨rfl, rfl, rfl, by simp, fun j hj => setRow_other wr _ j _ (by omega)⟩)
      clear hi'
      go_wp2_with fail
      refine wp_load_row 56 (.tmp 3) rfl (w.heap.size + 1) rfl 56 (tabP (inR r)) (0, 0) _ HI.out.ar tab_und rfl (tab_siz _) ?_
      have hst : (storeCells ⟨w.heap.size, 0, none⟩ (tabP (inR r)).toList).run Tryd.prog wr = .ok () (wr.setRow w.heap.size (tabP (inR r))) := by
        have := run_storeCells_from (P := Tryd.prog) w.heap.size 56 (tabP (inR r)).toList 0 (tabP fun _ => false) wr HI.out.res (by simp [tab_size]) (fun v hv => (Array.all_eq_true_iff_forall_mem.1 (tab_one _)) v (by simpa using hv))
        simpa using this
      clear HI
      go_wp2_with fail
      exact bodyPost_ret (results_cell_row Tryd.results29 _ _ w.heap.size 56 (tabP (inR r)) (0, 0) _ rfl HRr.out tab_und rfl (tab_siz _)) rfl ⟨rfl, HB.out⟩
end Go.Proofs.YtknfgcmidpgifaaDoor

/-
  What may stand where, asked; blanks taken off.
-/
namespace Go.Proofs.YtknfgcmidpgifaaDoor
open Go.RowKit Go.Shelf
set_option linter.unusedVariables false
set_option linter.unusedSimpArgs false
set_option maxRecDepth 100000

/-- From a place on, a block says which bytes are in these rows. -/
def TbR (w : World) (g o : Nat) (r : List UInt8) : Prop := ∀ c, c < 256 → w.cell? ⟨g, o + c, none⟩ = some (.bool (inR r c))
theorem TbR.later {w w' : World} {g o : Nat} {r : List UInt8} (h : TbR w g o r) (hb : Below w.heap.size w w') : TbR w' g o r := fun c hc => cell_later hb (h c hc)

set_option maxHeartbeats 1000000 in
theorem only_any (s r : List UInt8) (g o : Nat) (ho : o ≤ 1000000) (hs : s.length ≤ 140737488351232) (w : World) (ht : TbR w g o r) : Calls Tryd.prog 52 #[.string (bs s), .pointer (some ⟨g, o, none⟩)] w (Tells w (.bool (onlyR r s))) := by
  have HY := Lib.hid (only_iff r s)
  have HN := Lib.hid (only_not r s)
  have HT := Lib.hid ht
  obtain ⟨R, hR⟩ : ∃ R, onlyR r s = R := ⟨_, rfl⟩
  rw [hR] at HY HN ⊢
  clear hR ht
  have HB := Lib.hid (Below.refl w.heap.size w)
  go_enter Tryd.func52, Tryd.ntmps52
  go_wp2_with fail
  go_loopw [8] (fun i wr => ∃ k : Nat, k ≤ s.length ∧ i = .int .i64 k ∧ Hid (∀ j, j < k → inR r (s.getD j 0).toNat = true) ∧ Hid (Below w.heap.size w wr)) (fun i _ => s.length - (intOf i).toNat)
  case atStart => exact ⟨0, Nat.zero_le _, rfl, Lib.hid fun j hj => by omega, HB⟩
  case round =>
    obtain ⟨k, hk, rfl, HD, HB⟩ := hrel
    by_cases hlt : k < s.length
    · have ia := ix_run s k hlt
      have HX := Lib.hid (HN.out k hlt)
      rw [← getD_at s k hlt] at ia
      have hx8 := (s.getD k 0).toNat_lt
      have hc := (HT.out.later HB.out) (s.getD k 0).toNat hx8
      obtain ⟨x, hx⟩ : ∃ x, (s.getD k 0).toNat = x := ⟨_, rfl⟩
      rw [hx] at ia HX hx8 hc
      have HE2 := Lib.hid (show inR r x = true → ∀ j, j < k + 1 → inR r (s.getD j 0).toNat = true from fun hb j hj => by
        by_cases e : j = k
        · subst e; rw [hx]; exact hb
        · exact HD.out j (by omega))
      clear hx
      have hx2 : (x : Int) < 256 := by have : x < 256 := hx8; omega
      have hx3 : x < 256 := hx8
      obtain ⟨B, hB⟩ : ∃ B, inR r x = B := ⟨_, rfl⟩
      rw [hB] at HX hc HE2
      clear hB hx8
      cases B with
      | true =>
        replace HE2 := Lib.hid (HE2.out rfl)
        go_wp2_with fail
        go_quiet (fail)
        go_wp2_with fail
        go_roundw
        case rel => exact ⟨k + 1, by omega, by go_num, HE2, Lib.hid (below_drewN HB.out _)⟩
        case measure => simp [intOf]; omega
      | false =>
        have hR := HX.out rfl
        subst hR
        go_wp2_with fail
        go_quiet (fail)
        go_wp2_with fail
        go_ret
        exact ⟨rfl, below_drewN HB.out _⟩
    · have hR : R = true := HY.out.2 fun j hj => HD.out j (by omega)
      subst hR
      go_wp2_with fail
      go_ret
      exact ⟨rfl, HB.out⟩

def wrdR (r s : List UInt8) (most : Nat) : Bool := decide (1 ≤ s.length) && (decide (s.length ≤ most) && onlyR r s)
set_option maxHeartbeats 400000 in
theorem isWord_any (s r : List UInt8) (g o most : Nat) (ho : o ≤ 1000000) (hm : most ≤ 1000000) (hs : s.length ≤ 140737488351232) (w : World) (ht : TbR w g o r) : Calls Tryd.prog 47 #[.string (bs s), .pointer (some ⟨g, o, none⟩), .int .i64 most] w (Tells w (.bool (wrdR r s most))) := by
  have HO := Lib.hid (only_any s r g o ho hs w ht)
  clear ht
  by_cases h1 : 1 ≤ s.length
  · by_cases h2 : s.length ≤ most
    · have e : wrdR r s most = onlyR r s := by unfold wrdR; rw [decide_eq_true h1, decide_eq_true h2]; rfl
      rw [e]
      have t1 : (1 : Int) ≤ s.length := by omega
      go_enter Tryd.func47, Tryd.ntmps47
      go_wp2_with fail
      refine (HO.out).mono ?_; rintro e w1 ⟨rfl, hb⟩
      have HB := Lib.hid hb
      clear hb
      go_wp2_with fail
      go_ret
      exact ⟨rfl, HB.out⟩
    · have e : wrdR r s most = false := by unfold wrdR; rw [decide_eq_false h2]; simp
      rw [e]
      have t1 : (1 : Int) ≤ s.length := by omega
      go_enter Tryd.func47, Tryd.ntmps47
      go_wp2_with fail
      go_ret
      exact ⟨rfl, Below.refl _ _⟩
  · have e : wrdR r s most = false := by unfold wrdR; rw [decide_eq_false h1]; rfl
    rw [e]
    have t1 : ¬ (1 : Int) ≤ s.length := by omega
    go_enter Tryd.func47, Tryd.ntmps47
    go_wp2_with fail
    go_ret
    exact ⟨rfl, Below.refl _ _⟩

/-- The three arrays of a head's places, in a block. -/
structure Pl (w : World) (g : Nat) : Prop where
  word : TbR w g 0 wR
  tgt : TbR w g 256 tR
  val : TbR w g 512 vR
theorem Pl.later {w w' : World} {g : Nat} (h : Pl w g) (hb : Below w.heap.size w w') : Pl w' g := ⟨h.word.later hb, h.tgt.later hb, h.val.later hb⟩

theorem method_any (s : List UInt8) (g : Nat) (hs : s.length ≤ 140737488351232) (w : World) (hp : Pl w g) : Calls Tryd.prog 32 #[.pointer (some ⟨g, 0, none⟩), .string (bs s)] w (Tells w (.bool (wordL s 16))) := by
  have HO := Lib.hid (isWord_any s wR g 0 16 (by omega) (by omega) hs w hp.word)
  clear hp
  go_enter Tryd.func32, Tryd.ntmps32
  go_wp2_with fail
  refine (HO.out).mono ?_; rintro e w1 ⟨rfl, hb⟩
  have HB := Lib.hid hb
  clear hb
  go_wp2_with fail
  go_ret
  exact ⟨rfl, HB.out⟩
theorem name_any (s : List UInt8) (g : Nat) (hs : s.length ≤ 140737488351232) (w : World) (hp : Pl w g) : Calls Tryd.prog 37 #[.pointer (some ⟨g, 0, none⟩), .string (bs s)] w (Tells w (.bool (wordL s 64))) := by
  have HO := Lib.hid (isWord_any s wR g 0 64 (by omega) (by omega) hs w hp.word)
  clear hp
  go_enter Tryd.func37, Tryd.ntmps37
  go_wp2_with fail
  refine (HO.out).mono ?_; rintro e w1 ⟨rfl, hb⟩
  have HB := Lib.hid hb
  clear hb
  go_wp2_with fail
  go_ret
  exact ⟨rfl, HB.out⟩
set_option maxHeartbeats 400000 in
theorem target_any (s : List UInt8) (g : Nat) (hs : s.length ≤ 140737488351232) (w : World) (hp : Pl w g) : Calls Tryd.prog 34 #[.pointer (some ⟨g, 0, none⟩), .string (bs s)] w (Tells w (.bool (tgtL s))) := by
  have HO := Lib.hid (isWord_any s tR g 256 2048 (by omega) (by omega) hs w hp.tgt)
  have e : tgtL s = (wrdR tR s 2048 && s.head? == some 47) := rfl
  rw [e]
  clear hp e
  by_cases h1 : wrdR tR s 2048 = true
  · have h0 : 1 ≤ s.length := by
      unfold wrdR at h1
      simp only [Bool.and_eq_true, decide_eq_true_eq] at h1
      exact h1.1
    have h2 : s.head? = some (s.getD 0 0) := by
      cases s with
      | nil => simp at h0
      | cons x r => rfl
    have i0 := ix_run s 0 (by omega)
    rw [← getD_at s 0 (by omega)] at i0
    have i0 : ∀ (w : World), (Instr.index 9 (.string (bs s)) (.int .i64 0)).run Tryd.prog w = .ok (.int .u8 ((s.getD 0 0).toNat : Nat)) w := i0
    rw [h1] at HO ⊢
    rw [h2, Bool.true_and]
    have e2 : (some (s.getD 0 0) == some 47) = (((s.getD 0 0).toNat : Int) == 47) := by
      rw [Bool.eq_iff_iff]
      simp only [beq_iff_eq, Option.some.injEq]
      rw [← UInt8.toNat_inj]
      show (s.getD 0 0).toNat = 47 ↔ _
      omega
    rw [e2]
    obtain ⟨x, hx⟩ : ∃ x, (s.getD 0 0).toNat = x := ⟨_, rfl⟩
    rw [hx] at i0 ⊢
    clear e2 hx h2
    have h0' : (0 : Int) < s.length := by omega
    go_enter Tryd.func34, Tryd.ntmps34
    go_wp2_with fail
    refine (HO.out).mono ?_; rintro e w1 ⟨rfl, hb⟩
    have HB := Lib.hid hb
    clear hb
    go_wp2_with fail
    go_ret
    exact ⟨rfl, HB.out⟩
  · have h1 : wrdR tR s 2048 = false := by simpa using h1
    rw [h1] at HO ⊢
    rw [Bool.false_and]
    go_enter Tryd.func34, Tryd.ntmps34
    go_wp2_with fail
    refine (HO.out).mono ?_; rintro e w1 ⟨rfl, hb⟩
    have HB := Lib.hid hb
    clear hb
    go_wp2_with fail
    go_ret
    exact ⟨rfl, HB.out⟩

/-- Blanks taken off. -/
theorem bare_any (s : List UInt8) (hs : s.length ≤ 140737488351232) (w : World) : Calls Tryd.prog 36 #[.string (bs s)] w (Tells w (.string (bs (trimB s)))) := by
  have h := Any.strings_Trim_laid Tryd.lays160 (by kernel_rfl) (bs s) ⟨#[9, 32]⟩ w (by rw [bs_size]; omega) (by decide) (ascii_of_all (by decide))
  change Calls Tryd.prog 51 #[.string (bs s), .string ⟨#[9, 32]⟩] w (fun e w' => e = .returned (.string (bs (trimB s))) ∧ Below w.heap.size w w') at h
  have HO := Lib.hid h
  clear h
  go_enter Tryd.func36, Tryd.ntmps36
  go_wp2_with fail
  refine (HO.out).mono ?_; rintro e w1 ⟨rfl, hb⟩
  have HB := Lib.hid hb
  clear hb
  go_wp2_with fail
  go_ret
  exact ⟨rfl, HB.out⟩
set_option maxHeartbeats 400000 in
theorem value_any (s : List UInt8) (g : Nat) (hs : s.length ≤ 140737488351232) (w : World) (hp : Pl w g) : Calls Tryd.prog 38 #[.pointer (some ⟨g, 0, none⟩), .string (bs s)] w (Tells w (.bool (valL s))) := by
  have HO := Lib.hid (only_any s vR g 512 (by omega) hs w hp.val)
  have HBR := Lib.hid (fun wx => bare_any s hs wx)
  have e : valL s = (onlyR vR s && trimB s == s) := rfl
  rw [e]
  clear hp e
  obtain ⟨T, hT⟩ : ∃ T, trimB s = T := ⟨_, rfl⟩
  obtain ⟨R, hR⟩ : ∃ R, onlyR vR s = R := ⟨_, rfl⟩
  rw [hR] at HO ⊢
  rw [hT] at HBR ⊢
  clear hR hT
  cases R with
  | true =>
    rw [Bool.true_and]
    go_enter Tryd.func38, Tryd.ntmps38
    go_wp2_with fail
    refine (HO.out).mono ?_; rintro e w1 ⟨rfl, hb⟩
    have HB := Lib.hid hb
    clear hb
    go_wp2_with fail
    refine (tell_on HB (HBR.out _)).mono ?_; rintro e w2 ⟨rfl, HB⟩
    go_wp2_with fail
    go_ret
    exact ⟨by simp only [bs_toList]; rfl, HB.out⟩
  | false =>
    rw [Bool.false_and]
    go_enter Tryd.func38, Tryd.ntmps38
    go_wp2_with fail
    refine (HO.out).mono ?_; rintro e w1 ⟨rfl, hb⟩
    have HB := Lib.hid hb
    clear hb
    go_wp2_with fail
    go_ret
    exact ⟨rfl, HB.out⟩
end Go.Proofs.YtknfgcmidpgifaaDoor

/-
  Digits; the three arrays made.
-/
namespace Go.Proofs.YtknfgcmidpgifaaDoor
open Go.RowKit Go.Shelf
set_option linter.unusedVariables false
set_option linter.unusedSimpArgs false
set_option maxRecDepth 100000

set_option maxHeartbeats 1000000 in
theorem digits_any (s : List UInt8) (hs : s.length ≤ 140737488351232) (w : World) : Calls Tryd.prog 49 #[.string (bs s)] w (Tells w (.bool (onlyR dR s))) := by
  have HA := Lib.hid (fun wx => allOf_any dR (by decide) (by decide) wx)
  have HO := Lib.hid (fun g wx (ht : TbR wx g 0 dR) => only_any s dR g 0 (by omega) hs wx ht)
  have hsc : ∀ w1 : World, (storeCells ⟨w1.heap.size, 0, none⟩ (tabP (inR dR)).toList 0).run Tryd.prog (w1.alloc (.cells (tabP fun _ => false) 56)) = .ok () (w1.alloc (.cells (tabP (inR dR)) 56)) :=
    fun w1 => run_storeCells_new (P := Tryd.prog) w1 56 _ _ (tab_siz _) (by rw [tab_size, tab_size]) (tab_one _)
  have HT := Lib.hid (fun (w1 : World) c (hc : c < 256) => (ArB.cell (w := w1.alloc (.cells (tabP (inR dR)) 56)) (g := w1.heap.size) (p := inR dR) (heap_alloc_new w1 _) c hc).1)
  have hsz := tab_size (inR dR)
  obtain ⟨D, hD⟩ : ∃ D, tabP (inR dR) = D := ⟨_, rfl⟩
  have hz := tab_zero
  obtain ⟨Z, hZ⟩ : ∃ Z, tabP (fun _ => false) = Z := ⟨_, rfl⟩
  rw [hD] at HA HT hsz
  simp only [hD, hZ] at hsc
  rw [hZ] at hz
  have e : bs dR = ⟨#[48, 57]⟩ := rfl
  rw [e] at HA
  clear hD hZ e
  go_enter Tryd.func49, Tryd.ntmps49
  go_wp2_with fail
  refine (HA.out _).mono ?_; rintro e w1 ⟨rfl, hb⟩
  have hsc := hsc w1
  have HB := Lib.hid (bel_alloc hb (.cells D 56))
  clear hb
  go_wp2_with fail
  refine (HO.out w1.heap.size _ (fun c hc => by rw [Nat.zero_add]; exact HT.out w1 c hc)).mono ?_; rintro e w2 ⟨rfl, hb⟩
  replace HB := Lib.hid (bel_call HB.out hb)
  clear hb
  go_wp2_with fail
  go_ret
  exact ⟨rfl, HB.out⟩

/-- The three arrays, one behind the other. -/
def plD : Array Value := tabP (inR wR) ++ tabP (inR tR) ++ tabP (inR vR)
theorem pl_new (w : World) : Pl (w.alloc (.cells plD 59)) w.heap.size := by
  have hc : ∀ o v, plD[o]? = some v → (w.alloc (.cells plD 59)).cell? ⟨w.heap.size, o, none⟩ = some v := fun o v h => by
    rw [World.cell?, heap_alloc_new]; exact h
  refine ⟨fun c h => hc _ _ ?_, fun c h => hc _ _ ?_, fun c h => hc _ _ ?_⟩
  · unfold plD
    rw [Nat.zero_add, Array.getElem?_append_left (by rw [Array.size_append, tab_size, tab_size]; omega), Array.getElem?_append_left (by rw [tab_size]; exact h), tab_get _ _ h]
  · unfold plD
    rw [Array.getElem?_append_left (by rw [Array.size_append, tab_size, tab_size]; omega), Array.getElem?_append_right (by rw [tab_size]; omega), tab_size, Nat.add_sub_cancel_left, tab_get _ _ h]
  · unfold plD
    rw [Array.getElem?_append_right (by rw [Array.size_append, tab_size, tab_size]; omega), Array.size_append, tab_size, tab_size, show 512 + c - (256 + 256) = c by omega, tab_get _ _ h]
theorem fill_at (off : Nat) : ∀ (L : List Value) (k : Nat) (cs : Array Value), off + k + L.length ≤ cs.size →
    ((L.zipIdx k).foldl (fun cs (p : Value × Nat) => cs.setIfInBounds (off + p.2) p.1) cs).size = cs.size ∧
    ∀ i, ((L.zipIdx k).foldl (fun cs (p : Value × Nat) => cs.setIfInBounds (off + p.2) p.1) cs)[i]? = if off + k ≤ i ∧ i < off + k + L.length then L[i - (off + k)]? else cs[i]?
  | [], k, cs, _ => ⟨rfl, fun i => by rw [if_neg (by simp)]; rfl⟩
  | x :: L, k, cs, h => by
    simp only [List.zipIdx_cons, List.foldl_cons]
    obtain ⟨h1, h2⟩ := fill_at off L (k + 1) (cs.setIfInBounds (off + k) x) (by simp at h ⊢; omega)
    refine ⟨by rw [h1]; simp, fun i => ?_⟩
    rw [h2 i]
    simp only [List.length_cons] at h ⊢
    by_cases e : i = off + k
    · subst e
      rw [if_neg (by omega), if_pos (by omega), Nat.sub_self, Array.getElem?_setIfInBounds, if_pos rfl, if_pos (by omega)]
      rfl
    · by_cases e2 : off + (k + 1) ≤ i ∧ i < off + (k + 1) + L.length
      · rw [if_pos e2, if_pos (by omega), show i - (off + k) = (i - (off + (k + 1))) + 1 by omega, List.getElem?_cons_succ]
      · rw [if_neg e2, Array.getElem?_setIfInBounds, if_neg (fun h => e h.symm)]
        by_cases e3 : off + k ≤ i ∧ i < off + k + (L.length + 1)
        · omega
        · rw [if_neg e3]
def laid (off : Nat) (A cs : Array Value) : Array Value := A.zipIdx.foldl (fun cs (p : Value × Nat) => cs.setIfInBounds (off + p.2) p.1) cs
theorem laid_at (off : Nat) (A cs : Array Value) (h : off + A.size ≤ cs.size) : (laid off A cs).size = cs.size ∧ ∀ i, (laid off A cs)[i]? = if off ≤ i ∧ i < off + A.size then A[i - off]? else cs[i]? := by
  have := fill_at off A.toList 0 cs (by simpa using h)
  have e : laid off A cs = (A.toList.zipIdx 0).foldl (fun cs (p : Value × Nat) => cs.setIfInBounds (off + p.2) p.1) cs := by
    unfold laid
    rw [← Array.foldl_toList, Array.toList_zipIdx]
  rw [e]
  simpa using this
theorem pl_info : (Tryd.prog.info? 59).map (·.zero) = some (some (.agg (Array.replicate 768 (.bool false)))) := by kernel_rfl
theorem pl_und : Tryd.prog.underlying 59 = some (.struct (Tryd.prog.fieldsOf 59)) := by kernel_rfl
theorem pl_places : (Tryd.prog.fieldsOf 59).toList.mapM (fun f => (Tryd.prog.info? f.type).map fun i => (f.offset, i.size)) = some [(0, 256), (256, 256), (512, 256)] := by kernel_rfl
theorem pl_build (A B C : Array Value) (hA : A.size = 256) (hB : B.size = 256) (hC : C.size = 256) : Tryd.prog.built 59 [(0, .agg A), (1, .agg B), (2, .agg C)] = some (A ++ B ++ C) := by
  unfold Program.built
  obtain ⟨it, h1, h2⟩ := Option.map_eq_some_iff.mp pl_info
  simp only [h1, pl_und, h2, pl_places]
  have Z : (Array.replicate 768 (Value.bool false)).size = 768 := Array.size_replicate
  have c0 : (Value.agg (Array.replicate 768 (Value.bool false))).cells = Array.replicate 768 (Value.bool false) := rfl
  rw [c0]
  obtain ⟨a1, a2⟩ := laid_at 0 A (Array.replicate 768 (Value.bool false)) (by rw [hA, Z]; omega)
  obtain ⟨b1, b2⟩ := laid_at 256 B (laid 0 A (Array.replicate 768 (Value.bool false))) (by rw [hB, a1, Z]; omega)
  obtain ⟨d1, d2⟩ := laid_at 512 C (laid 256 B (laid 0 A (Array.replicate 768 (Value.bool false)))) (by rw [hC, b1, a1, Z]; omega)
  have e : laid 512 C (laid 256 B (laid 0 A (Array.replicate 768 (Value.bool false)))) = A ++ B ++ C := by
    apply Array.ext_getElem?
    intro i
    rw [d2, b2, a2, hA, hB, hC]
    by_cases i1 : i < 256
    · rw [if_neg (by omega), if_neg (by omega), if_pos (by omega), Array.getElem?_append_left (by rw [Array.size_append]; omega), Array.getElem?_append_left (by omega), Nat.sub_zero]
    · by_cases i2 : i < 512
      · rw [if_neg (by omega), if_pos (by omega), Array.getElem?_append_left (by rw [Array.size_append]; omega), Array.getElem?_append_right (by omega), hA]
      · by_cases i3 : i < 768
        · rw [if_pos (by omega), Array.getElem?_append_right (by rw [Array.size_append]; omega), Array.size_append, hA, hB]
        · rw [if_neg (by omega), if_neg (by omega), if_neg (by omega)]
          rw [Array.getElem?_eq_none (by rw [Z]; omega), Array.getElem?_eq_none (by rw [Array.size_append, Array.size_append, hA, hB, hC]; omega)]
  rw [← e]
  have s0 : ∀ (o : Nat) (X cs : Array Value), X.size = 256 → o + 256 ≤ cs.size → ((X.size ≠ 256 || o + X.size > cs.size) = true) = False := fun o X cs h1 h2 => by
    simp [h1]; omega
  show Instr.fill _ _ [(0, Value.agg A), (1, Value.agg B), (2, Value.agg C)] = _
  have f1 : (Value.agg A).cells = A := rfl
  have f2 : (Value.agg B).cells = B := rfl
  have f3 : (Value.agg C).cells = C := rfl
  simp only [Instr.fill, List.getElem?_toArray, List.getElem?_cons_zero, List.getElem?_cons_succ, f1, f2, f3]
  have q1 : (decide (A.size ≠ 256) || decide (0 + A.size > (Array.replicate 768 (Value.bool false)).size)) = false := by rw [hA, Z]; rfl
  rw [q1]
  simp only [Bool.false_eq_true, if_false]
  have q2 : (decide (B.size ≠ 256) || decide (256 + B.size > (laid 0 A (Array.replicate 768 (Value.bool false))).size)) = false := by rw [hB, a1, Z]; rfl
  have q3 : (decide (C.size ≠ 256) || decide (512 + C.size > (laid 256 B (laid 0 A (Array.replicate 768 (Value.bool false)))).size)) = false := by rw [hC, b1, a1, Z]; rfl
  unfold laid at q2 q3 ⊢
  rw [q2]
  simp only [Bool.false_eq_true, if_false]
  rw [q3]
  simp only [Bool.false_eq_true, if_false]

theorem wpList_buildD {ops : Array Oper} {rest : List Oper} {o : Oper} {a : Act} {w : World} {Q : Exit → Act → World → Prop} (hg : o.guard = none) (t : TypeId) (parts : Array (Nat × Operand)) (ho : o.op = .build t parts) (cells : Array Value)
    (hb : Tryd.prog.built t (parts.map fun (i, x) => (i, a.eval x)).toList = some cells) (h : wpList Tryd.prog ops Q rest (a.put o.dst (.agg cells)) w) : wpList Tryd.prog ops Q (o :: rest) a w := by
  refine wpList_build hg t parts ho (by rw [hb]; rfl) ?_
  rw [hb]
  exact h

/-- The arrays, told: a block of the call's own. -/
def PlPost (w : World) (e : Ending) (w' : World) : Prop := ∃ g, e = .returned (.pointer (some ⟨g, 0, none⟩)) ∧ w.heap.size ≤ g ∧ Pl w' g ∧ Below w.heap.size w w'
set_option maxHeartbeats 1000000 in
theorem allPlaces_any (w : World) : Calls Tryd.prog 13 #[] w (PlPost w) := by
  have HA1 := Lib.hid (fun wx => allOf_any wR (by decide) (by decide) wx)
  have HA2 := Lib.hid (fun wx => allOf_any tR (by decide) (by decide) wx)
  have HA3 := Lib.hid (fun wx => allOf_any vR (by decide) (by decide) wx)
  have hb := pl_build _ _ _ (tab_size (inR wR)) (tab_size (inR tR)) (tab_size (inR vR))
  have HP := Lib.hid pl_new
  obtain ⟨A, hA⟩ : ∃ D, tabP (inR wR) = D := ⟨_, rfl⟩
  obtain ⟨B, hB⟩ : ∃ D, tabP (inR tR) = D := ⟨_, rfl⟩
  obtain ⟨C, hC⟩ : ∃ D, tabP (inR vR) = D := ⟨_, rfl⟩
  obtain ⟨D, hD⟩ : ∃ D, plD = D := ⟨_, rfl⟩
  rw [hA] at HA1
  rw [hB] at HA2
  rw [hC] at HA3
  rw [hD] at HP
  have eD : tabP (inR wR) ++ tabP (inR tR) ++ tabP (inR vR) = D := hD
  simp only [eD] at hb
  simp only [hA, hB, hC] at hb
  clear eD
  have e1 : bs wR = ⟨#[33, 33, 35, 39, 42, 43, 45, 46, 48, 57, 65, 90, 94, 122, 124, 124, 126, 126]⟩ := rfl
  have e2 : bs tR = ⟨#[33, 126]⟩ := rfl
  have e3 : bs vR = ⟨#[9, 9, 32, 126, 128, 255]⟩ := rfl
  rw [e1] at HA1
  rw [e2] at HA2
  rw [e3] at HA3
  clear hA hB hC hD e1 e2 e3
  go_enter Tryd.func13, Tryd.ntmps13
  go_wp2_with fail
  refine (HA1.out _).mono ?_; rintro e w1 ⟨rfl, hq⟩
  have HB := Lib.hid hq
  clear hq
  go_wp2_with fail
  refine (HA2.out _).mono ?_; rintro e w2 ⟨rfl, hq⟩
  replace HB := Lib.hid (bel_call HB.out hq)
  clear hq
  go_wp2_with fail
  refine (HA3.out _).mono ?_; rintro e w3 ⟨rfl, hq⟩
  replace HB := Lib.hid (bel_call HB.out hq)
  clear hq
  have HBD := Lib.hid hb
  clear hb
  go_wp2_with (refine wpList_buildD (o := ⟨some 4, _, _, _, _, _⟩) rfl 59 _ rfl D ?_ ?_; · simpa [go_sem] using HBD.out)
  go_ret
  exact ⟨_, rfl, HB.out.size, HP.out _, bel_alloc HB.out _⟩
end Go.Proofs.YtknfgcmidpgifaaDoor
