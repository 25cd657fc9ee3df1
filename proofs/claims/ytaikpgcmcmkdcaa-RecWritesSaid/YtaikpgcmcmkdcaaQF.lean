/-
  The document's own cutting: texts, and how far a name goes.
-/
import Derived.Test.YtaikpgcmcmkdcaaQE
import Derived.Test.YtaikpgcmcmkdcaaTh
import Derived.Test.YtaikpgcmcmkdcaaKo
import Derived.Test.YtaikpgcmcmkdcaaKp
import Derived.Test.YtaikpgcmcmkdcaaTd
import Derived.Test.YtaikpgcmcmkdcaaQC
import Derived.Test.YtaikpgcmcmkdcaaTg
import Derived.Test.YtaikpgcmcmkdcaaKe
import Derived.Test.YtaikpgcmcmkdcaaTp
namespace Go.Proofs.Ytaikpgcmcmkdcaa
open Go.RowKit Go.Shelf
set_option linter.unusedVariables false
set_option linter.unusedSimpArgs false
set_option maxRecDepth 100000

theorem txs_end {s : List UInt8} {p : Nat} (h : ¬ p < s.length) : ∀ n, s.length + 1 ≤ n + p → txs s n p = decide (p = s.length)
  | 0, hn => by rw [txs, decide_eq_false (by omega)]
  | n + 1, hn => by rw [txs, dif_neg h]
theorem frt_end {s : List UInt8} {p : Nat} (h : ¬ p < s.length) : ∀ n, frt s n p = none
  | 0 => rfl
  | n + 1 => by rw [frt, dif_neg h]

set_option maxHeartbeats 4000000 in
theorem rtexts_any (s : List UInt8) (hs : s.length ≤ 1000000) (w : World) : Calls Try.prog 81 #[.string (bs s)] w fun e w' => e = .returned (.bool (texts s)) ∧ w = w' := by
  have hsz : (bs s).size = s.length := bs_size s
  obtain ⟨X, hX⟩ : ∃ X, txs s (s.length + 1) 0 = X := ⟨_, rfl⟩
  obtain ⟨Y, hY⟩ : ∃ Y, texts s = Y := ⟨_, rfl⟩
  have HT := Lib.hid (show Y = (decide (s ≠ []) && X) by rw [← hY]; unfold texts; rw [hX])
  rw [hY]
  have HX := Lib.hid hX
  clear hY hX
  go_enter Try.func81, Try.ntmps81
  go_wp2_with fail
  go_loopg [3] (s.length + 1) (fun g v3 wr => ∃ p : Nat, v3 = .int .i64 p ∧ p ≤ s.length + 256 ∧ s.length + 1 ≤ g + p ∧ Hid (txs s g p = X) ∧ w = wr)
  case atStart => exact ⟨0, rfl, by omega, by omega, HX, rfl⟩
  case round =>
    obtain ⟨p, rfl, hp, hg, HP, rfl⟩ := hrel
    clear HX
    by_cases hlt : p < s.length
    · have hix := ix_run s p hlt
      have hst := HP.out
      obtain ⟨m, hm⟩ : ∃ m, gk = m + 1 := ⟨gk - 1, by omega⟩
      rw [hm, txs, dif_pos hlt] at hst
      have hc := s[p].toNat_lt
      obtain ⟨c, hcc⟩ : ∃ c, s[p].toNat = c := ⟨_, rfl⟩
      rw [hcc] at hix hst hc
      have HS := Lib.hid hst
      clear hst hcc
      go_wp2_with fail
      go_roundg m
      case measure => omega
      case rel => exact ⟨p + (1 + c), by go_num, by omega, by omega, HS, rfl⟩
    · have hX := txs_end hlt _ hg
      rw [HP.out] at hX
      have HE := Lib.hid hX
      have t1 : ¬ ((p : Int) < s.length) := by omega
      have e2 : ((p : Int) == (s.length : Int)) = decide (p = s.length) := by
        by_cases h : p = s.length
        · rw [decide_eq_true h, h]; simp
        · rw [decide_eq_false h]; simp; omega
      obtain ⟨z, hz⟩ : ∃ z, decide (p = s.length) = z := ⟨_, rfl⟩
      rw [hz] at HE e2
      clear HP hX hz
      have e1 : (bs s).toList.isEmpty = !decide (s ≠ []) := by rw [bs_toList]; cases s <;> simp
      obtain ⟨y, hy⟩ : ∃ y, decide (s ≠ []) = y := ⟨_, rfl⟩
      rw [hy] at HT e1
      clear hy
      cases y with
      | false =>
        have e3 : (bs s).toList.isEmpty = true := e1
        go_wp2_with fail
        go_ret
        exact ⟨by rw [HT.out, HE.out]; rfl, rfl⟩
      | true =>
        have e3 : (bs s).toList.isEmpty = false := e1
        go_wp2_with fail
        go_ret
        exact ⟨by rw [HT.out, HE.out]; rfl, rfl⟩

/-- The front's place as the walk tells it. -/
def frontI (s : List UInt8) : Int := match front s with | some n => (n : Int) | none => -1

/-- The same, from where a byte 0 stands. -/
def frv (s : List UInt8) (X : Option Nat) : Int := match X with | none => -1 | some p => if chk (s.take (p + 1)) = 0 then ((p + 1 : Nat) : Int) else -1
theorem frontI_frv (s : List UInt8) : frontI s = frv s (frt s (s.length + 1) 0) := by
  unfold frontI front frv
  rcases frt s (s.length + 1) 0 with _ | p
  · rfl
  · simp only
    by_cases h : chk (s.take (p + 1)) = 0
    · rw [if_pos h, if_pos h]
    · rw [if_neg h, if_neg h]

set_option maxHeartbeats 4000000 in
theorem rfront_any (s : List UInt8) (hs : s.length ≤ 1000000) (w : World) : Calls Try.prog 80 #[.string (bs s)] w (Tells w (.int .i64 (frontI s))) := by
  have hsz : (bs s).size = s.length := bs_size s
  obtain ⟨X, hX⟩ : ∃ X, frt s (s.length + 1) 0 = X := ⟨_, rfl⟩
  obtain ⟨Y, hY⟩ : ∃ Y, frontI s = Y := ⟨_, rfl⟩
  have HT := Lib.hid (show Y = frv s X by rw [← hY, frontI_frv, hX])
  rw [hY]
  have HX := Lib.hid hX
  have HC := Lib.hid (fun (n : List UInt8) (hn : n.length ≤ 1000000) wx => rcheck_any n hn wx)
  clear hY hX
  go_enter Try.func80, Try.ntmps80
  go_wp2_with fail
  go_loopg [3] (s.length + 1) (fun g v3 wr => ∃ p : Nat, v3 = .int .i64 p ∧ p ≤ s.length + 256 ∧ s.length + 1 ≤ g + p ∧ Hid (frt s g p = X) ∧ w = wr)
  case atStart => exact ⟨0, rfl, by omega, by omega, HX, rfl⟩
  case round =>
    obtain ⟨p, rfl, hp, hg, HP, rfl⟩ := hrel
    clear HX
    by_cases hlt : p < s.length
    · have hix := ix_run s p hlt
      have hst := HP.out
      obtain ⟨m, hm⟩ : ∃ m, gk = m + 1 := ⟨gk - 1, by omega⟩
      rw [hm, frt, dif_pos hlt] at hst
      have hc := s[p].toNat_lt
      obtain ⟨c, hcc⟩ : ∃ c, s[p].toNat = c := ⟨_, rfl⟩
      rw [hcc] at hix hst hc
      clear HP hcc
      by_cases h0 : c = 0
      · subst h0
        rw [if_pos rfl] at hst
        have HS := Lib.hid hst
        have htk := to_run s (p + 1) (by omega)
        push_cast at htk
        have HCk := Lib.hid (HC.out (s.take (p + 1)) (by rw [List.length_take]; omega) w)
        obtain ⟨k, hk⟩ : ∃ k, chk (s.take (p + 1)) = k := ⟨_, rfl⟩
        rw [hk] at HCk
        have HK := Lib.hid hk
        have ti : (p : Int) < s.length := by omega
        clear hst hk HC
        go_wp2_with fail
        refine HCk.out.mono ?_; rintro e0 w1 ⟨rfl, hb⟩
        have HB := Lib.hid hb
        clear hb
        by_cases hk0 : k = 0
        · subst hk0
          have HYv := Lib.hid (show Y = ((p + 1 : Nat) : Int) by rw [HT.out, ← HS.out]; unfold frv; simp only; rw [HK.out, if_pos rfl])
          go_wp2_with fail
          go_ret
          exact ⟨by rw [HYv.out]; push_cast; rfl, HB.out⟩
        · have HYv := Lib.hid (show Y = -1 by rw [HT.out, ← HS.out]; unfold frv; simp only; rw [HK.out, if_neg hk0])
          have tk : (k == 0) = false := by simpa using hk0
          go_wp2_with fail
          go_ret
          exact ⟨by rw [HYv.out]; rfl, HB.out⟩
      · rw [if_neg h0] at hst
        have HS := Lib.hid hst
        have tc : ((c : Int) != 0) = true := by simp; omega
        clear hst
        go_wp2_with fail
        go_roundg m
        case measure => omega
        case rel => exact ⟨p + (1 + c), by go_num, by omega, by omega, HS, rfl⟩
    · have hX := frt_end hlt gk
      rw [HP.out] at hX
      have HYv := Lib.hid (show Y = -1 by rw [HT.out, hX]; rfl)
      have t1 : ¬ ((p : Int) < s.length) := by omega
      clear HP hX HC HT
      go_wp2_with fail
      go_ret
      exact ⟨by rw [HYv.out]; rfl, Below.refl _ _⟩
end Go.Proofs.Ytaikpgcmcmkdcaa

/-
  Rows beside each other: bytes, numbers, texts; appends to them.
-/
namespace Go.Proofs.Ytaikpgcmcmkdcaa
open Go.RowKit Go.Shelf
set_option linter.unusedVariables false
set_option maxRecDepth 100000

/-- A row of numbers of the call's own. -/
def iv (l : List Nat) : List Value := l.map fun x : Nat => Value.int .i64 (x : Int)
def OwnI (w : World) (B : Nat) (v : Value) (l : List Nat) : Prop := OwnZ w B 3 (.int .i64 0) v (iv l)

theorem info_int : (Try.prog.info? 3).map (fun i => (i.zero, i.size, i.bytes)) = some (some (.int .i64 0), 1, 8) := by kernel_rfl
theorem iv_len (l : List Nat) : (iv l).length = l.length := by simp [iv]
theorem OwnI.nil (w : World) (B : Nat) : OwnI w B (.slice .none 0 0) [] := OwnZ.nil _ _ _ _
theorem OwnI.shape {w : World} {B : Nat} {v : Value} {l : List Nat} (h : OwnI w B v l) : ∃ a c, v = .slice a l.length c := by
  rcases h with ⟨rfl, h0⟩ | ⟨g, cap, rfl, _⟩
  · have : l = [] := by simpa [iv] using h0
    subst this
    exact ⟨.none, 0, rfl⟩
  · exact ⟨_, cap, by rw [iv_len]⟩
theorem OwnI.at_ {w : World} {B : Nat} {v : Value} {l : List Nat} (h : OwnI w B v l) (j : Nat) (hj : j < l.length) : ∃ g c, v = .slice (some ⟨g, 0, none⟩) l.length c ∧ w.cell? ⟨g, j, none⟩ = some (.int .i64 (l[j] : Nat)) := by
  rcases h with ⟨_, h0⟩ | ⟨g, cap, rfl, _, hl, _, hh⟩
  · have : l = [] := by simpa [iv] using h0
    subst this
    simp at hj
  · refine ⟨g, cap, by rw [iv_len], ?_⟩
    rw [World.cell?, hh]
    simp [iv, List.getElem?_append_left, hj]
theorem OwnT.at_ {w : World} {B : Nat} {v : Value} {l : List (List UInt8)} (h : OwnT w B v l) (j : Nat) (hj : j < l.length) : ∃ g c, v = .slice (some ⟨g, 0, none⟩) l.length c ∧ w.cell? ⟨g, j, none⟩ = some (.string (bs l[j])) := by
  rcases h with ⟨_, h0⟩ | ⟨g, cap, rfl, _, hl, _, hh⟩
  · have : l = [] := by simpa using h0
    subst this
    simp at hj
  · refine ⟨g, cap, by rw [List.length_map], ?_⟩
    rw [World.cell?, hh]
    simp [List.getElem?_append_left, hj, tv]
theorem OwnZ.but {w w' : World} {B : Nat} {e : TypeId} {z v : Value} {cs : List Value} {G : Nat → Prop} (h : OwnZ w B e z v cs) (ha : Aside G w w') (hG : ∀ b, v.ownBlock = some b → ¬ G b) : OwnZ w' B e z v cs := by
  have hlt := h.lt
  rcases h with h2 | ⟨g, cap, hv, hg, h1, h2, hh⟩
  · exact .inl h2
  · exact .inr ⟨g, cap, hv, hg, h1, h2, (ha.block g (by subst hv; exact (hlt g rfl).2) (hG g (by rw [hv]; rfl))).trans hh⟩

/-- Rows of different types lie in different blocks. -/
theorem apart_BZ {w : World} {B B' : Nat} {e : TypeId} {z v v' : Value} {l : List UInt8} {cs : List Value} (h : OwnB w B v l) (h' : OwnZ w B' e z v' cs) (he : e ≠ 5) (b : Nat) (h1 : v.ownBlock = some b) (h2 : v'.ownBlock = some b) : False := by
  rcases h with ⟨rfl, _⟩ | ⟨g, cap, fz, rfl, _, _, _, _, hg⟩
  · simp [Value.ownBlock] at h1
  · rcases h' with ⟨rfl, _⟩ | ⟨g', cap', rfl, _, _, _, hg'⟩
    · simp [Value.ownBlock] at h2
    · simp [Value.ownBlock] at h1 h2
      subst h1; subst h2
      rw [hg] at hg'
      injection hg' with hg'
      injection hg' with _ h3 _
      exact he h3.symm
theorem apart_ZZ {w : World} {B B' : Nat} {e e' : TypeId} {z z' v v' : Value} {cs cs' : List Value} (h : OwnZ w B e z v cs) (h' : OwnZ w B' e' z' v' cs') (he : e' ≠ e) (b : Nat) (h1 : v.ownBlock = some b) (h2 : v'.ownBlock = some b) : False := by
  rcases h with ⟨rfl, _⟩ | ⟨g, cap, rfl, _, _, _, hg⟩
  · simp [Value.ownBlock] at h1
  · rcases h' with ⟨rfl, _⟩ | ⟨g', cap', rfl, _, _, _, hg'⟩
    · simp [Value.ownBlock] at h2
    · simp [Value.ownBlock] at h1 h2
      subst h1; subst h2
      rw [hg] at hg'
      injection hg' with hg'
      injection hg' with _ h3 _
      exact he h3.symm

/-- What a row's append may turn. -/
theorem aside_grown {w w' : World} {v : Value} (h : w.grownBy w' v.ownBlock) : Aside (fun b => v.ownBlock = some b) w w' := Aside.grown h fun _ h => h

/-- append of no bytes. -/
theorem run_appB0 {w : World} (B : Nat) (v : Value) (l : List UInt8) (ad : Option Addr) (c : Nat) (hown : OwnB w B v l) :
    (Builtin.append_ #[43, 43] 43 #[v, .slice ad 0 c]).run Try.prog w = .ok v w := by
  obtain ⟨i0, hi, hz0, hz1, hz2⟩ := info_parts Try.info5
  rcases hown with ⟨rfl, rfl⟩ | ⟨g, cap, fz, rfl, hbg, hlc, hcm, hfz, hg⟩
  · cases ad <;> simp [Builtin.append_, run_underlying Try.underlying43, sizeOf, typeInfo, hi, Builtin.lenOf, Builtin.firstCells, loadCells, loadCellsFrom]
  · cases ad <;> simp [Builtin.append_, run_underlying Try.underlying43, sizeOf, typeInfo, hi, Builtin.lenOf, Builtin.firstCells, loadCells, loadCellsFrom, storeCells, hlc]

/-- append of any bytes. -/
theorem run_appBs {w : World} (B : Nat) (v xv : Value) (l l' : List UInt8) {lo hi : Nat} (hown : OwnB w B v l) (hx : Sl w lo hi xv (iz l')) (hb : l.length + l'.length ≤ 1000000) (hB : B ≤ w.heap.size) :
    ∃ a' c' w', (Builtin.append_ #[43, 43] 43 #[v, xv]).run Try.prog w = .ok (.slice a' (l.length + l'.length) c') w' ∧ OwnB w' B (.slice a' (l.length + l'.length) c') (l ++ l') ∧ Aside (fun b => v.ownBlock = some b) w w' := by
  rcases Nat.eq_zero_or_pos l'.length with h0 | h0
  · have : l' = [] := List.eq_nil_of_length_eq_zero h0
    subst this
    obtain ⟨ad, c, rfl, _⟩ := hx
    have h1 := run_appB0 B v l ad c hown
    obtain ⟨a', c', rfl⟩ := hown.shape
    exact ⟨a', c', w, h1, by rw [List.append_nil]; exact hown, Aside.refl _ _⟩
  · obtain ⟨v', w', h1, h2, h3, _⟩ := run_appB B v xv l l' hown hx h0 hb hB
    obtain ⟨a', c', hv⟩ := h2.shape
    rw [List.length_append] at hv
    subst hv
    exact ⟨a', c', w', h1, h2, aside_grown h3⟩

/-- append of a number, that lies in a block of its own. -/
theorem run_appI {w : World} (B : Nat) (v : Value) (l : List Nat) (x : Nat) (g : Nat) (hown : OwnI w B v l) (hx : w.cell? ⟨g, 0, none⟩ = some (.int .i64 (x : Int))) (hb : l.length + 1 ≤ 1000000) (hB : B ≤ w.heap.size) :
    ∃ a' c' w', (Builtin.append_ #[52, 52] 52 #[v, .slice (some ⟨g, 0, none⟩) 1 1]).run Try.prog w = .ok (.slice a' (l.length + 1) c') w' ∧ OwnI w' B (.slice a' (l.length + 1) c') (l ++ [x]) ∧ Aside (fun b => v.ownBlock = some b) w w' := by
  obtain ⟨i0, hi, hz0, hz1, hz2⟩ := info_parts info_int
  obtain ⟨v', w', h1, h2, h3⟩ := run_append_Z (P := Try.prog) (w := w) B 52 52 3 i0 (.int .i64 0) 8 Try.underlying52 hi hz0 hz1 hz2 rfl v (iv l) hown ⟨g, 0, none⟩ 1 1 [.int .i64 (x : Int)] rfl
    (fun j u hu => by
      have hj : j = 0 := by have := (List.getElem?_eq_some_iff.mp hu).1; simpa using this
      subst hj
      simp at hu
      subst hu
      simpa [Addr.add] using hx) (fun u hu => by rw [List.mem_singleton.mp hu]; rfl) (by rw [iv_len]; unfold maxLen; omega) (by rw [iv_len]; omega) hB
  have h4 : OwnI w' B v' (l ++ [x]) := by
    show OwnZ w' B 3 (.int .i64 0) v' (iv (l ++ [x]))
    rw [iv, List.map_append]
    exact h2
  obtain ⟨a', c', hv⟩ := h4.shape
  rw [List.length_append] at hv
  subst hv
  exact ⟨a', c', w', h1, h4, aside_grown h3⟩

/-- Up to a place. -/
theorem sl_to {w : World} {lo hi c m : Nat} {a : Option Addr} {b : List UInt8} (h : Sl w lo hi (.slice a b.length c) (iz b)) (hm : m ≤ b.length) :
    ∃ sv, (∀ wx, (Instr.slice 43 (.slice a b.length c) none (some (.int .i64 m)) none).run Try.prog wx = .ok sv wx) ∧ Sl w lo hi sv (iz (b.take m)) := by
  obtain ⟨a', c', he, hc, hn, hq⟩ := h
  rw [iz_len] at he hc hq
  injection he with e1 e2 e3
  subst e1; subst e3
  have hlen : (b.take m).length = m := by rw [List.length_take]; omega
  refine ⟨sliced a 0 m c 1, fun wx => ?_, ?_⟩
  · rw [run_slice_h (P := Try.prog) wx 43 a b.length c Try.underlying43 .i64 m (by omega) (by omega), size5]
    simp only [Result.andThen, Int.toNat_natCast]
  · refine ⟨if c = 0 then a else a.map (·.add (0 * 1)), c - 0, ?_, ?_, ?_, ?_⟩
    · unfold sliced; rw [iz_len, hlen]; simp
    · rw [iz_len, hlen]; omega
    · intro hnone
      have : a = none := by
        split at hnone
        · exact hnone
        · simpa using hnone
      have := hn this
      omega
    · intro h0
      rw [iz_len, hlen] at h0
      obtain ⟨g, off, rfl, h1, h2, hx⟩ := hq (by omega)
      rw [if_neg (by omega)]
      refine ⟨g, off, by simp [Addr.add], h1, h2, fun j hj => ?_⟩
      rw [iz_len, hlen] at hj
      rw [hx j (by omega)]
      congr 2
      rw [iz_get _ _ (by omega), iz_get _ _ (by omega), List.getElem_take]
end Go.Proofs.Ytaikpgcmcmkdcaa

/-
  The document's own cutting: the forms, and the parts.
-/
namespace Go.Proofs.Ytaikpgcmcmkdcaa
open Go.RowKit Go.Shelf
set_option linter.unusedVariables false
set_option linter.unusedSimpArgs false
set_option maxRecDepth 100000

/-- A part as the document's own text has it: a number. -/
def codeK : PK → Int
  | .fix n => n
  | .nam => -1
  | .txt => -2
  | .rst => -3

def FormPost (w : World) (ks : List PK) (e : Ending) (w' : World) : Prop := e = .returned (.slice (some ⟨w.heap.size, 0, none⟩) ks.length ks.length) ∧ w' = w.alloc (.cells (ks.map fun k => Value.int .i64 (codeK k)).toArray 3)

set_option maxHeartbeats 4000000 in
theorem form_any (t : Int) (w : World) : Calls Try.prog 59 #[.int .i64 t] w (FormPost w (kinds t)) := by
  by_cases h1 : t = 1
  · subst h1
    go_enter Try.func59, Try.ntmps59
    go_wp2
    go_ret
    exact ⟨rfl, rfl⟩
  by_cases h28 : t = 28
  · subst h28
    go_enter Try.func59, Try.ntmps59
    go_wp2
    go_ret
    exact ⟨rfl, rfl⟩
  by_cases h2 : t = 2
  · subst h2
    go_enter Try.func59, Try.ntmps59
    go_wp2
    go_ret
    exact ⟨rfl, rfl⟩
  by_cases h5 : t = 5
  · subst h5
    go_enter Try.func59, Try.ntmps59
    go_wp2
    go_ret
    exact ⟨rfl, rfl⟩
  by_cases h12 : t = 12
  · subst h12
    go_enter Try.func59, Try.ntmps59
    go_wp2
    go_ret
    exact ⟨rfl, rfl⟩
  by_cases h15 : t = 15
  · subst h15
    go_enter Try.func59, Try.ntmps59
    go_wp2
    go_ret
    exact ⟨rfl, rfl⟩
  by_cases h6 : t = 6
  · subst h6
    go_enter Try.func59, Try.ntmps59
    go_wp2
    go_ret
    exact ⟨rfl, rfl⟩
  by_cases h16 : t = 16
  · subst h16
    go_enter Try.func59, Try.ntmps59
    go_wp2
    go_ret
    exact ⟨rfl, rfl⟩
  have hk : kinds t = [.rst] := by unfold kinds; rw [if_neg h1, if_neg h28, if_neg (by omega), if_neg h15, if_neg h6, if_neg h16]
  rw [hk]
  have e1 : (t == 1) = false := by simpa using h1
  have e28 : (t == 28) = false := by simpa using h28
  have e2 : (t == 2) = false := by simpa using h2
  have e5 : (t == 5) = false := by simpa using h5
  have e12 : (t == 12) = false := by simpa using h12
  have e15 : (t == 15) = false := by simpa using h15
  have e6 : (t == 6) = false := by simpa using h6
  have e16 : (t == 16) = false := by simpa using h16
  clear hk
  go_enter Try.func59, Try.ntmps59
  go_wp2
  go_ret
  exact ⟨rfl, rfl⟩
end Go.Proofs.Ytaikpgcmcmkdcaa

/-
  The document's own cutting: the walk of its parts.
-/
namespace Go.Proofs.Ytaikpgcmcmkdcaa
open Go.RowKit Go.Shelf
set_option linter.unusedVariables false
set_option linter.unusedSimpArgs false
set_option maxRecDepth 100000

/-- The pieces' bytes behind those that are there, and what is left. -/
def ctsA (ks : List PK) (s : List UInt8) (acc : List (List UInt8)) : Option (List (List UInt8) × List UInt8) := (cuts ks s).map fun r => (acc ++ r.1.map (·.1), r.2)

theorem ctsA_nil (s : List UInt8) (acc : List (List UInt8)) : ctsA [] s acc = some (acc, s) := by simp [ctsA, cuts]
theorem ctsA_none {k : PK} {ks : List PK} {s : List UInt8} {acc : List (List UInt8)} (h : lenP s k = none) : ctsA (k :: ks) s acc = none := by unfold ctsA; rw [cuts, h]; rfl
theorem ctsA_some {k : PK} {ks : List PK} {s : List UInt8} {acc : List (List UInt8)} {n : Nat} (h : lenP s k = some n) : ctsA (k :: ks) s acc = ctsA ks (s.drop n) (acc ++ [s.take n]) := by
  unfold ctsA
  rw [cuts, h]
  simp only
  rcases cuts ks (s.drop n) with _ | r
  · rfl
  · simp [List.append_assoc]

def PartsP (w : World) (X : Option (List (List UInt8) × List UInt8)) (e : Ending) (w' : World) : Prop :=
  ∃ v, (match X with | none => e = .returned (.tuple #[.slice none 0 0, .bool false]) | some r => e = .returned (.tuple #[v, .bool (decide (r.2 = []))]) ∧ OwnT w' w.heap.size v r.1) ∧ Below w.heap.size w w'

set_option maxHeartbeats 8000000 in
theorem rparts_any (t : Int) (s : List UInt8) (hs : s.length ≤ 1000000) (w : World) : Calls Try.prog 55 #[.int .i64 t, .string (bs s)] w (PartsP w (ctsA (kinds t) s [])) := by
  have HFm := Lib.hid (fun wx => form_any t wx)
  have hks := kinds_small t
  obtain ⟨ks, hk⟩ : ∃ ks, kinds t = ks := ⟨_, rfl⟩
  rw [hk] at HFm hks ⊢
  have HSM := Lib.hid hks.2
  have hks3 := hks.1
  obtain ⟨X, hX⟩ : ∃ X, ctsA ks s [] = X := ⟨_, rfl⟩
  rw [hX]
  have HX := Lib.hid hX
  have HFr := Lib.hid (fun (n : List UInt8) (hn : n.length ≤ 1000000) wx => rfront_any n hn wx)
  have HTx := Lib.hid (fun (n : List UInt8) (hn : n.length ≤ 1000000) wx => rtexts_any n hn wx)
  clear hk hks hX
  go_enter Try.func55, Try.ntmps55
  go_wp2_with fail
  refine (HFm.out _).mono ?_; rintro e0 w1 ⟨rfl, hw1⟩
  have hb1 : Below w.heap.size w w1 := by rw [hw1]; exact (Below.refl _ _).alloc (Nat.le_refl _) _
  have HF := Lib.hid (fun (wx : World) (hb : Below w1.heap.size w1 wx) j (hj : j < ks.length) => show wx.cell? ⟨w.heap.size, j, none⟩ = some (.int .i64 (codeK ks[j])) from by
    refine cell_later hb ?_
    rw [hw1]
    rw [World.cell?]
    rw [show (w.alloc (.cells (ks.map fun k => Value.int .i64 (codeK k)).toArray 3)).heap[w.heap.size]? = some (.cells (ks.map fun k => Value.int .i64 (codeK k)).toArray 3) from heap_alloc_new w _]
    simp [hj])
  have HB1 := Lib.hid hb1
  clear hw1 hb1
  go_wp2_with fail
  go_loopg [1, 7, 8] ks.length (fun g v1 v7 v8 wr => ∃ (k : Nat) (s' : List UInt8) (acc : List (List UInt8)) (va : Option Addr) (ca : Nat), k + g = ks.length ∧ v1 = .string (bs s') ∧ v7 = .slice va k ca ∧ v8 = .int .i64 k ∧ Hid (acc.length = k) ∧ s'.length ≤ 1000000 ∧ Hid (OwnT wr w1.heap.size (.slice va k ca) acc) ∧ Hid (Below w1.heap.size w1 wr) ∧ Hid (ctsA (ks.drop k) s' acc = X))
  case atStart => exact ⟨0, s, [], none, 0, by omega, rfl, rfl, rfl, rfl, hs, OwnT.nil _ _, Below.refl _ _, HX⟩
  case round =>
    obtain ⟨k, s', acc, va, ca, hk, rfl, rfl, rfl, hak, hsl, HO2, HB2, HXk⟩ := hrel
    clear HX
    by_cases hlt : k < ks.length
    · have hst := HXk.out
      rw [List.drop_eq_getElem_cons hlt] at hst
      have hcell := HF.out _ HB2.out k hlt
      have hsm := HSM.out ks[k] (List.getElem_mem hlt)
      obtain ⟨K, hK⟩ : ∃ K, ks[k] = K := ⟨_, rfl⟩
      rw [hK] at hst hcell hsm
      have hsz : (bs s').size = s'.length := bs_size s'
      have hak3 : acc.length + 1 ≤ 1000000 := by rw [hak.out]; omega
      clear hK HXk
      cases K with
      | fix m =>
        have hm := hsm m rfl
        have hcell2 : wr.cell? ⟨w.heap.size, k, none⟩ = some (.int .i64 (m : Int)) := hcell
        have u1 : ((m : Int) == -1) = false := by first | (simp; done) | (simp; omega)
        have u2 : ((m : Int) == -2) = false := by first | (simp; done) | (simp; omega)
        have u3 : ((m : Int) == -3) = false := by first | (simp; done) | (simp; omega)
        clear hcell hsm
        by_cases hn : m ≤ s'.length
        · rw [ctsA_some (show lenP s' (.fix m) = some m from if_pos hn)] at hst
          have hst2 := Lib.hid hst
          have htk := to_run s' m hn
          have hfr := from_run s' m hn
          
          have hn2 : m ≤ 1000000 := by omega
          
          have hal : Below wr.heap.size wr (wr.alloc (.cells #[.string (bs (s'.take m))] 9)) := (Below.refl _ _).alloc (Nat.le_refl _) _
          obtain ⟨a7, c7, w7, hr7, ho7, hg7⟩ := run_appT w1.heap.size (.slice va k ca) acc (s'.take m) wr.heap.size (HO2.out.below hal) (by simp [go_sem, tv]) hak3 (Nat.le_trans HB2.out.size hal.size)
          rw [hak.out] at hr7 ho7
          have ha7 := aside_grown hg7
          have hlt7 := OwnZ.lt HO2.out
          have HR7 := Lib.hid hr7
          have HO7 := Lib.hid ho7
          have HB7 := Lib.hid (below_aside (bel_call HB2.out hal) ha7 fun x hx => ⟨Nat.lt_of_lt_of_le hx (bel_call HB2.out hal).size, fun hg => by have := (hlt7 x hg).1; omega⟩)
          have hdl : (s'.drop m).length ≤ 1000000 := by rw [List.length_drop]; omega
          have hal2 := Lib.hid (show (acc ++ [s'.take m]).length = k + 1 by rw [List.length_append, hak.out]; rfl)
          clear hal hr7 ho7 hg7 ha7 hlt7 hst
          go_wp2_with (at_builtin; refine wpList_append_run (.tmp 48) (.tmp 52) 91 91 rfl rfl rfl rfl HR7.out ?_)
          go_roundg (ks.length - (k + 1))
          case measure => omega
          case rel => exact ⟨k + 1, s'.drop m, acc ++ [s'.take m], a7, c7, by omega, rfl, rfl, by go_num, hal2, hdl, HO7, HB7, hst2⟩
        · have hE : X = none := by rw [← hst]; exact ctsA_none (if_neg hn)
          have HE := Lib.hid hE
          clear hst hE
          go_wp2_with fail
          go_ret2
          exact ⟨.slice none 0 0, by rw [HE.out]; rfl, bel_call HB1.out HB2.out⟩
      | rst =>
        have hcell2 : wr.cell? ⟨w.heap.size, k, none⟩ = some (.int .i64 (-3)) := hcell
        have hn : s'.length ≤ s'.length := Nat.le_refl _
        clear hcell hsm
        rw [ctsA_some (show lenP s' .rst = some s'.length from rfl)] at hst
        obtain ⟨z, hz⟩ : ∃ z, s'.length = z := ⟨_, rfl⟩
        have HZ := Lib.hid hz
        have hn : z ≤ s'.length := by omega
        have HSL := Lib.hid hsl
        rw [hz] at hst hsz hsl
        clear hz
        have hst2 := Lib.hid hst
        have htk := to_run s' z hn
        have hfr := from_run s' z hn
        
        have hn2 : z ≤ 1000000 := by omega
        
        have hal : Below wr.heap.size wr (wr.alloc (.cells #[.string (bs (s'.take z))] 9)) := (Below.refl _ _).alloc (Nat.le_refl _) _
        obtain ⟨a7, c7, w7, hr7, ho7, hg7⟩ := run_appT w1.heap.size (.slice va k ca) acc (s'.take z) wr.heap.size (HO2.out.below hal) (by simp [go_sem, tv]) hak3 (Nat.le_trans HB2.out.size hal.size)
        rw [hak.out] at hr7 ho7
        have ha7 := aside_grown hg7
        have hlt7 := OwnZ.lt HO2.out
        have HR7 := Lib.hid hr7
        have HO7 := Lib.hid ho7
        have HB7 := Lib.hid (below_aside (bel_call HB2.out hal) ha7 fun x hx => ⟨Nat.lt_of_lt_of_le hx (bel_call HB2.out hal).size, fun hg => by have := (hlt7 x hg).1; omega⟩)
        have hdl : (s'.drop z).length ≤ 1000000 := by have := HSL.out; rw [List.length_drop]; omega
        have hal2 := Lib.hid (show (acc ++ [s'.take z]).length = k + 1 by rw [List.length_append, hak.out]; rfl)
        clear hal hr7 ho7 hg7 ha7 hlt7 hst
        go_wp2_with (at_builtin; refine wpList_append_run (.tmp 48) (.tmp 52) 91 91 rfl rfl rfl rfl HR7.out ?_)
        go_roundg (ks.length - (k + 1))
        case measure => omega
        case rel => exact ⟨k + 1, s'.drop z, acc ++ [s'.take z], a7, c7, by omega, rfl, rfl, by go_num, hal2, hdl, HO7, HB7, hst2⟩
      | txt =>
        have hcell2 : wr.cell? ⟨w.heap.size, k, none⟩ = some (.int .i64 (-2)) := hcell
        have hn : s'.length ≤ s'.length := Nat.le_refl _
        have HT := Lib.hid (HTx.out s' hsl wr)
        clear hcell hsm
        by_cases hx : texts s' = true
        · rw [ctsA_some (show lenP s' .txt = some s'.length from if_pos hx)] at hst
          rw [hx] at HT
          clear hx
          go_wp2_with fail
          refine HT.out.mono ?_; rintro e0 w2 ⟨rfl, rfl⟩
          obtain ⟨z, hz⟩ : ∃ z, s'.length = z := ⟨_, rfl⟩
          have HZ := Lib.hid hz
          have hn : z ≤ s'.length := by omega
          have HSL := Lib.hid hsl
          rw [hz] at hst hsz hsl
          clear hz
          have hst2 := Lib.hid hst
          have htk := to_run s' z hn
          have hfr := from_run s' z hn
          
          have hn2 : z ≤ 1000000 := by omega
          
          have hal : Below wr.heap.size wr (wr.alloc (.cells #[.string (bs (s'.take z))] 9)) := (Below.refl _ _).alloc (Nat.le_refl _) _
          obtain ⟨a7, c7, w7, hr7, ho7, hg7⟩ := run_appT w1.heap.size (.slice va k ca) acc (s'.take z) wr.heap.size (HO2.out.below hal) (by simp [go_sem, tv]) hak3 (Nat.le_trans HB2.out.size hal.size)
          rw [hak.out] at hr7 ho7
          have ha7 := aside_grown hg7
          have hlt7 := OwnZ.lt HO2.out
          have HR7 := Lib.hid hr7
          have HO7 := Lib.hid ho7
          have HB7 := Lib.hid (below_aside (bel_call HB2.out hal) ha7 fun x hx => ⟨Nat.lt_of_lt_of_le hx (bel_call HB2.out hal).size, fun hg => by have := (hlt7 x hg).1; omega⟩)
          have hdl : (s'.drop z).length ≤ 1000000 := by have := HSL.out; rw [List.length_drop]; omega
          have hal2 := Lib.hid (show (acc ++ [s'.take z]).length = k + 1 by rw [List.length_append, hak.out]; rfl)
          clear hal hr7 ho7 hg7 ha7 hlt7 hst
          go_wp2_with (at_builtin; refine wpList_append_run (.tmp 48) (.tmp 52) 91 91 rfl rfl rfl rfl HR7.out ?_)
          go_roundg (ks.length - (k + 1))
          case measure => omega
          case rel => exact ⟨k + 1, s'.drop z, acc ++ [s'.take z], a7, c7, by omega, rfl, rfl, by go_num, hal2, hdl, HO7, HB7, hst2⟩
        · have hE : X = none := by rw [← hst]; exact ctsA_none (if_neg hx)
          have HE := Lib.hid hE
          rw [Bool.not_eq_true] at hx
          rw [hx] at HT
          clear hst hE hx
          go_wp2_with fail
          refine HT.out.mono ?_; rintro e0 w2 ⟨rfl, rfl⟩
          go_wp2_with fail
          go_ret2
          exact ⟨.slice none 0 0, by rw [HE.out]; rfl, bel_call HB1.out HB2.out⟩
      | nam =>
        have hcell2 : wr.cell? ⟨w.heap.size, k, none⟩ = some (.int .i64 (-1)) := hcell
        have HT := Lib.hid (HFr.out s' hsl wr)
        clear hcell hsm
        rcases hf : front s' with _ | m
        · have hE : X = none := by rw [← hst]; exact ctsA_none hf
          have HE := Lib.hid hE
          have hfi : frontI s' = -1 := by unfold frontI; rw [hf]
          rw [hfi] at HT
          clear hst hE hf hfi
          go_wp2_with fail
          refine HT.out.mono ?_; rintro e0 w2 ⟨rfl, hb⟩
          replace HB2 := Lib.hid (bel_call HB2.out hb)
          clear hb
          go_wp2_with fail
          go_ret2
          exact ⟨.slice none 0 0, by rw [HE.out]; rfl, bel_call HB1.out HB2.out⟩
        · obtain ⟨ls, q1, q2, q3, hn⟩ := front_some hf
          clear q1 q2 q3
          have hfi : frontI s' = (m : Int) := by unfold frontI; rw [hf]
          rw [hfi] at HT
          rw [ctsA_some (show lenP s' .nam = some m from hf)] at hst
          have u1 : ((m : Int) == -1) = false := by first | (simp; done) | (simp; omega)
          have u2 : ((m : Int) == -2) = false := by first | (simp; done) | (simp; omega)
          have u3 : ((m : Int) == -3) = false := by first | (simp; done) | (simp; omega)
          clear hf hfi
          go_wp2_with fail
          refine HT.out.mono ?_; rintro e0 w2 ⟨rfl, hb⟩
          replace HB2 := Lib.hid (bel_call HB2.out hb)
          replace HO2 := Lib.hid (HO2.out.below hb)
          clear hb
          have hst2 := Lib.hid hst
          have htk := to_run s' m hn
          have hfr := from_run s' m hn
          
          have hn2 : m ≤ 1000000 := by omega
          
          have hal : Below w2.heap.size w2 (w2.alloc (.cells #[.string (bs (s'.take m))] 9)) := (Below.refl _ _).alloc (Nat.le_refl _) _
          obtain ⟨a7, c7, w7, hr7, ho7, hg7⟩ := run_appT w1.heap.size (.slice va k ca) acc (s'.take m) w2.heap.size (HO2.out.below hal) (by simp [go_sem, tv]) hak3 (Nat.le_trans HB2.out.size hal.size)
          rw [hak.out] at hr7 ho7
          have ha7 := aside_grown hg7
          have hlt7 := OwnZ.lt HO2.out
          have HR7 := Lib.hid hr7
          have HO7 := Lib.hid ho7
          have HB7 := Lib.hid (below_aside (bel_call HB2.out hal) ha7 fun x hx => ⟨Nat.lt_of_lt_of_le hx (bel_call HB2.out hal).size, fun hg => by have := (hlt7 x hg).1; omega⟩)
          have hdl : (s'.drop m).length ≤ 1000000 := by rw [List.length_drop]; omega
          have hal2 := Lib.hid (show (acc ++ [s'.take m]).length = k + 1 by rw [List.length_append, hak.out]; rfl)
          clear hal hr7 ho7 hg7 ha7 hlt7 hst
          go_wp2_with (at_builtin; refine wpList_append_run (.tmp 48) (.tmp 52) 91 91 rfl rfl rfl rfl HR7.out ?_)
          go_roundg (ks.length - (k + 1))
          case measure => omega
          case rel => exact ⟨k + 1, s'.drop m, acc ++ [s'.take m], a7, c7, by omega, rfl, rfl, by go_num, hal2, hdl, HO7, HB7, hst2⟩
    · have hke : k = ks.length := by omega
      have hst := HXk.out
      rw [hke, List.drop_length, ctsA_nil] at hst
      have HE := Lib.hid hst
      have t1 : ¬ ((k : Int) < ks.length) := by omega
      have e2 : (bs s').toList.isEmpty = decide (s' = []) := by rw [bs_toList]; cases s' <;> simp
      obtain ⟨z, hz⟩ : ∃ z, decide (s' = []) = z := ⟨_, rfl⟩
      rw [hz] at e2
      have HZ := Lib.hid hz
      clear hst HXk hz
      go_wp2_with fail
      go_ret2
      refine ⟨.slice va k ca, ?_, bel_call HB1.out HB2.out⟩
      rw [← HE.out]
      exact ⟨by rw [HZ.out, hke]; rfl, OwnT.mono HO2.out HB1.out.size⟩
end Go.Proofs.Ytaikpgcmcmkdcaa

/-
  The document's own cutting: whether data are those of a type.
-/
namespace Go.Proofs.Ytaikpgcmcmkdcaa
open Go.RowKit Go.Shelf
set_option linter.unusedVariables false
set_option linter.unusedSimpArgs false
set_option maxRecDepth 100000

theorem rparts_no {t : Int} {s : List UInt8} (hs : s.length ≤ 1000000) (hc : cuts (kinds t) s = none) (w : World) : Calls Try.prog 55 #[.int .i64 t, .string (bs s)] w (Tells w (.tuple #[.slice none 0 0, .bool false])) := by
  refine (rparts_any t s hs w).mono ?_
  rintro e w' ⟨v, h1, h2⟩
  rw [show ctsA (kinds t) s [] = none by unfold ctsA; rw [hc]; rfl] at h1
  exact ⟨h1, h2⟩
theorem rparts_yes {t : Int} {s r : List UInt8} {L : List Pc} (hs : s.length ≤ 1000000) (hc : cuts (kinds t) s = some (L, r)) (w : World) : Calls Try.prog 55 #[.int .i64 t, .string (bs s)] w fun e w' => ∃ v, e = .returned (.tuple #[v, .bool (decide (r = []))]) ∧ OwnT w' w.heap.size v (L.map (·.1)) ∧ Below w.heap.size w w' := by
  refine (rparts_any t s hs w).mono ?_
  rintro e w' ⟨v, h1, h2⟩
  rw [show ctsA (kinds t) s [] = some (L.map (·.1), r) by unfold ctsA; rw [hc]; rfl] at h1
  exact ⟨v, h1.1, h1.2, h2⟩

set_option maxHeartbeats 4000000 in
theorem rcheckR_any (t : Int) (d : List UInt8) (hd : d.length ≤ 1000000) (w : World) : Calls Try.prog 31 #[.int .i64 t, .string (bs d)] w (Tells w (.int .i64 (spl t d).code)) := by
  have hsz : (bs d).size = d.length := bs_size d
  rw [spl_cuts]
  by_cases ht : t < 0
  · rw [if_pos (.inl ht)]
    show Calls _ _ _ _ (Tells w (.int .i64 5))
    have t1 : decide (t < 0) = true := by simpa using ht
    go_enter Try.func31, Try.ntmps31
    go_wp2_with fail
    go_ret
    exact ⟨rfl, Below.refl _ _⟩
  · have t1 : decide (t < 0) = false := by simpa using ht
    by_cases ht2 : 65535 < t
    · rw [if_pos (.inr ht2)]
      show Calls _ _ _ _ (Tells w (.int .i64 5))
      go_enter Try.func31, Try.ntmps31
      go_wp2_with fail
      go_ret
      exact ⟨rfl, Below.refl _ _⟩
    · rw [if_neg (by omega)]
      by_cases hl : 65535 < d.length
      · rw [if_pos hl]
        show Calls _ _ _ _ (Tells w (.int .i64 3))
        go_enter Try.func31, Try.ntmps31
        go_wp2_with fail
        go_ret
        exact ⟨rfl, Below.refl _ _⟩
      · rw [if_neg hl]
        rcases hc : cuts (kinds t) d with _ | ⟨L, r⟩
        · show Calls _ _ _ _ (Tells w (.int .i64 4))
          have HP := Lib.hid (fun wx => rparts_no hd hc wx)
          clear hc
          go_enter Try.func31, Try.ntmps31
          go_wp2_with fail
          refine (HP.out _).mono ?_; rintro e w1 ⟨rfl, hb⟩
          have HB := Lib.hid hb
          clear hb
          go_wp2_with fail
          go_ret
          exact ⟨rfl, HB.out⟩
        · have HP := Lib.hid (fun wx => rparts_yes hd hc wx)
          simp only
          by_cases hr : r = []
          · rw [if_pos hr]
            show Calls _ _ _ _ (Tells w (.int .i64 0))
            rw [decide_eq_true hr] at HP
            clear hc hr
            go_enter Try.func31, Try.ntmps31
            go_wp2_with fail
            refine (HP.out _).mono ?_; rintro e w1 ⟨v, rfl, _, hb⟩
            have HB := Lib.hid hb
            clear hb
            go_wp2_with fail
            go_ret
            exact ⟨rfl, HB.out⟩
          · rw [if_neg hr]
            show Calls _ _ _ _ (Tells w (.int .i64 4))
            rw [decide_eq_false hr] at HP
            clear hc hr
            go_enter Try.func31, Try.ntmps31
            go_wp2_with fail
            refine (HP.out _).mono ?_; rintro e w1 ⟨v, rfl, _, hb⟩
            have HB := Lib.hid hb
            clear hb
            go_wp2_with fail
            go_ret
            exact ⟨rfl, HB.out⟩

end Go.Proofs.Ytaikpgcmcmkdcaa

/-
  The document's own cutting: lower form.
-/
namespace Go.Proofs.Ytaikpgcmcmkdcaa
open Go.RowKit Go.Shelf
set_option linter.unusedVariables false
set_option linter.unusedSimpArgs false
set_option maxRecDepth 100000

theorem fits_code {ks : List PK} {L : List Pc} (h : Fits ks L) : ∀ j (h1 : j < ks.length) (h2 : j < L.length), (codeK ks[j] == -1) = L[j].2 := by
  induction h with
  | nil => intro j h1; simp at h1
  | @fix n x ks L h h2 ih =>
    intro j h1 h3
    cases j with
    | zero => show ((n : Int) == -1) = false; first | (simp; done) | (simp; omega)
    | succ j => exact ih j (by simpa using h1) (by simpa using h3)
  | nam h h2 ih =>
    intro j h1 h3
    cases j with
    | zero => rfl
    | succ j => exact ih j (by simpa using h1) (by simpa using h3)
  | txt h =>
    intro j h1 h3
    obtain rfl : j = 0 := by simpa using h1
    rfl
  | rst =>
    intro j h1 h3
    obtain rfl : j = 0 := by simpa using h1
    rfl

theorem low_joined : ∀ (M : List Pc), (joined (lowP M)).length = (joined M).length
  | [] => rfl
  | x :: M => by
    have h := low_joined M
    unfold lowP at h ⊢
    rw [List.map_cons, joined_cons, joined_cons, List.length_append, List.length_append, h]
    congr 1
    unfold lowX
    split
    · exact low_len _
    · rfl

theorem low_take {L : List Pc} {k : Nat} (h : k < L.length) : joined (lowP (L.take (k + 1))) = joined (lowP (L.take k)) ++ (lowX L[k]).1 := by
  rw [List.take_add_one, List.getElem?_eq_getElem h, Option.toList_some]
  unfold lowP
  rw [List.map_append, joined_app]
  simp [joined]

set_option maxHeartbeats 8000000 in
theorem rlowerR_any (t : Int) (d : List UInt8) (hd : d.length ≤ 1000000) (w : World) : Calls Try.prog 34 #[.int .i64 t, .string (bs d)] w (Tells w (.string (bs (lowD t d)))) := by
  have HFm := Lib.hid (fun wx => form_any t wx)
  have HC := Lib.hid (fun wx => rcheckR_any t d hd wx)
  have HB0 := Lib.hid (Below.refl w.heap.size w)
  rcases hs : spl t d with L | ⟨c, a⟩
  · obtain ⟨_, _, _, hf, hj⟩ := spl_ok hs
    have hcut := fits_cuts hf
    rw [hj] at hcut
    have HP := Lib.hid (fun wx => rparts_yes hd hcut wx)
    rw [decide_eq_true rfl] at HP
    rw [hs] at HC
    have e : lowD t d = joined (lowP L) := by unfold lowD; rw [hs]
    rw [e]
    have HCD := Lib.hid (fits_code hf)
    have hll := fits_len hf
    have hl3 := (kinds_small t).1
    obtain ⟨ks, hks⟩ : ∃ ks, kinds t = ks := ⟨_, rfl⟩
    rw [hks] at HFm HCD hll hl3
    have HLx := Lib.hid (fun k (h : k < L.length) => show L[k].1.length ≤ 1000000 from by
      have h1 := joined_take h
      have h2 := joined_part L (k + 1)
      rw [h1, List.length_append, hj] at h2
      omega)
    have HJ := Lib.hid (fun k => show (joined (lowP (L.take k))).length ≤ 1000000 from by
      rw [low_joined]
      have h2 := joined_part L k
      rw [hj] at h2
      omega)
    have HC' : Hid (∀ wx, Calls Try.prog 31 #[.int .i64 t, .string (bs d)] wx (Tells wx (.int .i64 0))) := fun wx => HC.out wx
    have HKn := Lib.hid hll
    obtain ⟨n, hn⟩ : ∃ n, ks.length = n := ⟨_, rfl⟩
    rw [hn] at hll hl3
    have HNN := Lib.hid hn
    clear hs hf hj hcut hks e HC hn
    go_enter Try.func34, Try.ntmps34
    go_wp2_with fail
    refine (HFm.out _).mono ?_; rintro e0 w1 ⟨rfl, hw1⟩
    have hb1 : Below w.heap.size w w1 := by rw [hw1]; exact (Below.refl _ _).alloc (Nat.le_refl _) _
    have HF := Lib.hid (fun (wx : World) (hb : Below w1.heap.size w1 wx) j (hj : j < ks.length) => show wx.cell? ⟨w.heap.size, j, none⟩ = some (.int .i64 (codeK ks[j])) from by
      refine cell_later hb ?_
      rw [hw1]
      rw [World.cell?]
      rw [show (w.alloc (.cells (ks.map fun k => Value.int .i64 (codeK k)).toArray 3)).heap[w.heap.size]? = some (.cells (ks.map fun k => Value.int .i64 (codeK k)).toArray 3) from heap_alloc_new w _]
      simp [hj])
    have HB1 := Lib.hid hb1
    clear hw1 hb1
    go_wp2_with fail
    refine (HP.out _).mono ?_; rintro e0 w2 ⟨v, rfl, ho, hb2⟩
    have HO2 := Lib.hid ho
    obtain ⟨va, ca, rfl⟩ := OwnT.shape ho
    rw [List.length_map, hll] at HO2 ⊢
    have HB2 := Lib.hid hb2
    clear ho hb2
    go_wp2_with fail
    refine (HC'.out _).mono ?_; rintro e0 w3 ⟨rfl, hb3⟩
    have HB3 := Lib.hid (bel_call HB2.out hb3)
    have HO3 := Lib.hid (OwnT.below HO2.out hb3)
    clear hb3 HO2 HB2
    go_wp2_with fail
    go_loopg [8, 9] n (fun g v8 v9 wr => ∃ k : Nat, k + g = n ∧ v9 = .int .i64 k ∧ v8 = .string (bs (joined (lowP (L.take k)))) ∧ Hid (Below w1.heap.size w1 wr) ∧ Hid (Below w3.heap.size w3 wr))
    case atStart => exact ⟨0, by omega, rfl, rfl, HB3, Below.refl _ _⟩
    case round =>
      obtain ⟨k, hk, rfl, rfl, HBr, HBs⟩ := hrel
      by_cases hlt : k < n
      · have hlk : k < L.length := by omega
        have hkk : k < ks.length := by have := HNN.out; omega
        have hcode := HF.out _ HBr.out k hkk
        obtain ⟨g9, d9, e9, hc9⟩ := OwnT.at_ (OwnT.below HO3.out HBs.out) k (by rw [List.length_map]; exact hlk)
        injection e9 with e9 e92 e93
        subst e9
        clear e92 e93
        rw [List.getElem_map] at hc9
        have hcd := HCD.out k hkk hlk
        have hlx := HLx.out k hlk
        have hst := low_take hlk
        unfold lowX at hst
        obtain ⟨q, hq⟩ : ∃ q, codeK ks[k] = q := ⟨_, rfl⟩
        obtain ⟨x, hx⟩ : ∃ x, L[k].1 = x := ⟨_, rfl⟩
        obtain ⟨f, hf⟩ : ∃ f, L[k].2 = f := ⟨_, rfl⟩
        rw [hq] at hcode hcd
        rw [hx] at hc9 hlx hst
        rw [hf] at hcd hst
        cases f with
        | true =>
          rw [if_pos rfl] at hst
          have HST := Lib.hid hst
          have HLo := Lib.hid (rlower_any x hlx wr)
          have hadd := fun wx => add_txt (joined (lowP (L.take k))) (low x) (HJ.out k) (by rw [low_len]; omega) wx
          clear hst hq hx hf
          go_wp2_with fail
          refine HLo.out.mono ?_; rintro e0 w4 ⟨rfl, hb4⟩
          have HBr4 := Lib.hid (bel_call HBr.out hb4)
          have HBs4 := Lib.hid (bel_call HBs.out hb4)
          clear hb4 hc9 hcode
          go_wp2_with fail
          go_roundg (n - (k + 1))
          case measure => omega
          case rel => exact ⟨k + 1, by omega, by go_num, by rw [HST.out], HBr4, HBs4⟩
        | false =>
          rw [if_neg (by simp)] at hst
          rw [hx] at hst
          have hadd := fun wx => add_txt (joined (lowP (L.take k))) x (HJ.out k) hlx wx
          have HST := Lib.hid hst
          clear hst hq hx hf
          go_wp2_with fail
          go_roundg (n - (k + 1))
          case measure => omega
          case rel => exact ⟨k + 1, by omega, by go_num, by rw [HST.out], HBr, HBs⟩
      · have hke : k = n := by omega
        have HE := Lib.hid (show L.take k = L by rw [List.take_of_length_le (by omega)])
        have t1 : ¬ ((k : Int) < n) := by omega
        go_wp2_with fail
        go_ret
        have HE2 := HE.out
        rw [hke] at HE2
        exact ⟨by rw [← hke] at HE2; simp only [hke] at HE2 ⊢; rw [HE2]; rfl, bel_call HB1.out HBr.out⟩
  · have e : lowD t d = d := by unfold lowD; rw [hs]
    rw [e]
    have hcb := code_bad hs
    rw [hs] at HC
    have HC' : Hid (∀ wx, Calls Try.prog 31 #[.int .i64 t, .string (bs d)] wx (Tells wx (.int .i64 c))) := fun wx => HC.out wx
    have tc : (c != 0) = true := by simpa using hcb
    have HP : Hid (∀ wx, Calls Try.prog 55 #[.int .i64 t, .string (bs d)] wx fun e w' => ∃ v b, e = .returned (.tuple #[v, .bool b]) ∧ Below wx.heap.size wx w') := fun wx => by
      rcases hcc : cuts (kinds t) d with _ | ⟨L, r⟩
      · refine (rparts_no hd hcc wx).mono ?_; rintro e w' ⟨rfl, hb⟩; exact ⟨_, _, rfl, hb⟩
      · refine (rparts_yes hd hcc wx).mono ?_; rintro e w' ⟨v, rfl, _, hb⟩; exact ⟨_, _, rfl, hb⟩
    clear hs hcb HC e
    go_enter Try.func34, Try.ntmps34
    go_wp2_with fail
    refine (HFm.out _).mono ?_; rintro e0 w1 ⟨rfl, hw1⟩
    have HB1 : Hid (Below w.heap.size w w1) := by rw [hw1]; exact (Below.refl _ _).alloc (Nat.le_refl _) _
    clear hw1
    go_wp2_with fail
    refine (HP.out _).mono ?_; rintro e0 w2 ⟨v, bb, rfl, hb2⟩
    have HB2 := Lib.hid (bel_call HB1.out hb2)
    clear hb2
    go_wp2_with fail
    refine (HC'.out _).mono ?_; rintro e0 w3 ⟨rfl, hb3⟩
    have HB3 := Lib.hid (bel_call HB2.out hb3)
    clear hb3
    go_wp2_with fail
    go_ret
    exact ⟨rfl, HB3.out⟩
end Go.Proofs.Ytaikpgcmcmkdcaa

/-
  The document's own: whether a record may be, which are the same.
-/
namespace Go.Proofs.Ytaikpgcmcmkdcaa
open Go.RowKit Go.Shelf
set_option linter.unusedVariables false
set_option linter.unusedSimpArgs false
set_option maxRecDepth 100000

theorem short_yes (n : Int) (h : 0 ≤ n ∧ n ≤ 65535) (w : World) : Calls Try.prog 30 #[.int .i64 n] w fun e w' => e = .returned (.bool true) ∧ w = w' := by
  obtain ⟨h1, h2⟩ := h
  go_enter Try.func30, Try.ntmps30
  go_wp2
  go_ret
  exact ⟨rfl, rfl⟩

theorem short_no (n : Int) (h : n < 0 ∨ 65535 < n) (w : World) : Calls Try.prog 30 #[.int .i64 n] w fun e w' => e = .returned (.bool false) ∧ w = w' := by
  by_cases h0 : n < 0
  · have t1 : decide (0 ≤ n) = false := by simpa using h0
    go_enter Try.func30, Try.ntmps30
    go_wp2
    go_ret
    exact ⟨rfl, rfl⟩
  · have t1 : decide (0 ≤ n) = true := by simpa using h0
    have t2 : decide (n ≤ 65535) = false := by simp; omega
    go_enter Try.func30, Try.ntmps30
    go_wp2
    go_ret
    exact ⟨rfl, rfl⟩

set_option maxHeartbeats 4000000 in
theorem rcheck07_any (n : List UInt8) (t c l : Int) (d : List UInt8) (hn : n.length ≤ 1000000) (hd : d.length ≤ 1000000) (w : World) :
    Calls Try.prog 11 #[.agg #[.string (bs n), .int .i64 t, .int .i64 c, .int .i64 l, .string (bs d)]] w (Tells w (.int .i64 (chkC ⟨n, t, c, l, d⟩))) := by
  have HA := Lib.hid (fun wx => rcheck_any n hn wx)
  have HR := Lib.hid (fun wx => rcheckR_any t d hd wx)
  have HB := Lib.hid ((Below.refl w.heap.size w).alloc (Nat.le_refl _) (.cells #[.string (bs n), .int .i64 t, .int .i64 c, .int .i64 l, .string (bs d)] 23))
  have HX := Lib.hid (cel_new w (.string (bs n)) (.int .i64 t) (.int .i64 c) (.int .i64 l) (.string (bs d)) 23)
  obtain ⟨E, hE⟩ : ∃ E, chk n = E := ⟨_, rfl⟩
  obtain ⟨C, hC⟩ : ∃ C, (spl t d).code = C := ⟨_, rfl⟩
  have e0 : chkC ⟨n, t, c, l, d⟩ = if E ≠ 0 then E else if t < 0 ∨ 65535 < t ∨ c < 0 ∨ 65535 < c then 5 else if l < 0 ∨ 2147483647 < l then 5 else C := by
    unfold chkC askE
    simp only [hE, hC]
    by_cases h1 : E ≠ 0
    · simp only [if_pos h1]
    · simp only [if_neg h1]
      by_cases h2 : t < 0 ∨ 65535 < t ∨ c < 0 ∨ 65535 < c
      · simp only [if_pos h2]; simp
      · simp only [if_neg h2]; simp
  rw [e0]
  rw [hE] at HA
  rw [hC] at HR
  clear e0 hE hC
  by_cases h0 : E = 0
  · subst h0
    rw [if_neg (by simp)]
    by_cases ht : 0 ≤ t ∧ t ≤ 65535
    · have HT := Lib.hid (fun wx => short_yes t ht wx)
      by_cases hc : 0 ≤ c ∧ c ≤ 65535
      · have HC := Lib.hid (fun wx => short_yes c hc wx)
        rw [if_neg (by omega)]
        by_cases hl : l < 0
        · rw [if_pos (.inl hl)]
          have tl : decide (l < 0) = true := by simpa using hl
          clear ht hc hl
          go_enter Try.func11, Try.ntmps11
          go_wp2_with fail
          refine (HA.out _).mono ?_; rintro e w1 ⟨rfl, hb⟩
          replace HB := Lib.hid (bel_call HB.out hb)
          replace HX := Lib.hid (HX.out.below (by simp) hb)
          obtain ⟨c0, c1, c2, c3, c4⟩ := HX.out.five
          clear hb
          go_wp2_with fail
          refine (HT.out _).mono ?_; rintro e w2 ⟨rfl, rfl⟩
          go_wp2_with fail
          refine (HC.out _).mono ?_; rintro e w3 ⟨rfl, rfl⟩
          go_wp2_with fail
          go_ret
          exact ⟨rfl, HB.out⟩
        · have tl : decide (l < 0) = false := by simpa using hl
          by_cases hl2 : 2147483647 < l
          · rw [if_pos (.inr hl2)]
            have tl2 : decide ((2147483648 : Int) ≤ l) = true := by simp; omega
            clear ht hc hl hl2
            go_enter Try.func11, Try.ntmps11
            go_wp2_with fail
            refine (HA.out _).mono ?_; rintro e w1 ⟨rfl, hb⟩
            replace HB := Lib.hid (bel_call HB.out hb)
            replace HX := Lib.hid (HX.out.below (by simp) hb)
            obtain ⟨c0, c1, c2, c3, c4⟩ := HX.out.five
            clear hb
            go_wp2_with fail
            refine (HT.out _).mono ?_; rintro e w2 ⟨rfl, rfl⟩
            go_wp2_with fail
            refine (HC.out _).mono ?_; rintro e w3 ⟨rfl, rfl⟩
            go_wp2_with fail
            go_ret
            exact ⟨rfl, HB.out⟩
          · rw [if_neg (by omega)]
            have tl2 : decide ((2147483648 : Int) ≤ l) = false := by simp; omega
            clear ht hc hl hl2
            go_enter Try.func11, Try.ntmps11
            go_wp2_with fail
            refine (HA.out _).mono ?_; rintro e w1 ⟨rfl, hb⟩
            replace HB := Lib.hid (bel_call HB.out hb)
            replace HX := Lib.hid (HX.out.below (by simp) hb)
            obtain ⟨c0, c1, c2, c3, c4⟩ := HX.out.five
            clear hb
            go_wp2_with fail
            refine (HT.out _).mono ?_; rintro e w2 ⟨rfl, rfl⟩
            go_wp2_with fail
            refine (HC.out _).mono ?_; rintro e w3 ⟨rfl, rfl⟩
            go_wp2_with fail
            refine (HR.out _).mono ?_; rintro e w5 ⟨rfl, hb⟩
            replace HB := Lib.hid (bel_call HB.out hb)
            clear hb
            go_wp2_with fail
            go_ret
            exact ⟨rfl, HB.out⟩
      · have HC := Lib.hid (fun wx => short_no c (by omega) wx)
        rw [if_pos (by omega)]
        clear ht hc
        go_enter Try.func11, Try.ntmps11
        go_wp2_with fail
        refine (HA.out _).mono ?_; rintro e w1 ⟨rfl, hb⟩
        replace HB := Lib.hid (bel_call HB.out hb)
        replace HX := Lib.hid (HX.out.below (by simp) hb)
        obtain ⟨c0, c1, c2, c3, c4⟩ := HX.out.five
        clear hb
        go_wp2_with fail
        refine (HT.out _).mono ?_; rintro e w2 ⟨rfl, rfl⟩
        go_wp2_with fail
        refine (HC.out _).mono ?_; rintro e w3 ⟨rfl, rfl⟩
        go_wp2_with fail
        go_ret
        exact ⟨rfl, HB.out⟩
    · have HT := Lib.hid (fun wx => short_no t (by omega) wx)
      rw [if_pos (by omega)]
      clear ht
      go_enter Try.func11, Try.ntmps11
      go_wp2_with fail
      refine (HA.out _).mono ?_; rintro e w1 ⟨rfl, hb⟩
      replace HB := Lib.hid (bel_call HB.out hb)
      replace HX := Lib.hid (HX.out.below (by simp) hb)
      obtain ⟨c0, c1, c2, c3, c4⟩ := HX.out.five
      clear hb
      go_wp2_with fail
      refine (HT.out _).mono ?_; rintro e w2 ⟨rfl, rfl⟩
      go_wp2_with fail
      go_ret
      exact ⟨rfl, HB.out⟩
  · rw [if_pos h0]
    have tE : (E != 0) = true := by simpa using h0
    clear h0
    go_enter Try.func11, Try.ntmps11
    go_wp2_with fail
    refine (HA.out _).mono ?_; rintro e w1 ⟨rfl, hb⟩
    replace HB := Lib.hid (bel_call HB.out hb)
    replace HX := Lib.hid (HX.out.below (by simp) hb)
    obtain ⟨c0, c1, c2, c3, c4⟩ := HX.out.five
    clear hb
    go_wp2_with fail
    go_ret
    exact ⟨rfl, HB.out⟩

end Go.Proofs.Ytaikpgcmcmkdcaa
