/-
  The statement HeadParses.
-/
import Derived.Test.YtkoohdacneflfaaGreatDoorZ13
import Derived.Laws.OwnMore
import Derived.Test.YtkoohdacneflfaaGreatDoorZ11
import Derived.Test.YtkoohdacneflfaaGreatDoorZ09
import Derived.Test.YtkoohdacneflfaaGreatDoorZ10
import Derived.Test.YtkoohdacneflfaaGreatDoorZ12
import Derived.RegionTactic
import Derived.ChangeAlike
import Derived.BigRegion
import Derived.Deep.RegionLaw
import Derived.Deep.RegionHeld
namespace Go.Proofs.YtkoohdacneflfaaGreatDoor
open Go.RowKit Go.Shelf
set_option linter.unusedVariables false
set_option linter.unusedSimpArgs false
set_option maxRecDepth 100000

theorem par_few (b : List UInt8) : (parH b).1.fs.length ≤ 32 := by
  have h0 : z0.fs.length ≤ 32 := by decide
  unfold parH
  split
  · exact h0
  · cases linesB b with
    | nil => exact h0
    | cons l ls =>
      rw [par1]
      split
      · exact h0
      · unfold par2
        split
        · exact h0
        · split
          · exact h0
          · exact (flds_len ls [] (by simp)).1

theorem row_len {w : World} {B e k n : Nat} {v : Value} {xs : List Value} (h : w.ownsRow B e k v n xs) : xs.length = n * k := h.1
/-- A row's own block, where it is not empty. -/
theorem row_blk {w : World} {B e k n c : Nat} {a : Option Addr} {xs : List Value} (h : w.ownsRow B e k (.slice a n c) n xs) (hn : 0 < n) : ∃ g, a = some ⟨g, 0, none⟩ := by
  obtain ⟨_, ⟨h1, _⟩ | ⟨g, cap, cur, h1, _⟩⟩ := h
  · injection h1 with _ h2 _; omega
  · injection h1 with h2 _ _; exact ⟨g, h2⟩

end Go.Proofs.YtkoohdacneflfaaGreatDoor

/-
  http.read: what a head asks for.
-/
namespace Go.Proofs.YtkoohdacneflfaaGreatDoor
open Go.RowKit Go.Shelf
set_option linter.unusedVariables false
set_option linter.unusedSimpArgs false
set_option maxRecDepth 100000

/-! ### cells stored one after another -/
def putL (w : World) (q : Nat) : Nat → List Value → World
  | _, [] => w
  | o, v :: l => putL (w.setCell ⟨q, o, none⟩ v) q (o + 1) l
theorem cel_putL {q : Nat} : ∀ {w : World} (l old pre post : List Value), l.length = old.length → Cel w q (pre ++ old ++ post) → Cel (putL w q pre.length l) q (pre ++ l ++ post)
  | w, [], old, pre, post, h, hc => by
    have : old = [] := List.eq_nil_of_length_eq_zero h.symm
    subst this
    exact hc
  | w, v :: l, [], pre, post, h, hc => by simp at h
  | w, v :: l, o :: old, pre, post, h, hc => by
    have h1 := hc.set (o := pre.length) (by simp) v
    have e : (pre ++ o :: old ++ post).set pre.length v = (pre ++ [v]) ++ old ++ post := by
      rw [List.append_assoc, List.set_append_right _ _ (Nat.le_refl _)]
      simp
    rw [e] at h1
    have h2 := cel_putL l old (pre ++ [v]) post (by simpa using h) h1
    simp only [List.length_append, List.length_singleton, List.append_assoc, List.singleton_append] at h2
    rw [List.append_assoc]
    exact h2
theorem cel_put {w : World} {q : Nat} {old : List Value} (l : List Value) (hc : Cel w q old) (h : l.length = old.length) : Cel (putL w q 0 l) q l := by
  have := cel_putL l old [] [] h (by simpa using hc)
  simpa using this
theorem aside_putL {q : Nat} : ∀ (w : World) (o : Nat) (l : List Value), Aside (fun k => k = q) w (putL w q o l)
  | w, _, [] => Aside.refl _ _
  | w, o, v :: l => (show Aside (fun k => k = q) w (w.setCell ⟨q, o, none⟩ v) from Aside.setCell w (p := ⟨q, o, none⟩) v rfl).trans (aside_putL _ _ l)
theorem below_putL {w0 w : World} {B q : Nat} (h : Below B w0 w) (hq : B ≤ q) (hB : B ≤ w.heap.size) (o : Nat) (l : List Value) : Below B w0 (putL w q o l) :=
  h.trans ((aside_putL w o l).below fun k hk => ⟨by omega, by omega⟩)
theorem cel_newA (w : World) (l : List Value) (T : TypeId) : Cel (w.alloc (.cells l.toArray T)) w.heap.size l :=
  ⟨fun j hj => by rw [World.cell?, heap_alloc_new]; simp [hj], fun j => by rw [World.frozen?, heap_alloc_new]; simp⟩

/-! ### what is asked, plainly -/
theorem par_fits (b : List UInt8) : ∀ x ∈ (parH b).1.fs, x.1.length ≤ b.length ∧ x.2.length ≤ b.length := by
  have h0 : ∀ x ∈ z0.fs, x.1.length ≤ b.length ∧ x.2.length ≤ b.length := by simp [z0]
  have hl := (lines_len b).2
  unfold parH
  split
  · exact h0
  · cases hL : linesB b with
    | nil => exact h0
    | cons l ls =>
      rw [hL] at hl
      rw [par1]
      split
      · exact h0
      · unfold par2
        split
        · exact h0
        · split
          · exact h0
          · exact flds_fits b.length ls [] (fun x hx => hl x (by simp [hx])) (by simp)
theorem ask_h1 {hb : List UInt8} (h : (parH hb).2 ≠ 200) : askH hb = ((parH hb).2, 0, z0) := by unfold askH; rw [if_pos h]
theorem ask_h2 {hb : List UInt8} (h : (parH hb).2 = 200) (h2 : vals (parH hb).1.fs nExp ≠ []) : askH hb = (417, 0, z0) := by unfold askH; rw [if_neg (by simpa using h), if_pos h2]
theorem ask_h3 {hb : List UInt8} (h : (parH hb).2 = 200) (h2 : vals (parH hb).1.fs nExp = []) (h3 : (lenH (parH hb).1.fs).2 ≠ 200) : askH hb = ((lenH (parH hb).1.fs).2, 0, z0) := by
  unfold askH; rw [if_neg (by simpa using h), if_neg (by simpa using h2), if_pos h3]
theorem ask_h4 {hb : List UInt8} (h : (parH hb).2 = 200) (h2 : vals (parH hb).1.fs nExp = []) (h3 : (lenH (parH hb).1.fs).2 = 200) (h4 : (lenH (parH hb).1.fs).1 < 0) (h5 : (parH hb).1.m = mPost) : askH hb = (411, 0, z0) := by
  unfold askH; rw [if_neg (by simpa using h), if_neg (by simpa using h2), if_neg (by simpa using h3), if_pos ⟨h4, h5⟩]
theorem ask_h5 {hb : List UInt8} (h : (parH hb).2 = 200) (h2 : vals (parH hb).1.fs nExp = []) (h3 : (lenH (parH hb).1.fs).2 = 200) (h4 : ¬ ((lenH (parH hb).1.fs).1 < 0 ∧ (parH hb).1.m = mPost)) : askH hb = (200, (lenH (parH hb).1.fs).1.toNat, (parH hb).1) := by
  unfold askH; rw [if_neg (by simpa using h), if_neg (by simpa using h2), if_neg (by simpa using h3), if_neg h4]
theorem bs_eq (a b : List UInt8) : ((bs a).toList == (bs b).toList) = decide (a = b) := by
  rw [bs_toList, bs_toList]
  by_cases h : a = b <;> simp [h]

/-- What read tells. -/
def ReadPost (w : World) (n : Nat) (X : Int × Nat × Hd) (e : Ending) (w' : World) : Prop :=
  ∃ s, e = .returned (.tuple #[.agg #[.string (bs X.2.2.m), .string (bs X.2.2.t), .int .i64 X.2.2.v, s, .int .i64 (if X.1 = 200 then (n : Int) else 0), .int .i64 (if X.1 = 200 then ((n + X.2.1 : Nat) : Int) else 0)], .int .i64 X.1]) ∧ OwnF w' w.heap.size s X.2.2.fs ∧ Below w.heap.size w w'
theorem read_no {w w' : World} {n : Nat} {X : Int × Nat × Hd} {st : Int} (hX : X = (st, 0, z0)) (hs : st ≠ 200) (hb : Below w.heap.size w w') :
    ReadPost w n X (.returned (.tuple #[.agg #[.string ⟨#[]⟩, .string ⟨#[]⟩, .int .i64 0, .slice none 0 0, .int .i64 0, .int .i64 0], .int .i64 st])) w' := by
  subst hX
  exact ⟨.slice none 0 0, by simp only [if_neg hs]; rfl, OwnF.nil _ _, hb⟩

theorem read_yes {w w' : World} {n ml : Nat} {X : Int × Nat × Hd} {m t : List UInt8} {v : Int} {fs : List Fd} {s : Value} (hX : X = (200, ml, ⟨m, t, v, fs⟩)) (ho : OwnF w' w.heap.size s fs) (hb : Below w.heap.size w w') :
    ReadPost w n X (.returned (.tuple #[.agg #[.string (bs m), .string (bs t), .int .i64 v, s, .int .i64 (n : Int), .int .i64 ((n : Int) + (ml : Int))], .int .i64 200])) w' := by
  subst hX
  exact ⟨s, by simp only [if_true, Int.natCast_add], ho, hb⟩
theorem Cel.six {w : World} {q : Nat} {a b c d e f : Value} (h : Cel w q [a, b, c, d, e, f]) : w.cell? ⟨q, 0, none⟩ = some a ∧ w.cell? ⟨q, 1, none⟩ = some b ∧ w.cell? ⟨q, 2, none⟩ = some c ∧ w.cell? ⟨q, 3, none⟩ = some d ∧ w.cell? ⟨q, 4, none⟩ = some e ∧ w.cell? ⟨q, 5, none⟩ = some f :=
  ⟨h.c 0 (by simp), h.c 1 (by simp), h.c 2 (by simp), h.c 3 (by simp), h.c 4 (by simp), h.c 5 (by simp)⟩

set_option maxHeartbeats 4000000 in
theorem read_any {w : World} {v : Value} (b : List UInt8) (hs : Sl w 0 w.heap.size v (iz b)) (hE : Env w) (hl : b.length ≤ 4096) : Calls Tryz.prog 34 #[v] w (ReadPost w b.length (askH b)) := by
  have hb0 : Below w.heap.size w (w.alloc (.cells #[.string ⟨#[]⟩, .string ⟨#[]⟩, .int .i64 0, .slice none 0 0, .int .i64 0, .int .i64 0] 47)) := (Below.refl _ _).alloc (Nat.le_refl _) _
  have hx : Cel (w.alloc (.cells #[.string ⟨#[]⟩, .string ⟨#[]⟩, .int .i64 0, .slice none 0 0, .int .i64 0, .int .i64 0] 47)) w.heap.size [.string ⟨#[]⟩, .string ⟨#[]⟩, .int .i64 0, .slice none 0 0, .int .i64 0, .int .i64 0] := cel_newA w [.string ⟨#[]⟩, .string ⟨#[]⟩, .int .i64 0, .slice none 0 0, .int .i64 0, .int .i64 0] 47
  have hsz : (w.alloc (.cells #[.string ⟨#[]⟩, .string ⟨#[]⟩, .int .i64 0, .slice none 0 0, .int .i64 0, .int .i64 0] 47)).heap.size = w.heap.size + 1 := by simp
  have hs1 := (hs.below hb0 (Nat.le_refl _)).wide (Nat.le_refl _) hb0.size
  obtain ⟨va, vc, rfl⟩ := sl_shape hs rfl
  have hE1 := hE.later hb0
  obtain ⟨W, hW⟩ : ∃ W, w.alloc (.cells #[.string ⟨#[]⟩, .string ⟨#[]⟩, .int .i64 0, .slice none 0 0, .int .i64 0, .int .i64 0] 47) = W := ⟨_, rfl⟩
  rw [hW] at hb0 hs1 hsz hE1 hx
  have HP := Lib.hid (parse_any b hs1 hE1 (by omega))
  have HB0 := Lib.hid hb0
  have HX0 := Lib.hid hx
  have HSZ := Lib.hid hsz
  clear hb0 hx hsz hs1 hE1 hs
  have hfit := par_fits b
  have hfew := par_few b
  have HASK := Lib.hid (And.intro (ask_h1 (hb := b)) (And.intro (ask_h2 (hb := b)) (And.intro (ask_h3 (hb := b)) (And.intro (ask_h4 (hb := b)) (ask_h5 (hb := b))))))
  unfold HedPost at HP
  obtain ⟨Y, hY⟩ : ∃ Y, askH b = Y := ⟨_, rfl⟩
  obtain ⟨X, hX⟩ : ∃ X, parH b = X := ⟨_, rfl⟩
  rw [hX] at hfit hfew HP
  simp only [hX, hY] at HASK
  rw [hY]
  obtain ⟨⟨m, t, n, l⟩, st⟩ := X
  simp only at hfit hfew HP HASK
  have hf : Fits ⟨m, t, n, l⟩ := ⟨by show l.length ≤ 900000; omega, fun x hx => by have := hfit x hx; exact ⟨by omega, by omega⟩⟩
  have HF := Lib.hid hf
  have HFW := Lib.hid hfew
  have HBL := Lib.hid hl
  clear hX hY hfit hfew hf hl hE
  go_enter Tryz.func34, Tryz.ntmps34
  go_wp2_with fail
  clear hW
  refine HP.out.mono ?_; rintro e w2 ⟨hv, rfl, ⟨sl, rfl, ho⟩, hb2⟩
  obtain ⟨sa, sc, rfl⟩ := ho.shape
  have hb3 : Below w2.heap.size w2 (w2.alloc (.cells #[.string (bs m), .string (bs t), .int .i64 n, .slice sa l.length sc] 42)) := (Below.refl _ _).alloc (Nat.le_refl _) _
  have HB2 := Lib.hid ((HB0.out.trans (hb2.mono (by have := HSZ.out; omega))).trans (hb3.mono (by have := hb2.size; have := HSZ.out; omega)))
  have HX2 := Lib.hid ((HX0.out.below (by simp) hb2).below (by simp) hb3)
  have HO2 := Lib.hid (ho.below hb3)
  have HHV := Lib.hid (hv_own (m := m) (t := t) (v := n) HO2.out (show l.length ≤ 1000000 from by have h : l.length ≤ 32 := HFW.out; omega))
  have hq := cel_newA w2 [.string (bs m), .string (bs t), .int .i64 n, .slice sa l.length sc] 42
  have HFD := Lib.hid (field_any nExp HHV.out (Nat.le_refl _) HF.out)
  have e6 : Value.string (bs nExp) = .string ⟨#[101, 120, 112, 101, 99, 116]⟩ := rfl
  rw [e6] at HFD
  have HQ := Lib.hid hq
  obtain ⟨c0, c1, c2, c3, c4, c5⟩ := HX2.out.six
  have cz := HX2.out.fz
  clear ho hb2 hb3 HP hq e6
  by_cases h1 : st = 200
  · subst h1
    have HT2 := Lib.hid (show (fldH l nExp).2 = ((vals l nExp).length : Int) from rfl)
    clear c0 c1 c2 c3 c4 c5 cz
    go_wp2_with fail
    refine HFD.out.mono ?_; rintro e w3 ⟨rfl, hb3⟩
    have HB3 := Lib.hid (HB2.out.trans (hb3.mono HB2.out.size))
    have HX3 := Lib.hid (HX2.out.below (by simp) hb3)
    have HO3 := Lib.hid (HO2.out.below hb3)
    have HQ3 := Lib.hid (HQ.out.below (by simp) hb3)
    have HLN := Lib.hid (length_any (HHV.out.later hb3) (Nat.le_refl _) HF.out)
    obtain ⟨c0, c1, c2, c3, c4, c5⟩ := HX3.out.six
    have cz := HX3.out.fz
    obtain ⟨q0, q1, q2, q3⟩ := HQ3.out.four
    clear hb3 HFD HX2 HB2 HO2 HQ HHV
    by_cases h2 : vals l nExp = []
    · have t2 : ¬ (0 : Int) < (fldH l nExp).2 := by rw [HT2.out, h2]; simp
      obtain ⟨⟨ln, ls⟩, hL⟩ : ∃ x, lenH l = x := ⟨_, rfl⟩
      simp only [hL] at HLN HASK
      have HLM := Lib.hid (show ls = 200 → ln ≤ 65535 from fun e => by
        subst e
        unfold lenH at hL
        split at hL
        · have := lenV_most (vals l nLen) (by rw [hL])
          rw [hL] at this; exact this
        · cases hL)
      clear HT2 hL
      go_wp2_with fail
      refine HLN.out.mono ?_; rintro e w4 ⟨rfl, hb4⟩
      have HB4 := Lib.hid (HB3.out.trans (hb4.mono HB3.out.size))
      have HX4 := Lib.hid (HX3.out.below (by simp) hb4)
      have HO4 := Lib.hid (HO3.out.below hb4)
      have HQ4 := Lib.hid (HQ3.out.below (by simp) hb4)
      obtain ⟨c0, c1, c2, c3, c4, c5⟩ := HX4.out.six
      have cz := HX4.out.fz
      obtain ⟨q0, q1, q2, q3⟩ := HQ4.out.four
      clear hb4 HLN HX3 HB3 HO3 HQ3
      by_cases h3 : ls = 200
      · subst h3
        have hln := HLM.out rfl
        have hbl := HBL.out
        have hpo := bs_eq m mPost
        have e4 : bs mPost = ⟨#[80, 79, 83, 84]⟩ := rfl
        rw [e4] at hpo
        by_cases h5 : m = mPost
        · rw [decide_eq_true h5] at hpo
          by_cases h4 : ln < 0
          · have HY := Lib.hid (HASK.out.2.2.2.1 trivial h2 rfl h4 h5)
            clear HASK hln hbl
            go_wp2_with fail
            clear c0 c1 c2 c3 c4 c5 cz
            have HK := Lib.hid (cel_put [.string ⟨#[]⟩, .string ⟨#[]⟩, .int .i64 0, .slice none 0 0, .int .i64 0, .int .i64 0] HX4.out rfl)
            have HBf := Lib.hid (below_putL HB4.out (Nat.le_refl _) HB4.out.size 0 [.string ⟨#[]⟩, .string ⟨#[]⟩, .int .i64 0, .slice none 0 0, .int .i64 0, .int .i64 0])
            obtain ⟨m0, m1, m2, m3, m4, m5⟩ := HK.out.six
            simp only [putL, Nat.zero_add, Nat.reduceAdd] at HBf m0 m1 m2 m3 m4 m5
            exact bodyPost_ret (v := .tuple #[.agg #[.string ⟨#[]⟩, .string ⟨#[]⟩, .int .i64 0, .slice none 0 0, .int .i64 0, .int .i64 0], .int .i64 411]) (by simp [results, Tryz.results34, go_sem, m0, m1, m2, m3, m4, m5]) rfl (read_no HY.out (by decide) HBf.out)
          · have HY := Lib.hid (HASK.out.2.2.2.2 trivial h2 rfl (fun h => h4 h.1))
            clear HASK
            obtain ⟨ml, hml⟩ : ∃ x : Nat, ln.toNat = x := ⟨_, rfl⟩
            have HML := Lib.hid hml
            have hmx : max ln 0 = (ml : Int) := by omega
            go_wp2_with fail
            all_goals
              clear c0 c1 c2 c3 c4 c5 cz
              have HK := Lib.hid (cel_put [.string ⟨#[80, 79, 83, 84]⟩, .string (bs t), .int .i64 n, .slice sa l.length sc, .int .i64 (b.length : Int), .int .i64 ((b.length : Int) + (ml : Int))] HX4.out rfl)
              have HOf := Lib.hid (show OwnF _ _ _ _ from row_aside HO4.out (aside_putL (q := w.heap.size) w4 0 [.string ⟨#[80, 79, 83, 84]⟩, .string (bs t), .int .i64 n, .slice sa l.length sc, .int .i64 (b.length : Int), .int .i64 ((b.length : Int) + (ml : Int))]) (fun k hk e => by have := (HO4.out.lt k hk).1; have := HSZ.out; omega))
              have HBf := Lib.hid (below_putL HB4.out (Nat.le_refl _) HB4.out.size 0 [.string ⟨#[80, 79, 83, 84]⟩, .string (bs t), .int .i64 n, .slice sa l.length sc, .int .i64 (b.length : Int), .int .i64 ((b.length : Int) + (ml : Int))])
              obtain ⟨m0, m1, m2, m3, m4, m5⟩ := HK.out.six
              simp only [putL, Nat.zero_add, Nat.reduceAdd] at HOf HBf m0 m1 m2 m3 m4 m5
              have h0 := read_yes (X := Y) (n := b.length) (m := m) (t := t) (v := n) (fs := l) (s := .slice sa l.length sc) (ml := ml) (by rw [HY.out, HML.out]) (row_base HOf.out (by have := HSZ.out; omega)) HBf.out
              rw [h5, e4] at h0
              exact bodyPost_ret (v := .tuple #[.agg #[.string ⟨#[80, 79, 83, 84]⟩, .string (bs t), .int .i64 n, .slice sa l.length sc, .int .i64 (b.length : Int), .int .i64 ((b.length : Int) + (ml : Int))], .int .i64 200]) (by simp [results, Tryz.results34, go_sem, m0, m1, m2, m3, m4, m5]) rfl h0
        · have hpo2 : ¬ (bs m).toList = [80, 79, 83, 84] := by rw [bs_toList]; exact h5
          clear hpo e4
          have HY := Lib.hid (HASK.out.2.2.2.2 trivial h2 rfl (fun h => h5 h.2))
          clear HASK
          obtain ⟨ml, hml⟩ : ∃ x : Nat, ln.toNat = x := ⟨_, rfl⟩
          have HML := Lib.hid hml
          have hmx : max ln 0 = (ml : Int) := by omega
          go_wp2_with fail
          all_goals
            clear c0 c1 c2 c3 c4 c5 cz
            have HK := Lib.hid (cel_put [.string (bs m), .string (bs t), .int .i64 n, .slice sa l.length sc, .int .i64 (b.length : Int), .int .i64 ((b.length : Int) + (ml : Int))] HX4.out rfl)
            have HOf := Lib.hid (show OwnF _ _ _ _ from row_aside HO4.out (aside_putL (q := w.heap.size) w4 0 [.string (bs m), .string (bs t), .int .i64 n, .slice sa l.length sc, .int .i64 (b.length : Int), .int .i64 ((b.length : Int) + (ml : Int))]) (fun k hk e => by have := (HO4.out.lt k hk).1; have := HSZ.out; omega))
            have HBf := Lib.hid (below_putL HB4.out (Nat.le_refl _) HB4.out.size 0 [.string (bs m), .string (bs t), .int .i64 n, .slice sa l.length sc, .int .i64 (b.length : Int), .int .i64 ((b.length : Int) + (ml : Int))])
            obtain ⟨m0, m1, m2, m3, m4, m5⟩ := HK.out.six
            simp only [putL, Nat.zero_add, Nat.reduceAdd] at HOf HBf m0 m1 m2 m3 m4 m5
            have h0 := read_yes (X := Y) (n := b.length) (m := m) (t := t) (v := n) (fs := l) (s := .slice sa l.length sc) (ml := ml) (by rw [HY.out, HML.out]) (row_base HOf.out (by have := HSZ.out; omega)) HBf.out
            exact bodyPost_ret (v := .tuple #[.agg #[.string (bs m), .string (bs t), .int .i64 n, .slice sa l.length sc, .int .i64 (b.length : Int), .int .i64 ((b.length : Int) + (ml : Int))], .int .i64 200]) (by simp [results, Tryz.results34, go_sem, m0, m1, m2, m3, m4, m5]) rfl h0
      · have t3 : (ls == 200) = false := by simpa using h3
        have HY := Lib.hid (HASK.out.2.2.1 trivial h2 h3)
        clear HASK
        go_wp2_with fail
        clear c0 c1 c2 c3 c4 c5 cz
        have HK := Lib.hid (cel_put [.string ⟨#[]⟩, .string ⟨#[]⟩, .int .i64 0, .slice none 0 0, .int .i64 0, .int .i64 0] HX4.out rfl)
        have HBf := Lib.hid (below_putL HB4.out (Nat.le_refl _) HB4.out.size 0 [.string ⟨#[]⟩, .string ⟨#[]⟩, .int .i64 0, .slice none 0 0, .int .i64 0, .int .i64 0])
        obtain ⟨m0, m1, m2, m3, m4, m5⟩ := HK.out.six
        simp only [putL, Nat.zero_add, Nat.reduceAdd] at HBf m0 m1 m2 m3 m4 m5
        exact bodyPost_ret (v := .tuple #[.agg #[.string ⟨#[]⟩, .string ⟨#[]⟩, .int .i64 0, .slice none 0 0, .int .i64 0, .int .i64 0], .int .i64 ls]) (by simp [results, Tryz.results34, go_sem, m0, m1, m2, m3, m4, m5]) rfl (read_no HY.out h3 HBf.out)
    · have t2 : (0 : Int) < (fldH l nExp).2 := by
        rw [HT2.out]
        have := List.length_pos_iff.mpr h2
        omega
      have HY := Lib.hid (HASK.out.2.1 trivial h2)
      clear HASK HT2 HLN
      go_wp2_with fail
      clear c0 c1 c2 c3 c4 c5 cz
      have HK := Lib.hid (cel_put [.string ⟨#[]⟩, .string ⟨#[]⟩, .int .i64 0, .slice none 0 0, .int .i64 0, .int .i64 0] HX3.out rfl)
      have HBf := Lib.hid (below_putL HB3.out (Nat.le_refl _) HB3.out.size 0 [.string ⟨#[]⟩, .string ⟨#[]⟩, .int .i64 0, .slice none 0 0, .int .i64 0, .int .i64 0])
      obtain ⟨m0, m1, m2, m3, m4, m5⟩ := HK.out.six
      simp only [putL, Nat.zero_add, Nat.reduceAdd] at HBf m0 m1 m2 m3 m4 m5
      exact bodyPost_ret (v := .tuple #[.agg #[.string ⟨#[]⟩, .string ⟨#[]⟩, .int .i64 0, .slice none 0 0, .int .i64 0, .int .i64 0], .int .i64 417]) (by simp [results, Tryz.results34, go_sem, m0, m1, m2, m3, m4, m5]) rfl (read_no HY.out (by decide) HBf.out)
  · have t1 : (st == 200) = false := by simpa using h1
    have HY := Lib.hid (HASK.out.1 h1)
    clear HASK HFD
    go_wp2_with fail
    clear c0 c1 c2 c3 c4 c5 cz
    have HK := Lib.hid (cel_put [.string ⟨#[]⟩, .string ⟨#[]⟩, .int .i64 0, .slice none 0 0, .int .i64 0, .int .i64 0] HX2.out rfl)
    have HBf := Lib.hid (below_putL HB2.out (Nat.le_refl _) HB2.out.size 0 [.string ⟨#[]⟩, .string ⟨#[]⟩, .int .i64 0, .slice none 0 0, .int .i64 0, .int .i64 0])
    obtain ⟨m0, m1, m2, m3, m4, m5⟩ := HK.out.six
    simp only [putL, Nat.zero_add, Nat.reduceAdd] at HBf m0 m1 m2 m3 m4 m5
    exact bodyPost_ret (v := .tuple #[.agg #[.string ⟨#[]⟩, .string ⟨#[]⟩, .int .i64 0, .slice none 0 0, .int .i64 0, .int .i64 0], .int .i64 st]) (by simp [results, Tryz.results34, go_sem, m0, m1, m2, m3, m4, m5]) rfl (read_no HY.out h1 HBf.out)
end Go.Proofs.YtkoohdacneflfaaGreatDoor

/-
  readBody: waits for a body's end.
-/
namespace Go.Proofs.YtkoohdacneflfaaGreatDoor
open Go.RowKit Go.Shelf
set_option linter.unusedVariables false
set_option linter.unusedSimpArgs false
set_option maxRecDepth 100000
attribute [local go_sem] run_store_func

/-- What lies when all begins, below block N, is as it was. -/
def EnvN (w : World) (N : Nat) : Prop := ∃ w0, w0.heap.size = N ∧ Env w0 ∧ Below N w0 w
section
variable {w w' : World} {N : Nat} {G : Nat → Prop}
theorem EnvN.env (h : EnvN w N) : Env w := by
  obtain ⟨w0, rfl, h1, h2⟩ := h
  exact h1.later h2
theorem EnvN.size (h : EnvN w N) : N ≤ w.heap.size := by
  obtain ⟨w0, rfl, h1, h2⟩ := h
  exact h2.size
theorem EnvN.aside (h : EnvN w N) (ha : Aside G w w') (hG : ∀ b, b < N → ¬ G b) : EnvN w' N := by
  have hs := h.size
  obtain ⟨w0, e, h1, h2⟩ := h
  exact ⟨w0, e, h1, h2.trans (ha.below fun k hk => ⟨by omega, hG k hk⟩)⟩
theorem EnvN.below (h : EnvN w N) (hb : Below N w w') : EnvN w' N := by
  obtain ⟨w0, e, h1, h2⟩ := h
  exact ⟨w0, e, h1, h2.trans hb⟩
theorem EnvN.of (h : Env w) : EnvN w w.heap.size := ⟨w, rfl, h, Below.refl _ _⟩
end

theorem ask_fits {hb : List UInt8} (hl : hb.length ≤ 4096) : Fits (askH hb).2.2 ∧ ∀ x ∈ (askH hb).2.2.fs, x.2.length ≤ 4096 := by
  have h0 : Fits z0 ∧ ∀ x ∈ z0.fs, x.2.length ≤ 4096 := ⟨⟨by decide, by simp [z0]⟩, by simp [z0]⟩
  have h1 : Fits (parH hb).1 ∧ ∀ x ∈ (parH hb).1.fs, x.2.length ≤ 4096 := by
    have hf := par_fits hb
    have hw := par_few hb
    exact ⟨⟨by omega, fun x hx => by have := hf x hx; exact ⟨by omega, by omega⟩⟩, fun x hx => by have := hf x hx; omega⟩
  unfold askH
  split
  · exact h0
  · split
    · exact h0
    · split
      · exact h0
      · split
        · exact h0
        · exact h1

theorem sl_apart {W W' : World} {G : Nat → Prop} {k : Nat} {v : Value} {l : List Int} (h : Sl W k (k + 1) v l) (ha : Aside G W W') (hk : k < W.heap.size ∨ l = []) (hG : ¬ G k) : Sl W' k (k + 1) v l := by
  rcases hk with hk | hk
  · exact h.keep fun b o hb hb2 => by
      obtain rfl : b = k := by omega
      exact ha.cell (p := ⟨b, o, none⟩) hk hG
  · obtain ⟨a, c, e, h1, h2, _⟩ := h
    exact ⟨a, c, e, h1, h2, fun h0 => by rw [hk] at h0; simp at h0⟩

theorem sl_in {w : World} {g : Nat} {v : Value} {b : List UInt8} (h : Sl w g (g + 1) v (iz b)) : g < w.heap.size ∨ iz b = [] := by
  obtain ⟨a, c, _, _, _, h5⟩ := h
  cases b with
  | nil => exact .inr rfl
  | cons x r =>
    rw [iz_len] at h5
    obtain ⟨gg, off, _, h6, h7, h8⟩ := h5 (by simp)
    have := World.block_lt_of_cell? w _ (h8 0 (by simp))
    simp only at this
    exact .inl (by omega)

/-- The cells of an item that says nothing. -/
def zI : List Value := [.int .i64 0, .string ⟨#[]⟩, .string ⟨#[]⟩, .int .i64 0, .slice none 0 0, .slice none 0 0, .bool false]
theorem Cel.seven {w : World} {q : Nat} {a b c d e f g : Value} (h : Cel w q [a, b, c, d, e, f, g]) : w.cell? ⟨q, 0, none⟩ = some a ∧ w.cell? ⟨q, 1, none⟩ = some b ∧ w.cell? ⟨q, 2, none⟩ = some c ∧ w.cell? ⟨q, 3, none⟩ = some d ∧ w.cell? ⟨q, 4, none⟩ = some e ∧ w.cell? ⟨q, 5, none⟩ = some f ∧ w.cell? ⟨q, 6, none⟩ = some g :=
  ⟨h.c 0 (by simp), h.c 1 (by simp), h.c 2 (by simp), h.c 3 (by simp), h.c 4 (by simp), h.c 5 (by simp), h.c 6 (by simp)⟩
theorem Cel.nine {w : World} {q : Nat} {a b c d e f g i j : Value} (h : Cel w q [a, b, c, d, e, f, g, i, j]) : w.cell? ⟨q, 0, none⟩ = some a ∧ w.cell? ⟨q, 1, none⟩ = some b ∧ w.cell? ⟨q, 2, none⟩ = some c ∧ w.cell? ⟨q, 3, none⟩ = some d ∧ w.cell? ⟨q, 4, none⟩ = some e ∧ w.cell? ⟨q, 5, none⟩ = some f ∧ w.cell? ⟨q, 6, none⟩ = some g ∧ w.cell? ⟨q, 7, none⟩ = some i ∧ w.cell? ⟨q, 8, none⟩ = some j :=
  ⟨h.c 0 (by simp), h.c 1 (by simp), h.c 2 (by simp), h.c 3 (by simp), h.c 4 (by simp), h.c 5 (by simp), h.c 6 (by simp), h.c 7 (by simp), h.c 8 (by simp)⟩

/-- A reader that is not over, whatever it waits for. -/
def Rx (w : World) (N r : Nat) (X : Nat → Prop) (kv : Value) (b : List UInt8) : Prop := ∃ nx h s fr te, Rb w N r nx kv b h s fr te ∧ ∀ x, s.ownBlock = some x → ¬ X x
theorem sl_apart3 {W W' : World} {G : Nat → Prop} {k : Nat} {v : Value} {b : List UInt8} (h : Sl W k (k + 1) v (iz b)) (ha : Aside G W W') (hG : ¬ G k ∨ b = []) : Sl W' k (k + 1) v (iz b) := by
  rcases hG with hG | rfl
  · exact sl_apart h ha (sl_in h) hG
  · obtain ⟨a', c', e, h1, h2, _⟩ := h
    exact ⟨a', c', e, h1, h2, fun h0 => by simp [iz] at h0⟩
theorem sl_in' {w : World} {g : Nat} {v : Value} {b : List UInt8} (h : Sl w g (g + 1) v (iz b)) : g < w.heap.size ∨ b = [] := by
  rcases sl_in h with h | h
  · exact .inl h
  · exact .inr (by cases b with | nil => rfl | cons x y => simp [iz] at h)

/-- What the next thing to do tells. -/
def NextPost (w : World) (N r g : Nat) (X : Nat → Prop) (kv : Value) (b : List UInt8) (e : Ending) (w' : World) : Prop :=
  Aside (fun k => k = r) w w' ∧ ((oneH b = none ∧ e = .returned (.tuple #[.agg zI.toArray, .bool false]) ∧ Rx w' N r X kv b) ∨
    ∃ p n kv', oneH b = some (p.x, n) ∧ e = .returned (.tuple #[vI p, .bool true]) ∧ OkI w' N w.heap.size (fun k => k = r ∨ X k) p ∧ Rx w' N r X kv' (b.drop n) ∧ Sl w' g (g + 1) kv' (iz (b.drop n)))

/-- A store that runs so, as one step of a region that draws its order. -/
theorem step_store_run {ops : Array Oper} {o : Oper} {a : Act} {w w' : World} {v : Value} {ad : Addr} {K : Act → World → Prop} {Q : Exit → Act → World → Prop} {E : Prop} (hgd : o.guard = none) (s x : Operand) (t : TypeId)
    (ho : o.op = .store t s x) (hs : a.eval s = .pointer (some ad)) (hx : a.eval x = v) (hrun : (Instr.storeAt t (.pointer (some ad)) v).run Tryz.prog w = .ok () w') (hd : o.dst = none) (h : K a w') :
    if Region.wanted o (yielded ops a.tmps) = true then Oper.wp Tryz.prog o a w K Q else E := by
  rw [if_pos (by simp [Region.wanted, hgd])]
  unfold Oper.wp
  simp [execOp, ho, hs, hx, hrun, Result.andThen]
  unfold Oper.upon
  simp only [hd]
  exact h

theorem store_item {w : World} {q : Nat} {old : List Value} (p : Rp) (h : Cel w q old) (hl : old.length = 7) (hs : ∃ a n c, p.s = .slice a n c) (hb : ∃ a n c, p.b = .slice a n c) : (Instr.storeAt 44 (.pointer (some ⟨q, 0, none⟩)) (vI p)).run Tryz.prog w = .ok () (putL w q 0 (cI p)) := by
  obtain ⟨sa, sn, sc, hs⟩ := hs
  obtain ⟨ba, bn, bc, hb⟩ := hb
  match old, hl with
  | [a0, a1, a2, a3, a4, a5, a6], _ =>
    obtain ⟨e0, e1, e2, e3, e4, e5, e6⟩ := h.seven
    have ez := h.fz
    unfold vI
    simp only [hs, hb, cI]
    go_simp
    simp [putL]

set_option maxHeartbeats 4000000 in
theorem body_any {w : World} {N r g k n q : Nat} {nx kv s : Value} {b : List UInt8} {h : Hd} (hr : Rb w N r nx kv b h s k q) (hqq : k + n = q) (hk : endL b = some k) (ha : askH (b.take k) = (200, n, h)) (hs : Sl w g (g + 1) kv (iz b)) (hg : g ≠ r) (hE : EnvN w N) (hl : b.length ≤ 900000) {X : Nat → Prop} (hX : ∀ x, X x → x < w.heap.size) (hXs : ∀ x, s.ownBlock = some x → ¬ X x) :
    Calls Tryz.prog 35 #[.pointer (some ⟨r, 0, none⟩)] w (NextPost w N r g X kv b) := by
  have hkb := endL_bound hk
  have hn : n ≤ 65535 := by have := ask_most (b.take k); rw [ha] at this; exact this
  have hft := ask_fits (hb := b.take k) (by rw [List.length_take]; omega)
  rw [ha] at hft
  have hone : b.length < q → oneH b = none := fun hlt => by
    unfold oneH; rw [hk]; simp only; rw [ha, if_neg (by simp), if_pos (by simp only; omega)]
  have hone2 : ¬ b.length < q → oneH b = some (⟨200, h, (b.drop k).take n, keepH h.v h.fs⟩, q) := fun hlt => by
    unfold oneH; rw [hk]; simp only; rw [ha, if_neg (by simp), if_neg (by simp only; omega), ← hqq]
  have h1 := Lib.hid hone
  have h2 := Lib.hid hone2
  have hlt := hr.lt
  have hsf := fun x hx => (hr.f.lt x hx).2
  obtain ⟨va, vc, rfl⟩ := sl_shape hs rfl
  obtain ⟨sa, sc, rfl⟩ := hr.f.shape
  have hb0 : Below w.heap.size w (w.alloc (.cells #[.int .i64 0, .string ⟨#[]⟩, .string ⟨#[]⟩, .int .i64 0, .slice none 0 0, .slice none 0 0, .bool false] 44)) := (Below.refl _ _).alloc (Nat.le_refl _) _
  have hx : Cel (w.alloc (.cells #[.int .i64 0, .string ⟨#[]⟩, .string ⟨#[]⟩, .int .i64 0, .slice none 0 0, .slice none 0 0, .bool false] 44)) w.heap.size zI := cel_newA w zI 44
  have hsz : (w.alloc (.cells #[.int .i64 0, .string ⟨#[]⟩, .string ⟨#[]⟩, .int .i64 0, .slice none 0 0, .slice none 0 0, .bool false] 44)).heap.size = w.heap.size + 1 := by simp
  have hr1 := hr.below hb0
  obtain ⟨W, hW⟩ : ∃ W, w.alloc (.cells #[.int .i64 0, .string ⟨#[]⟩, .string ⟨#[]⟩, .int .i64 0, .slice none 0 0, .slice none 0 0, .bool false] 44) = W := ⟨_, rfl⟩
  rw [hW] at hb0 hx hsz hr1
  obtain ⟨c0, c1, c2, c3, c4, c5, c6, c7, c8⟩ := hr1.c.nine
  have cz := hr1.c.fz
  have hrW : r < W.heap.size := by omega
  have HR1 := Lib.hid hr1
  have HB0 := Lib.hid hb0
  have HX0 := Lib.hid hx
  have HSZ := Lib.hid hsz
  have HS := Lib.hid hs
  have HEN := Lib.hid hE
  have HFT := Lib.hid hft
  have HG := Lib.hid hg
  have HKB := Lib.hid hkb
  have HN := Lib.hid hn
  have HBL := Lib.hid hl
  have HLT := Lib.hid hlt
  have HX9 := Lib.hid (And.intro hX hXs)
  have HQQ := Lib.hid hqq
  have HSF := Lib.hid hsf
  clear hone hone2 hr hr1 hb0 hx hsz hs hE hft hk ha hkb hn hl hlt hg hsf hqq hX hXs
  go_enter Tryz.func35, Tryz.ntmps35
  go_wp2_with fail
  go_region
  have hb2 : Below W.heap.size W (W.alloc (.cells #[.string (bs h.m), .string (bs h.t), .int .i64 h.v, .slice sa h.fs.length sc] 42)).drew := ((Below.refl _ _).alloc (Nat.le_refl _) _).drew
  have hq2 : Cel (W.alloc (.cells #[.string (bs h.m), .string (bs h.t), .int .i64 h.v, .slice sa h.fs.length sc] 42)).drew W.heap.size [.string (bs h.m), .string (bs h.t), .int .i64 h.v, .slice sa h.fs.length sc] := ⟨(cel_newA W [.string (bs h.m), .string (bs h.t), .int .i64 h.v, .slice sa h.fs.length sc] 42).c, (cel_newA W [.string (bs h.m), .string (bs h.t), .int .i64 h.v, .slice sa h.fs.length sc] 42).fz⟩
  obtain ⟨W2, hW2⟩ : ∃ W2, (W.alloc (.cells #[.string (bs h.m), .string (bs h.t), .int .i64 h.v, .slice sa h.fs.length sc] 42)).drew = W2 := ⟨_, rfl⟩
  rw [hW2] at hb2 hq2 ⊢
  have HB2 := Lib.hid (HB0.out.trans (hb2.mono (by have := HSZ.out; omega)))
  have HX2 := Lib.hid (HX0.out.below (by simp [zI]) hb2)
  have HR2 := Lib.hid (HR1.out.below hb2)
  have HQ2 := Lib.hid hq2
  have HS2 := Lib.hid (sl_apart HS.out (Aside.of_all (G := fun _ => False) HB2.out) (sl_in HS.out) (fun h => h))
  clear c0 c1 c2 c3 c4 c5 c6 c7 c8 cz hrW
  obtain ⟨c0, c1, c2, c3, c4, c5, c6, c7, c8⟩ := HR2.out.c.nine
  have cz := HR2.out.c.fz
  clear hb2 hq2 hW2 hW
  by_cases hlt : b.length < q
  · have t1 : (b.length : Int) < (q : Int) := by omega
    obtain ⟨z0', z1, z2, z3, z4, z5, z6⟩ := HX2.out.seven
    have zz := HX2.out.fz
    go_wp2_with fail
    have HK := Lib.hid (cel_put [.int .i64 0, .string ⟨#[]⟩, .string ⟨#[]⟩, .int .i64 0, .slice none 0 0, .slice none 0 0, .bool false] HX2.out rfl)
    have HBf := Lib.hid (below_putL HB2.out (Nat.le_refl _) HB2.out.size 0 [.int .i64 0, .string ⟨#[]⟩, .string ⟨#[]⟩, .int .i64 0, .slice none 0 0, .slice none 0 0, .bool false])
    have HRf := Lib.hid (HR2.out.aside (aside_putL (q := w.heap.size) W2 0 [.int .i64 0, .string ⟨#[]⟩, .string ⟨#[]⟩, .int .i64 0, .slice none 0 0, .slice none 0 0, .bool false]) (by have := HLT.out; omega) (fun x hx e => by
      have := HSF.out x hx; omega))
    obtain ⟨m0, m1, m2, m3, m4, m5, m6⟩ := HK.out.seven
    simp only [putL, Nat.zero_add, Nat.reduceAdd] at HBf HRf m0 m1 m2 m3 m4 m5 m6
    refine bodyPost_ret (v := .tuple #[.agg #[.int .i64 0, .string ⟨#[]⟩, .string ⟨#[]⟩, .int .i64 0, .slice none 0 0, .slice none 0 0, .bool false], .bool false]) (by simp [results, Tryz.results35, go_sem, m0, m1, m2, m3, m4, m5, m6]) rfl ⟨Aside.of_all HBf.out, .inl ⟨h1.out hlt, rfl, _, _, _, _, _, HRf.out, HX9.out.2⟩⟩
  · have t1 : ¬ (b.length : Int) < (q : Int) := by omega
    obtain ⟨ba, bn, bc, hcut, hcs⟩ : ∃ ba bn bc, (∀ wx, (Instr.slice 28 (.slice va b.length vc) (some (.int .i64 k)) (some (.int .i64 (q : Int))) none).run Tryz.prog wx = .ok (.slice ba bn bc) wx) ∧ Sl W2 g (g + 1) (.slice ba bn bc) (iz ((b.drop k).take n)) := by
      obtain ⟨sv, e1, e2⟩ := slice_cut (l := iz b) (p := k) (m := n) (show Sl W2 g (g + 1) (.slice va (iz b).length vc) (iz b) by rw [iz_len]; exact HS2.out) (by rw [iz_len]; have := HQQ.out; omega)
      rw [iz_cut] at e2
      obtain ⟨a', c', e3, _⟩ := id e2
      subst e3
      rw [iz_len] at e1
      exact ⟨_, _, _, fun wx => by rw [show (q : Int) = (k : Int) + (n : Int) by have := HQQ.out; omega]; exact e1 wx, e2⟩
    obtain ⟨fa, fn, fc, hfrom, hfs⟩ := from_sl (p := q) HS2.out rfl (by omega)
    obtain ⟨bd, hbd⟩ : ∃ bd, (b.drop k).take n = bd := ⟨_, rfl⟩
    rw [hbd] at hcs
    have HBD := Lib.hid hbd
    obtain ⟨ra, rc, W3, hrun, ro, rA⟩ := run_appBs W2.heap.size (.slice none 0 0) (.slice ba bn bc) [] bd (OwnB.nil _ _) hcs (by rw [← hbd]; simp; have := HN.out; omega) (Nat.le_refl _)
    clear hbd
    simp only [List.length_nil, Nat.zero_add, List.nil_append] at hrun ro
    have hb3 : Below W2.heap.size W2 W3 := rA.below fun x hx => ⟨hx, fun e => by cases e⟩
    have HF3 := Lib.hid (hfs W3 (sl_apart HS2.out (Aside.of_all (G := fun _ => False) hb3) (sl_in HS2.out) fun h => h))
    have HB3 := Lib.hid (HB2.out.trans (hb3.mono HB2.out.size))
    have HX3 := Lib.hid (HX2.out.below (by simp [zI]) hb3)
    have HR3 := Lib.hid (HR2.out.below hb3)
    have HQ3 := Lib.hid (HQ2.out.below (by simp) hb3)
    have HO3 := Lib.hid ro
    have HS3 := Lib.hid hb3.size
    clear c0 c1 c3 c4 c5 c6 c7 c8 cz
    obtain ⟨d0, d1, d2, d3, d4, d5, d6, d7, d8⟩ := HR3.out.c.nine
    have dz := HR3.out.c.fz
    clear hfs rA ro hb3 hcs
    go_wp2_with (at_builtin; refine Lib.wpList_append_run _ rfl _ _ _ _ rfl _ _ rfl rfl _ _ hrun ?_)
    have hA : Aside (fun x => x = r) W3 ((putL W3 r 2 [.slice fa fn fc, .string ⟨#[]⟩, .string ⟨#[]⟩, .int .i64 0, .slice none 0 0, .int .i64 0, .int .i64 0]).setCell ⟨r, 1, none⟩ (nxH r)) := (aside_putL W3 2 [.slice fa fn fc, .string ⟨#[]⟩, .string ⟨#[]⟩, .int .i64 0, .slice none 0 0, .int .i64 0, .int .i64 0]).trans (Aside.setCell _ (p := ⟨r, 1, none⟩) _ rfl)
    have hC : Cel ((putL W3 r 2 [.slice fa fn fc, .string ⟨#[]⟩, .string ⟨#[]⟩, .int .i64 0, .slice none 0 0, .int .i64 0, .int .i64 0]).setCell ⟨r, 1, none⟩ (nxH r)) r (cR r (nxH r) (.slice fa fn fc) z0 (.slice none 0 0) 0 0) := (cel_putL (q := r) [.slice fa fn fc, .string ⟨#[]⟩, .string ⟨#[]⟩, .int .i64 0, .slice none 0 0, .int .i64 0, .int .i64 0] [.slice va b.length vc, .string (bs h.m), .string (bs h.t), .int .i64 h.v, .slice sa h.fs.length sc, .int .i64 k, .int .i64 q] [.pointer (some ⟨r, 0, none⟩), nx] [] rfl HR3.out.c).set (o := 1) (by simp) (nxH r)
    clear d0 d1 d2 d3 d4 d5 d6 d7 d8 dz c2
    obtain ⟨W4, hW4⟩ : ∃ W4, (putL W3 r 2 [.slice fa fn fc, .string ⟨#[]⟩, .string ⟨#[]⟩, .int .i64 0, .slice none 0 0, .int .i64 0, .int .i64 0]).setCell ⟨r, 1, none⟩ (nxH r) = W4 := ⟨_, rfl⟩
    rw [hW4] at hA hC
    simp only [putL, Nat.reduceAdd, nxH] at hW4
    rw [hW4]
    have hrs := HLT.out
    have hsz := HSZ.out
    have hs3 := HB3.out.size
    have hs2 := HB2.out.size
    have hq2 := HQ2.out.lt (by simp)
    have hs32 := HS3.out
    have HA4 := Lib.hid ((Aside.of_all HB3.out (G := fun x => x = r)).trans hA)
    have HR4 := Lib.hid (show Rb W4 N r (nxH r) (.slice fa fn fc) (b.drop q) z0 (.slice none 0 0) 0 0 from ⟨hC, OwnF.nil _ _, by simp [z0], fun b h => (by cases h), .inl rfl, HR3.out.lo⟩)
    have HX4 := Lib.hid (HX3.out.aside (by simp [zI]) hA (by omega))
    have HQ4 := Lib.hid (HQ3.out.aside (by simp) hA (by omega))
    have HO4 := Lib.hid (HO3.out.aside hA fun x hx e => by have := (HO3.out.lt x hx).1; omega)
    have HF4 := Lib.hid (sl_apart HF3.out hA (sl_in HF3.out) HG.out)
    have HP4 := Lib.hid (row_aside HR3.out.f hA fun x hx e => HR3.out.fne x hx e)
    have HE4 := Lib.hid (HEN.out.aside HA4.out fun x hx e => by have := HR3.out.lo; omega)
    have HH4 := Lib.hid (hv_own (m := h.m) (t := h.t) (v := h.v) HP4.out HR3.out.fl)
    have HS4 := Lib.hid (show w.heap.size < W4.heap.size from by have := hA.size; omega)
    have hbd : Below W4.heap.size W4 W4.drew := (Below.refl _ _).drew
    have HKP := Lib.hid (keep_any (HH4.out.later hbd) (Nat.le_refl _) HFT.out.1 (fun x hx => by have := HFT.out.2 x hx; omega) (HE4.out.env.later hbd))
    have HCQ := Lib.hid (show ∀ wx, Below W4.heap.size W4 wx → (wx.cell? ⟨W.heap.size, 0, none⟩ = some (.string (bs h.m)) ∧ wx.cell? ⟨W.heap.size, 1, none⟩ = some (.string (bs h.t)) ∧ wx.cell? ⟨W.heap.size, 2, none⟩ = some (.int .i64 h.v) ∧ wx.cell? ⟨W.heap.size, 3, none⟩ = some (.slice sa h.fs.length sc)) ∧
      (wx.cell? ⟨w.heap.size, 0, none⟩ = some (.int .i64 0) ∧ wx.cell? ⟨w.heap.size, 1, none⟩ = some (.string ⟨#[]⟩) ∧ wx.cell? ⟨w.heap.size, 2, none⟩ = some (.string ⟨#[]⟩) ∧ wx.cell? ⟨w.heap.size, 3, none⟩ = some (.int .i64 0) ∧ wx.cell? ⟨w.heap.size, 4, none⟩ = some (.slice none 0 0) ∧ wx.cell? ⟨w.heap.size, 5, none⟩ = some (.slice none 0 0) ∧ wx.cell? ⟨w.heap.size, 6, none⟩ = some (.bool false)) ∧ (∀ j, wx.frozen? ⟨w.heap.size, j, none⟩ = false)
      from fun wx hb => ⟨(HQ4.out.below (by simp) hb).four, (HX4.out.below (by simp [zI]) hb).seven, (HX4.out.below (by simp [zI]) hb).fz⟩)
    clear hA hC hW4 hrs hsz hs3 hs2 hq2 hs32 hbd hcut hfrom hrun t1
    have hp9 := (HCQ.out _ (Below.refl _ W4)).1
    obtain ⟨p0, p1, p2, p3⟩ := hp9
    refine wp_region_till (S := (fun wx => wx.cell? ⟨W.heap.size, 0, none⟩ = some (.string (bs h.m)) ∧ wx.cell? ⟨W.heap.size, 1, none⟩ = some (.string (bs h.t)) ∧ wx.cell? ⟨W.heap.size, 2, none⟩ = some (.int .i64 h.v) ∧ wx.cell? ⟨W.heap.size, 3, none⟩ = some (.slice sa h.fs.length sc))) 6 (by kernel_rfl) ⟨p0, p1, p2, p3⟩ (fun hHeld => ?_)
    refine till_take (i := 0) (oi := { dst := some 57, op := Op.load 42 (Operand.tmp 4), type := 42, pos := "http.go:113", after := #[], guard := none }) (v := ?_) rfl (by kernel_rfl) (by kernel_rfl) (by kernel_rfl) (fun _ _ _ h => h) (Or.inl ⟨by rfl, ?_⟩) (by assumption) ?_
    rotate_left 1
    · intro w hSw; (try dsimp only at hSw); go_simp; try (with_reducible rfl)
    try simp only [Act.put, List.setIfInBounds_toArray, List.set_cons_zero, List.set_cons_succ]
    refine till_take (i := 1) (oi := { dst := some 58, op := Op.move (Operand.tmp 7), type := 28, pos := "http.go:113", after := #[], guard := none }) (v := ?_) rfl (by kernel_rfl) (by kernel_rfl) (by kernel_rfl) (fun _ _ _ h => h) (Or.inl ⟨by rfl, ?_⟩) (by assumption) ?_
    rotate_left 1
    · intro w hSw; (try dsimp only at hSw); go_simp; try (with_reducible rfl)
    try simp only [Act.put, List.setIfInBounds_toArray, List.set_cons_zero, List.set_cons_succ]
    refine till_take (i := 2) (oi := { dst := some 59, op := Op.load 42 (Operand.tmp 4), type := 42, pos := "http.go:113", after := #[], guard := none }) (v := ?_) rfl (by kernel_rfl) (by kernel_rfl) (by kernel_rfl) (fun _ _ _ h => h) (Or.inl ⟨by rfl, ?_⟩) (by assumption) ?_
    rotate_left 1
    · intro w hSw; (try dsimp only at hSw); go_simp; try (with_reducible rfl)
    try simp only [Act.put, List.setIfInBounds_toArray, List.set_cons_zero, List.set_cons_succ]
    refine till_ready (rs := [3]) (by kernel_rfl) (by simp) ?_
    refine TillAll.cons (o := { dst := some 60, op := Op.call { callee := Callee.value (Operand.func 53), args := #[Operand.tmp 59], argTypes := #[42] }, type := 4, pos := "http.go:113", after := #[{ on := 2, ground := Ground.data }], guard := none }) rfl (fun K hK => ?_) (TillAll.nil)
    go_simp
    refine (HKP.out).mono ?_; rintro en w5 ⟨rfl, hb5⟩
    have hc5 := HCQ.out _ (((Below.refl W4.heap.size W4).drew).trans hb5)
    obtain ⟨⟨f0, f1, f2, f3⟩, ⟨e0, e1, e2, e3, e4, e5, e6⟩, ez⟩ := hc5
    have HB5 := Lib.hid (((Below.refl W4.heap.size W4).drew).trans hb5)
    have HQ5 := Lib.hid (And.intro f0 (And.intro f1 (And.intro f2 f3)))
    clear hb5
    have HST := Lib.hid (store_item (q := w.heap.size) (old := zI) ⟨⟨200, h, bd, keepH h.v h.fs⟩, .slice sa h.fs.length sc, .slice ra bd.length rc⟩ (w := w5) ((HX4.out.below (by simp [zI]) HB5.out)) rfl ⟨_, _, _, rfl⟩ ⟨_, _, _, rfl⟩)
    have HQ6 := Lib.hid (((HQ4.out.below (by simp) HB5.out).aside (by simp) (aside_putL (q := w.heap.size) w5 0 (cI ⟨⟨200, h, bd, keepH h.v h.fs⟩, .slice sa h.fs.length sc, .slice ra bd.length rc⟩)) (by have := HSZ.out; omega)).four)
    refine hK.out _ _ HQ5.out (fun hHeld => ?_)
    clear hK K
    try simp only [Act.put, List.setIfInBounds_toArray, List.set_cons_zero, List.set_cons_succ]
    refine till_take (i := 4) (oi := { dst := some 61, op := Op.build 44 #[(0, Operand.const (Value.int IntKind.i64 200)), (1, Operand.tmp 57), (2, Operand.tmp 58), (3, Operand.tmp 60)], type := 44, pos := "http.go:113", after := #[{ on := 0, ground := Ground.data }, { on := 1, ground := Ground.data }, { on := 3, ground := Ground.data }], guard := none }) (v := ?_) rfl (by kernel_rfl) (by kernel_rfl) (by kernel_rfl) (fun _ _ _ h => h) (Or.inl ⟨by rfl, ?_⟩) (by assumption) ?_
    rotate_left 1
    · intro w hSw; (try dsimp only at hSw); go_simp; try (with_reducible rfl)
    try simp only [Act.put, List.setIfInBounds_toArray, List.set_cons_zero, List.set_cons_succ]
    refine till_ready (rs := [5]) (by kernel_rfl) (by simp) ?_
    refine TillAll.cons (o := { dst := none, op := Op.store 44 (Operand.tmp 2) (Operand.tmp 61), type := 0, pos := "http.go:113", after := #[{ on := 4, ground := Ground.data }, { on := 3, ground := Ground.chain }, { on := 0, ground := Ground.phase }, { on := 1, ground := Ground.phase }, { on := 2, ground := Ground.phase }, { on := 3, ground := Ground.phase }, { on := 4, ground := Ground.phase }], guard := none }) rfl (fun K hK => ?_) (TillAll.nil)
    refine step_store_run rfl (.tmp 2) (.tmp 61) 44 rfl rfl rfl HST.out rfl ?_
    refine hK.out _ _ HQ6.out (fun hHeld => ?_)
    clear hK K
    try simp only [Act.put, List.setIfInBounds_toArray, List.set_cons_zero, List.set_cons_succ]
    refine till_ready (rs := [6]) (by kernel_rfl) (by simp) ?_
    refine TillAll.last (o := { dst := some 3, op := Op.assign (Operand.const (Value.bool true)), type := 4, pos := "http.go:113", after := #[{ on := 5, ground := Ground.chain }, { on := 0, ground := Ground.phase }, { on := 1, ground := Ground.phase }, { on := 2, ground := Ground.phase }, { on := 3, ground := Ground.phase }, { on := 4, ground := Ground.phase }, { on := 5, ground := Ground.phase }], guard := none }) rfl (fun K hK => ?_) (TillAll.nil)
    go_simp
    refine hK.out _ _ trivial (fun hHeld => ?_)
    clear hK K
    try simp only [Act.put, List.setIfInBounds_toArray, List.set_cons_zero, List.set_cons_succ]
    refine till_done (by kernel_rfl) ?_ _
    clear hHeld
    go_wp2_with fail
    have hrs := HLT.out
    have hs5 := HS4.out
    have hq2 := HQ2.out.lt (by simp)
    have hsz := HSZ.out
    have hA5 : Aside (fun x => x = w.heap.size) W4 (putL w5 w.heap.size 0 (cI ⟨⟨200, h, bd, keepH h.v h.fs⟩, .slice sa h.fs.length sc, .slice ra bd.length rc⟩)) := (Aside.of_all HB5.out).trans (aside_putL _ _ _)
    have hK5 := cel_put (cI ⟨⟨200, h, bd, keepH h.v h.fs⟩, .slice sa h.fs.length sc, .slice ra bd.length rc⟩) (HX4.out.below (by simp [zI]) HB5.out) rfl
    have hRf := HR4.out.aside hA5 (by omega) (fun x hx e => by cases hx)
    have hSf := sl_apart3 HF4.out hA5 (by
      rcases sl_in' HS.out with e2 | e2
      · exact .inl (by omega)
      · exact .inr (by rw [e2]; simp))
    have hOf := row_aside HP4.out hA5 (fun x hx e => by have := HSF.out x hx; omega)
    have hBf := HO4.out.aside hA5 (fun x hx e => by have := (HO4.out.lt x hx).1; omega)
    have hAf : Aside (fun x => x = r) w (putL w5 w.heap.size 0 (cI ⟨⟨200, h, bd, keepH h.v h.fs⟩, .slice sa h.fs.length sc, .slice ra bd.length rc⟩)) := HA4.out.onto hA5 (fun x hx _ e => by omega)
    obtain ⟨m0, m1, m2, m3, m4, m5, m6⟩ := hK5.seven
    have hone := h2.out hlt
    rw [HBD.out] at hone
    exact bodyPost_ret (v := .tuple #[vI ⟨⟨200, h, bd, keepH h.v h.fs⟩, .slice sa h.fs.length sc, .slice ra bd.length rc⟩, .bool true]) (by simp [results, Tryz.results35, go_sem, m0, m1, m2, m3, m4, m5, m6, vI]) rfl ⟨hAf, .inr ⟨⟨⟨200, h, bd, keepH h.v h.fs⟩, .slice sa h.fs.length sc, .slice ra bd.length rc⟩, q, .slice fa fn fc, hone, rfl, ⟨hOf, HR3.out.fl, fun x hx e => e.elim (fun e => HR3.out.fne x hx e) (HX9.out.2 x hx), hBf.mono (by omega), fun x hx e => by have h6 := (HO4.out.lt x hx).1; rcases e with e | e; omega; have := HX9.out.1 x e; omega⟩, ⟨_, _, _, _, _, hRf, fun x hx => by cases hx⟩, hSf⟩⟩
end Go.Proofs.YtkoohdacneflfaaGreatDoor
