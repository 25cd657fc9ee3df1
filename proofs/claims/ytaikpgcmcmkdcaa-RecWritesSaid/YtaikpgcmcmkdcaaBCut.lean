/-
  octet.Bytes.
-/
import Derived.Test.YtaikpgcmcmkdcaaBWords
import Derived.Test.YtaikpgcmcmkdcaaBGet
namespace Go.Proofs.Ytaikpgcmcmkdcaa
open Go.RowKit
set_option linter.unusedVariables false
set_option maxRecDepth 100000

/-- New bytes, and a number. -/
def PiecePost (w : World) (L : List Int) (E : Int) (e : Ending) (w' : World) : Prop :=
  ∃ v g, e = .returned (.tuple #[v, .int .i64 E]) ∧ Own w' g v L ∧ w.heap.size ≤ g ∧ g < w'.heap.size ∧ Below w.heap.size w w'

set_option maxHeartbeats 1000000 in
theorem piece_no (a : Option Addr) (len c p : Nat) (n : Int) (ha : a = none → len = 0) (hp : p ≤ len) (hl : len ≤ 1000000) (h0 : 0 < n) (h1 : n ≤ 9223372036854775807) (h : (len : Int) < p + n) (w : World) :
    Calls Try.prog 103 #[.slice a len c, .int .i64 p, .int .i64 n] w (NumBad w) := by
  obtain ⟨e1, e2, e3, e4, e5, hrun⟩ := idx_out a len c _ ha (out_wrap p len n hp hl h0 h1 h) w
  have HA := Lib.hid h1
  have HB := Lib.hid h
  clear h1 h ha
  go_enter Try.func103, Try.ntmps103
  go_wp2
  exact ⟨rfl, e1, e2, e3, e5, rfl, below_drewN (Below.refl _ _) _⟩

set_option maxHeartbeats 1000000 in
theorem piece_some {w : World} {lo hi c p m : Nat} {a : Option Addr} {l : List Int} (h : Sl w lo hi (.slice a l.length c) l) (hl : l.length ≤ 1000000) (hm : 0 < m) (hp : p + m ≤ l.length) :
    Calls Try.prog 103 #[.slice a l.length c, .int .i64 p, .int .i64 m] w (PiecePost w (cutL l p m) (p + m)) := by
  have hb1 : Below w.heap.size w (w.alloc (Obj.cells (Array.replicate m (Value.int IntKind.u8 0)) 5)) := (Below.refl _ _).alloc (Nat.le_refl _) _
  obtain ⟨b, off, rfl, hnews⟩ := h.news_cut hb1 p m hm hp
  have hcell : w.cell? ⟨b, off + (p + m - 1), none⟩ = some (.int .u8 (l.getD (p + m - 1) 0)) := by
    obtain ⟨a', c', he, hc, hn, hq⟩ := h
    injection he with e1 e2 e3
    obtain ⟨b', off', e4, _, _, hx⟩ := hq (by omega)
    rw [← e1] at e4
    injection e4 with e4
    injection e4 with e5 e6 e7
    subst e5; subst e6
    exact hx (p + m - 1) (by omega)
  have hcap : l.length ≤ c := by
    obtain ⟨a', c', he, hc, hn, hq⟩ := h
    injection he with e1 e2 e3
    omega
  obtain ⟨x, hx⟩ : ∃ x, x = l.getD (p + m - 1) 0 := ⟨_, rfl⟩
  rw [← hx] at hcell
  have hlc := cutL_len l p m hp
  obtain ⟨cs, hcs⟩ : ∃ cs, cs = (cutL l p m).map (Value.int .u8) := ⟨_, rfl⟩
  have hlen : cs.length = m := by rw [hcs]; simpa using hlc
  have hone : ∀ u ∈ cs, u.oneCell' = true := by rw [hcs]; exact ints_oneCell _ _
  rw [← hcs] at hnews
  obtain ⟨len, hle⟩ : ∃ len, len = l.length := ⟨_, rfl⟩
  rw [← hle] at hp hl hcap ⊢
  have HN := Lib.hid hnews
  have HO := Lib.hid hone
  have HC := Lib.hid hcs
  have HL := Lib.hid hlen
  have HLC := Lib.hid hlc
  have HB1 := Lib.hid hb1
  have hmk := fun wx => makeN m (by omega) wx
  have hcp : ¬ c = p := by omega
  clear hnews hone hcs hlen hb1 hlc h hx hle
  go_enter Try.func103, Try.ntmps103
  go_wp2_with (with_reducible refine wpList_copy_splice rfl (.tmp 20) (.tmp 23) 43 43 rfl 5 Try.underlying43 Try.size5 _ _ _ _ _ _ rfl rfl w.heap.size 0 (List.replicate m (Value.int .u8 0)) 5 ?c1 cs ?c2 ?c3 ?c4 HO.out w.heap.size w HB1.out (Nat.le_refl _) ?_)
  case c1 => rw [List.toArray_replicate]; exact heap_alloc_new w _
  case c2 => rw [HL.out]; exact (Nat.min_eq_right (by omega)).symm
  case c3 => exact fun h0 => HN.out
  case c4 => rw [HL.out]; simp
  rw [HL.out]
  intro w1 HG HB
  have hg : w1.heap[w.heap.size]? = some (.cells ((cutL l p m).map (Value.int .u8)).toArray 5 (0, 0)) := by
    have := HG.out
    rw [splice_all m cs _ HL.out, HC.out] at this
    exact this
  have hlt : w.heap.size < w1.heap.size := (Array.getElem?_eq_some_iff.mp hg).1
  have HB := Lib.hid HB
  have HG2 := Lib.hid hg
  clear hg HG hmk
  go_wp2_with fail
  go_ret2
  exact ⟨_, w.heap.size, rfl, .inr ⟨by rw [HLC.out]; rfl, HG2.out⟩, Nat.le_refl _, hlt, HB.out⟩

set_option maxHeartbeats 1000000 in
theorem piece_none (a : Option Addr) (len c p : Nat) (hc : len ≤ c) (hl : len ≤ 1000000) (hp : p ≤ len) (w : World) :
    Calls Try.prog 103 #[.slice a len c, .int .i64 p, .int .i64 0] w (PiecePost w [] p) := by
  have hmk := fun wx => makeN 0 (by omega) wx
  simp only [Int.natCast_zero, List.replicate_zero] at hmk
  have hbel : Below w.heap.size w (w.alloc (.cells #[] 5)) := (Below.refl _ _).alloc (Nat.le_refl _) _
  have HB := Lib.hid hbel
  clear hbel
  go_enter Try.func103, Try.ntmps103
  go_wp2_with (with_reducible refine wpList_copy_nothing rfl (.tmp 20) (.tmp 23) 43 43 rfl 5 Try.underlying43 Try.size5 _ _ _ _ _ _ rfl rfl (Nat.min_zero _) ?_)
  all_goals
    go_ret2
    exact ⟨_, w.heap.size, rfl, .inr ⟨rfl, heap_alloc_new w _⟩, Nat.le_refl _, by simp, HB.out⟩

theorem piece_fine {w : World} {lo hi c p m : Nat} {a : Option Addr} {l : List Int} (h : Sl w lo hi (.slice a l.length c) l) (hl : l.length ≤ 1000000) (hp : p + m ≤ l.length) :
    Calls Try.prog 103 #[.slice a l.length c, .int .i64 p, .int .i64 m] w (PiecePost w (cutL l p m) (p + m)) := by
  by_cases hm : 0 < m
  · exact piece_some h hl hm hp
  · obtain rfl : m = 0 := by omega
    obtain ⟨a', c', he, hc, _⟩ := h
    injection he with e1 e2 e3
    subst e3
    rw [cutL_none]
    simpa using piece_none a l.length c p hc hl (by omega) w

theorem catch_idle6 (p q : Addr) (w : World) :
    CallsD Try.prog 110 #[.pointer (some p), .pointer (some q)] .returning w fun e u' w' => e = .returned (.tuple #[]) ∧ u' = .returning ∧ w = w' := by
  refine callsD_of_wpS Try.func110 rfl fun c₀ cs hu => ?_
  simp only [Try.ntmps110, List.size_toArray, List.length_cons, List.length_nil, Nat.reduceAdd, Nat.reduceSub, Array.replicate_succ, Array.replicate_zero, List.push_toArray, List.append_toArray, List.nil_append, List.cons_append]
  apply wpS_seq
  apply wpS_region
  simp [wpOpsS, go_sem, recoverD, hu, Exit.thenS, ta_nil]
  refine wpS_of_wp ?_
  go_wp2
  cases c₀
  simp_all [bodyPostS, results, Try.results110]

theorem catch_panicking6 (p : Addr) (g : Nat) (a : Option Addr) (n k : Nat) (x y : Int) (s : Bool) (c : Int) (w : World) (hp : w.cell? p = some (.slice a n k)) (h0 : w.cell? ⟨g, 0, none⟩ = some (.int .i64 0)) (h1 : w.cell? ⟨g, 1, none⟩ = some (.int .i64 0)) (hf : ∀ j, w.frozen? ⟨g, j, none⟩ = false) :
    CallsD Try.prog 110 #[.pointer (some p), .pointer (some ⟨g, 0, none⟩)] (.panicking [{ v := .iface 8 (.agg #[.int .i64 x, .int .i64 y, .bool s, .int .u8 c]), recovered := false }]) w fun e u' w' =>
      e = .returned (.tuple #[]) ∧ u' = .panicking [{ v := .iface 8 (.agg #[.int .i64 x, .int .i64 y, .bool s, .int .u8 c]), recovered := true }] ∧ w' = (w.setCell ⟨g, 0, none⟩ (.int .i64 4)).setCell ⟨g, 1, none⟩ (.int .i64 n) := by
  refine callsD_of_wpS Try.func110 rfl fun c₀ cs hu => ?_
  simp only [Try.ntmps110, List.size_toArray, List.length_cons, List.length_nil, Nat.reduceAdd, Nat.reduceSub, Array.replicate_succ, Array.replicate_zero, List.push_toArray, List.append_toArray, List.nil_append, List.cons_append]
  apply wpS_seq
  apply wpS_region
  simp [wpOpsS, go_sem, recoverD, hu, Exit.thenS, ta_bounds]
  refine wpS_of_wp ?_
  go_wp2
  cases c₀
  simp_all [bodyPostS, results, Try.results110]

def BytesPost (w : World) (L : List Int) (E F A : Int) (e : Ending) (w' : World) : Prop :=
  ∃ v g, e = .returned (.tuple #[v, .int .i64 E, .agg #[.int .i64 F, .int .i64 A]]) ∧ Own w' g v L ∧ w.heap.size ≤ g ∧ g < w'.heap.size ∧ Below w.heap.size w w'

set_option maxHeartbeats 400000 in
theorem in33_fine {w : World} {a : Option Addr} {n c p m : Nat} {q : Addr} {L : List Int} {E : Int} (hq : w.cell? q = some (.int .i64 m)) (H : Calls Try.prog 103 #[.slice a n c, .int .i64 p, .int .i64 m] w (PiecePost w L E)) :
    Calls Try.prog 102 #[.slice a n c, .int .i64 p, .pointer (some q)] w (PiecePost w L E) := by
  have HH := Lib.hid H
  clear H
  go_enter Try.func102, Try.ntmps102
  go_wp2_with (go_at_call 103; refine HH.out.mono ?_; rintro e w1 ⟨v, g, rfl, h1, h2, h3, h4⟩; have H1 := Lib.hid h1; have H2 := Lib.hid h2; have H3 := Lib.hid h3; have H4 := Lib.hid h4; clear h1 h2 h3 h4)
  go_ret2
  exact ⟨v, g, rfl, H1.out, H2.out, H3.out, H4.out⟩

set_option maxHeartbeats 400000 in
theorem in33_short {w : World} {a : Option Addr} {n c p : Nat} {m : Int} {q : Addr} (hq : w.cell? q = some (.int .i64 m)) (H : Calls Try.prog 103 #[.slice a n c, .int .i64 p, .int .i64 m] w (NumBad w)) :
    Calls Try.prog 102 #[.slice a n c, .int .i64 p, .pointer (some q)] w (NumBad w) := by
  have HH := Lib.hid H
  clear H
  go_enter Try.func102, Try.ntmps102
  go_wp2_with (go_at_call 103; refine HH.out.mono ?_; rintro e w1 ⟨x, y, s, c1, rfl, hb⟩; have HB := Lib.hid hb; clear hb)
  exact ⟨rfl, x, y, s, c1, rfl, HB.out⟩

set_option maxHeartbeats 400000 in
theorem readb_out (a : Option Addr) (n c : Nat) (f : Value) (p : Int) (hp : p < 0 ∨ n < p) (w : World) : Calls Try.prog 101 #[.slice a n c, .int .i64 p, f] w (BytesPost w [] 0 5 0) := by
  have hmf : ∀ (fn : Fn) (first cap : Array Value) (w : World), (Instr.makeFunc fn first cap).run Try.prog w = .ok (.func fn first cap) w := fun _ _ _ _ => rfl
  go_enter_defers Try.func101, Try.ntmps101
  go_wp2
  all_goals
    simp [Leaves, bodyPostD, results, Try.results101, go_sem]
    exact ⟨_, w.heap.size, rfl, .inl ⟨rfl, rfl⟩, Nat.le_refl _, by simp; omega, ((Below.refl _ _).alloc (Nat.le_refl _) _).alloc (by simp) _⟩

set_option maxHeartbeats 1000000 in
theorem readb_ok (a : Option Addr) (n c p : Nat) (q : Addr) (L : List Int) (E : Int) (hp : p ≤ n) (w : World)
    (H : ∀ w0, Below w.heap.size w w0 → Calls Try.prog 102 #[.slice a n c, .int .i64 p, .pointer (some q)] w0 (PiecePost w0 L E)) :
    Calls Try.prog 101 #[.slice a n c, .int .i64 p, .func (.func 102) #[] #[.pointer (some q)]] w (BytesPost w L E 0 0) := by
  have hmf : ∀ (fn : Fn) (first cap : Array Value) (w : World), (Instr.makeFunc fn first cap).run Try.prog w = .ok (.func fn first cap) w := fun _ _ _ _ => rfl
  have hb0 : Below w.heap.size w ((w.alloc (.cells #[.slice a n c] 43)).alloc (.cells #[.int .i64 0, .int .i64 0] 54)) := ((Below.refl _ _).alloc (Nat.le_refl _) _).alloc (by simp) _
  have HB0 := Lib.hid hb0
  have HH := Lib.hid (H _ hb0)
  clear hb0 H
  go_enter_defers Try.func101, Try.ntmps101
  go_wp2_with (go_at_call 102; refine HH.out.mono ?_; rintro e w1 ⟨v, g, rfl, h1, h2, h3, hb⟩; simp only [World.size_alloc] at hb h2; have H1 := Lib.hid h1; have H2 := Lib.hid h2; have H3 := Lib.hid h3; have HB := Lib.hid hb; have hcell := read_cells hb; clear hb h1 h2 h3; obtain ⟨k0, k1, k2, k3⟩ := hcell)
  refine leaves_cons (f := 110) (args := #[.pointer (some ⟨w.heap.size, 0, none⟩), .pointer (some ⟨w.heap.size + 1, 0, none⟩)]) (by simp) (by simp [go_sem]) ?_
  refine (catch_idle6 ⟨w.heap.size, 0, none⟩ ⟨w.heap.size + 1, 0, none⟩ _).mono ?_
  rintro e u' w'' ⟨rfl, rfl, rfl⟩
  obtain ⟨m0, m1⟩ := res_set (.int .i64 0) (.int .i64 0) k1 k2
  simp [Leaves, settle, results, Try.results101, go_sem, m0, m1]
  have g2 := H2.out
  refine ⟨v, g, rfl, (H1.out.set (by simp; omega) _).set (by simp; omega) _, by omega, ?_, ((HB0.out.trans (HB.out.mono (by omega))).setCell (by simp) _).setCell (by simp) _⟩
  have := H3.out
  simpa [World.setCell] using this

set_option maxHeartbeats 1000000 in
theorem readb_no (a : Option Addr) (n c p : Nat) (q : Addr) (hp : p ≤ n) (w : World)
    (H : ∀ w0, Below w.heap.size w w0 → Calls Try.prog 102 #[.slice a n c, .int .i64 p, .pointer (some q)] w0 (NumBad w0)) :
    Calls Try.prog 101 #[.slice a n c, .int .i64 p, .func (.func 102) #[] #[.pointer (some q)]] w (BytesPost w [] 0 4 n) := by
  have hmf : ∀ (fn : Fn) (first cap : Array Value) (w : World), (Instr.makeFunc fn first cap).run Try.prog w = .ok (.func fn first cap) w := fun _ _ _ _ => rfl
  have hb0 : Below w.heap.size w ((w.alloc (.cells #[.slice a n c] 43)).alloc (.cells #[.int .i64 0, .int .i64 0] 54)) := ((Below.refl _ _).alloc (Nat.le_refl _) _).alloc (by simp) _
  have HB0 := Lib.hid hb0
  have HH := Lib.hid (H _ hb0)
  clear hb0 H
  go_enter_defers Try.func101, Try.ntmps101
  go_wp2_with (go_at_call 102; refine HH.out.mono ?_; rintro e w1 ⟨x, y, s, c1, rfl, hb⟩; simp only [World.size_alloc] at hb; have HB := Lib.hid hb; have hcell := read_cells hb; clear hb; obtain ⟨k0, k1, k2, k3⟩ := hcell)
  refine leaves_cons (f := 110) (args := #[.pointer (some ⟨w.heap.size, 0, none⟩), .pointer (some ⟨w.heap.size + 1, 0, none⟩)]) (by simp) (by simp [go_sem]) ?_
  refine (catch_panicking6 ⟨w.heap.size, 0, none⟩ (w.heap.size + 1) a n c x y s c1 _ k0 k1 k2 k3).mono ?_
  rintro e u' w'' ⟨rfl, rfl, rfl⟩
  obtain ⟨m0, m1⟩ := res_set (.int .i64 4) (.int .i64 n) k1 k2
  simp [Leaves, settle, results, Try.results101, go_sem, m0, m1]
  have hsz := HB.out.size
  simp only [World.size_alloc] at hsz
  refine ⟨_, w.heap.size, rfl, .inl ⟨rfl, rfl⟩, Nat.le_refl _, ?_, ((HB0.out.trans (HB.out.mono (by omega))).setCell (by simp) _).setCell (by simp) _⟩
  simp [World.setCell]
  omega

theorem read_cells' {w w1 : World} {v : Value} (hb : Below (w.heap.size + 1 + 1) ((w.alloc (.cells #[v] 3)).alloc (.cells #[.int .i64 0, .int .i64 0] 54)) w1) :
    w1.cell? ⟨w.heap.size + 1, 0, none⟩ = some (.int .i64 0) ∧ w1.cell? ⟨w.heap.size + 1, 1, none⟩ = some (.int .i64 0) ∧ ∀ j, w1.frozen? ⟨w.heap.size + 1, j, none⟩ = false := by
  refine ⟨(hb.cell (p := ⟨_, _, _⟩) (by simp)).trans ?_, (hb.cell (p := ⟨_, _, _⟩) (by simp)).trans ?_, fun j => (hb.frozen (p := ⟨_, _, _⟩) (by simp)).trans ?_⟩
  all_goals simp [go_sem]

def bytE (len : Nat) (t n : Int) : Int := if n < 0 then 2 else if t < 0 ∨ (len : Int) < t then 5 else if (len : Int) < t + n then 4 else 0

def bytA (len : Nat) (t n : Int) : Int := if 0 ≤ n ∧ 0 ≤ t ∧ t ≤ (len : Int) ∧ (len : Int) < t + n then len else 0

def bytF (len : Nat) (t n : Int) : Int := if 0 ≤ n ∧ 0 ≤ t ∧ t + n ≤ (len : Int) then t + n else 0

def bytL (l : List Int) (t n : Int) : List Int := if 0 ≤ n ∧ 0 ≤ t ∧ t + n ≤ (l.length : Int) then cutL l t.toNat n.toNat else []

set_option maxHeartbeats 400000 in
theorem bytes_arg (a : Option Addr) (n c : Nat) (t m : Int) (hm : m < 0) (w : World) : Calls Try.prog 89 #[.slice a n c, .int .i64 t, .int .i64 m] w (BytesPost w [] 0 2 0) := by
  go_enter Try.func89, Try.ntmps89
  go_wp2
  refine bodyPost_ret (v := .tuple #[.slice none 0 0, .int .i64 0, .agg #[.int .i64 2, .int .i64 0]]) (by simp [results, Try.results89, go_sem]) rfl ⟨_, w.heap.size, rfl, .inl ⟨rfl, rfl⟩, Nat.le_refl _, by simp; omega, ?_⟩
  exact ((Below.refl _ _).alloc (Nat.le_refl _) _).alloc (by simp) _

set_option maxHeartbeats 400000 in
theorem bytes_rest (a : Option Addr) (n c : Nat) (t m : Int) (L : List Int) (E F A : Int) (hm : 0 ≤ m) (w : World)
    (H : ∀ w0 q, Below w.heap.size w w0 → w0.cell? q = some (.int .i64 m) → Calls Try.prog 101 #[.slice a n c, .int .i64 t, .func (.func 102) #[] #[.pointer (some q)]] w0 (BytesPost w0 L E F A)) :
    Calls Try.prog 89 #[.slice a n c, .int .i64 t, .int .i64 m] w (BytesPost w L E F A) := by
  have hmf : ∀ (fn : Fn) (first cap : Array Value) (w : World), (Instr.makeFunc fn first cap).run Try.prog w = .ok (.func fn first cap) w := fun _ _ _ _ => rfl
  have hb0 : Below w.heap.size w ((w.alloc (.cells #[.int .i64 m] 3)).alloc (.cells #[.int .i64 0, .int .i64 0] 54)) := ((Below.refl _ _).alloc (Nat.le_refl _) _).alloc (by simp) _
  have HB0 := Lib.hid hb0
  have HH := Lib.hid (H _ ⟨w.heap.size, 0, none⟩ hb0 (by simp [go_sem]))
  clear hb0 H
  go_enter Try.func89, Try.ntmps89
  go_wp2_with (go_at_call 101; refine HH.out.mono ?_; rintro e w1 ⟨v, g, rfl, h1, h2, h3, hb⟩; simp only [World.size_alloc] at hb h2; have H1 := Lib.hid h1; have H2 := Lib.hid h2; have H3 := Lib.hid h3; have HB := Lib.hid hb; have hcell := read_cells' hb; clear hb h1 h2 h3; obtain ⟨k1, k2, k3⟩ := hcell)
  obtain ⟨m0, m1⟩ := res_set (.int .i64 F) (.int .i64 A) k1 k2
  have g2 := H2.out
  have g3 := H3.out
  refine bodyPost_ret (v := .tuple #[v, .int .i64 E, .agg #[.int .i64 F, .int .i64 A]]) (by simp [results, Try.results89, go_sem, m0, m1]) rfl
    ⟨v, g, rfl, (H1.out.set (by simp; omega) _).set (by simp; omega) _, by omega, by simpa [World.setCell] using g3, ((HB0.out.trans (HB.out.mono (by omega))).setCell (by simp) _).setCell (by simp) _⟩

theorem readb_any {w : World} {lo hi c : Nat} {a : Option Addr} {l : List Int} (h : Sl w lo hi (.slice a l.length c) l) (hl : l.length ≤ 1000000) (hhi : hi ≤ w.heap.size) (t m : Int) (h0 : 0 ≤ m) (h1 : m ≤ 9223372036854775807) (q : Addr) (hq : w.cell? q = some (.int .i64 m)) :
    Calls Try.prog 101 #[.slice a l.length c, .int .i64 t, .func (.func 102) #[] #[.pointer (some q)]] w (BytesPost w (bytL l t m) (bytF l.length t m) (bytE l.length t m) (bytA l.length t m)) := by
  have hn : a = none → l.length = 0 := by
    obtain ⟨a', c', he, hc, hn, _⟩ := h
    injection he with e1 e2 e3
    subst e1; subst e3
    intro ha
    have := hn ha
    omega
  by_cases h2 : t < 0 ∨ (l.length : Int) < t
  · have e1 : bytL l t m = [] := by unfold bytL; rw [if_neg (by omega)]
    have e2 : bytF l.length t m = 0 := by unfold bytF; rw [if_neg (by omega)]
    have e3 : bytE l.length t m = 5 := by unfold bytE; rw [if_neg (by omega), if_pos h2]
    have e4 : bytA l.length t m = 0 := by unfold bytA; rw [if_neg (by omega)]
    rw [e1, e2, e3, e4]
    exact readb_out a l.length c _ t h2 w
  · obtain ⟨p, rfl⟩ : ∃ p : Nat, t = p := ⟨t.toNat, by omega⟩
    by_cases h3 : (p : Int) + m ≤ l.length
    · obtain ⟨k, rfl⟩ : ∃ k : Nat, m = k := ⟨m.toNat, by omega⟩
      have e1 : bytL l p k = cutL l p k := by unfold bytL; rw [if_pos (by omega), Int.toNat_natCast, Int.toNat_natCast]
      have e2 : bytF l.length p k = p + k := by unfold bytF; rw [if_pos (by omega)]
      have e3 : bytE l.length p k = 0 := by unfold bytE; rw [if_neg (by omega), if_neg h2, if_neg (by omega)]
      have e4 : bytA l.length p k = 0 := by unfold bytA; rw [if_neg (by omega)]
      rw [e1, e2, e3, e4]
      exact readb_ok a l.length c p q _ _ (by omega) w fun w0 hw => in33_fine (cell_later hw hq) (piece_fine (h.below hw hhi) hl (by omega))
    · have e1 : bytL l p m = [] := by unfold bytL; rw [if_neg (by omega)]
      have e2 : bytF l.length p m = 0 := by unfold bytF; rw [if_neg (by omega)]
      have e3 : bytE l.length p m = 4 := by unfold bytE; rw [if_neg (by omega), if_neg h2, if_pos (by omega)]
      have e4 : bytA l.length p m = l.length := by unfold bytA; rw [if_pos (by omega)]
      rw [e1, e2, e3, e4]
      exact readb_no a l.length c p q (by omega) w fun w0 hw => in33_short (cell_later hw hq) (piece_no a l.length c p m hn (by omega) hl (by omega) h1 (by omega) w0)

theorem bytes_any {w : World} {lo hi : Nat} {v : Value} {l : List Int} (h : Sl w lo hi v l) (hl : l.length ≤ 1000000) (hhi : hi ≤ w.heap.size) (t m : Int) (h1 : m ≤ 9223372036854775807) :
    Calls Try.prog 89 #[v, .int .i64 t, .int .i64 m] w (BytesPost w (bytL l t m) (bytF l.length t m) (bytE l.length t m) (bytA l.length t m)) := by
  have hs := h
  obtain ⟨a, c, rfl, _⟩ := h
  by_cases h0 : m < 0
  · have e1 : bytL l t m = [] := by unfold bytL; rw [if_neg (by omega)]
    have e2 : bytF l.length t m = 0 := by unfold bytF; rw [if_neg (by omega)]
    have e3 : bytE l.length t m = 2 := by unfold bytE; rw [if_pos h0]
    have e4 : bytA l.length t m = 0 := by unfold bytA; rw [if_neg (by omega)]
    rw [e1, e2, e3, e4]
    exact bytes_arg a l.length c t m h0 w
  · exact bytes_rest a l.length c t m _ _ _ _ (by omega) w fun w0 q hw hq => readb_any (hs.below hw hhi) hl (Nat.le_trans hhi hw.size) t m (by omega) h1 q hq

theorem bytes_at (l : List Int) (p k : Nat) (hl : l.length ≤ 1000000) (h : p + k ≤ l.length) :
    ∀ wx {lo hi : Nat} {v : Value}, Sl wx lo hi v l → Calls Try.prog 89 #[v, .int .i64 p, .int .i64 k] wx (BytesPost wx (cutL l p k) (p + k) 0 0) := fun wx _ _ _ hs => by
  have e1 : bytL l p k = cutL l p k := by unfold bytL; rw [if_pos (by omega), Int.toNat_natCast, Int.toNat_natCast]
  have e2 : bytF l.length p k = p + k := by unfold bytF; rw [if_pos (by omega)]
  have e3 : bytE l.length p k = 0 := by unfold bytE; rw [if_neg (by omega), if_neg (by omega), if_neg (by omega)]
  have e4 : bytA l.length p k = 0 := by unfold bytA; rw [if_neg (by omega)]
  have := bytes_any hs.top hl (Nat.le_refl _) p k (by omega)
  rw [e1, e2, e3, e4] at this
  exact this

theorem bytes_at_no (l : List Int) (p k : Nat) (hl : l.length ≤ 1000000) (h : p ≤ l.length) (h1 : l.length < p + k) (h2 : k ≤ 1000000 := by omega) :
    ∀ wx {lo hi : Nat} {v : Value}, Sl wx lo hi v l → Calls Try.prog 89 #[v, .int .i64 p, .int .i64 k] wx (BytesPost wx [] 0 4 l.length) := fun wx _ _ _ hs => by
  have e1 : bytL l p k = [] := by unfold bytL; rw [if_neg (by omega)]
  have e2 : bytF l.length p k = 0 := by unfold bytF; rw [if_neg (by omega)]
  have e3 : bytE l.length p k = 4 := by unfold bytE; rw [if_neg (by omega), if_neg (by omega), if_pos (by omega)]
  have e4 : bytA l.length p k = l.length := by unfold bytA; rw [if_pos (by omega)]
  have := bytes_any hs.top hl (Nat.le_refl _) p k (by omega)
  rw [e1, e2, e3, e4] at this
  exact this

theorem bytL_len (l : List Int) (t n : Int) : (bytL l t n).length ≤ l.length := by
  unfold bytL cutL
  split
  · rw [List.length_take, List.length_drop]; omega
  · simp
end Go.Proofs.Ytaikpgcmcmkdcaa
