/-
  What a message says besides, plainly: options as bytes and back, what is told of a message, what is put into it, what is left of it.
-/
import Derived.Test.YtpdaekgldgoalaaGreatV09
import Derived.Test.YtpdaekgldgoalaaGreatV01
import Derived.Test.YtpdaekgldgoalaaGreatV06
import Derived.Test.YtpdaekgldgoalaaGreatV03
import Derived.Test.YtpdaekgldgoalaaGreatV07
import Derived.Test.YtpdaekgldgoalaaGreatV08
import Derived.Laws.OwnMore
import Derived.Outline
import Derived.Test.YtpdaekgldgoalaaGreatV02
import Derived.Deep.RegionHeld3
import Derived.Test.YtpdaekgldgoalaaGreatV00
namespace Go.Proofs.YtpdaekgldgoalaaGreat
open Go.RowKit Go.Shelf
set_option linter.unusedVariables false
set_option linter.unusedSimpArgs false
set_option maxRecDepth 100000

/-- An option: its code, its data. -/
structure Ot where
  c : Int
  d : List UInt8
/-- What is said besides: how many bytes, the code's upper part, a version, a flag, options. -/
structure Ed where
  s : Int
  x : Int
  v : Int
  b : Bool
  o : List Ot
def ed0 : Ed := ⟨0, 0, 0, false, []⟩

/-! ### options as bytes, and back -/

def b2 (n : Int) : List UInt8 := [UInt8.ofNat (n / 256).toNat, UInt8.ofNat (n % 256).toNat]
/-- An option's bytes. -/
def otB (x : Ot) : List UInt8 := b2 x.c ++ (b2 x.d.length ++ x.d)
def otsB (l : List Ot) : List UInt8 := l.flatMap otB
/-- The number of two bytes. -/
def n2 (b : List UInt8) (p : Nat) : Nat := (b.getD p 0).toNat * 256 + (b.getD (p + 1) 0).toNat
/-- How an option at a place is read: what it is, and where it ends; or where there is too little. -/
inductive OtR where
  | ok (x : Ot) (q : Nat)
  | bad (a : Nat)
def otR (b : List UInt8) (p : Nat) : OtR :=
  if b.length < p + 4 then .bad b.length
  else if b.length < p + 4 + n2 b (p + 2) then .bad b.length
  else .ok ⟨n2 b p, (b.drop (p + 4)).take (n2 b (p + 2))⟩ (p + 4 + n2 b (p + 2))
/-- The options from a place on; and whether they end in a fault. -/
def otsR (b : List UInt8) : Nat → Nat → List Ot × Bool
  | 0, _ => ([], true)
  | n + 1, p =>
    if b.length ≤ p then ([], true) else
      match otR b p with
      | .bad _ => ([], false)
      | .ok x q => (x :: (otsR b n q).1, (otsR b n q).2)

theorem otR_lt {b : List UInt8} {p : Nat} {x : Ot} {q : Nat} (h : otR b p = .ok x q) : p + 4 ≤ q ∧ q ≤ b.length := by
  unfold otR at h
  split at h
  · cases h
  · split at h
    · cases h
    · injection h with h1 h2
      omega

/-! ### records -/

def isO (x : Rc) : Bool := decide (x.t = 41)
def opL (l : List Rc) : List Rc := l.filter isO
def noL (l : List Rc) : List Rc := l.filter fun x => !isO x
/-- What a record of the type says: what, and the error. -/
def recE (x : Rc) : Ed × Int :=
  if x.n = [0] ∧ (0 ≤ x.c ∧ x.c ≤ 65535) ∧ (0 ≤ x.l ∧ x.l ≤ 2147483647) ∧ (otsR x.d x.d.length 0).2 = true then
    (⟨x.c, x.l / 16777216, x.l / 65536 % 256, decide (x.l / 32768 % 2 = 1), (otsR x.d x.d.length 0).1⟩, 0)
  else (ed0, 4)
/-- What a message says besides: what; whether; the error. -/
def ofM (m : Ms) : Ed × Bool × Int :=
  if (opL m.an).length + (opL m.ns).length = 0 ∧ opL m.ar = [] then (ed0, false, 0)
  else match (opL m.an).length + (opL m.ns).length, opL m.ar with
    | 0, [x] => ((recE x).1, decide ((recE x).2 = 0), (recE x).2)
    | _, _ => (ed0, false, 4)
/-- A message without that. -/
def stM (m : Ms) : Ms := ⟨m.id, m.fl, m.q, noL m.an, noL m.ns, noL m.ar⟩
/-- The record of what is said. -/
def edR (e : Ed) : Rc := ⟨[0], 41, e.s, e.x * 16777216 + e.v * 65536 + (if e.b then 32768 else 0), otsB e.o⟩
/-- May it be said? -/
def bnd (n m : Int) : Bool := decide (0 ≤ n) && decide (n ≤ m)
def szO (l : List Ot) : Nat := (l.map fun x => 4 + x.d.length).sum
def chkE (e : Ed) : Int :=
  if bnd e.s 65535 = true ∧ bnd e.x 127 = true ∧ bnd e.v 255 = true ∧ (e.o.all fun x => bnd x.c 65535) = true then (if 65535 < szO e.o then 2 else 0) else 5
/-- A message that says it. -/
def adM (m : Ms) (e : Ed) : Ms := ⟨m.id, m.fl, m.q, m.an, m.ns, m.ar ++ [edR e]⟩
def puM (m : Ms) (e : Ed) : Ms × Int :=
  if chkE e ≠ 0 then (⟨0, 0, [], [], [], []⟩, chkE e)
  else if 0 < (opL m.an).length + (opL m.ns).length + (opL m.ar).length then (⟨0, 0, [], [], [], []⟩, 7)
  else (adM m e, 0)
def codM (m : Ms) : Int := m.fl % 16 + 16 * (ofM m).1.x
def roM (m : Ms) : Int := if 512 ≤ (ofM m).1.s then (ofM m).1.s else 512

/-! ### in memory -/

/-- The cells of an option. -/
def co (x : Ot) : List Value := [.int .i64 x.c, .string (bs x.d)]
def aco (l : List Ot) : List Value := l.flatMap co
theorem aco_len (l : List Ot) : (aco l).length = l.length * 2 := flat_len (f := co) (k := 2) (fun _ => rfl) l
theorem aco_app (l m : List Ot) : aco (l ++ m) = aco l ++ aco m := List.flatMap_append
theorem aco_one (l : List Ot) : ∀ u ∈ aco l, u.oneCell' = true := flat_one (fun x u hu => by
  simp only [co, List.mem_cons, List.mem_nil_iff, or_false] at hu
  rcases hu with rfl | rfl <;> rfl) l
def AtO (w : World) (b o : Nat) (x : Ot) : Prop := w.cell? ⟨b, o, none⟩ = some (.int .i64 x.c) ∧ w.cell? ⟨b, o + 1, none⟩ = some (.string (bs x.d))
theorem AtO.keep {w w' : World} {b o : Nat} {x : Ot} (h : AtO w b o x) (hk : ∀ o, w'.cell? ⟨b, o, none⟩ = w.cell? ⟨b, o, none⟩) : AtO w' b o x := ⟨(hk _).trans h.1, (hk _).trans h.2⟩
/-- The slice v reads as these options. -/
def SO (w : World) (hi : Nat) (v : Value) (l : List Ot) : Prop := Lst w hi v l.length (aco l)
/-- A row of options of the call's own. -/
def OwnO (w : World) (B : Nat) (v : Value) (l : List Ot) : Prop := w.ownsRow B 58 2 v l.length (aco l)
theorem SO.at_ {w : World} {hi : Nat} {v : Value} {l : List Ot} (h : SO w hi v l) (j : Nat) (hj : j < l.length) : ∃ b off c, v = .slice (some ⟨b, off, none⟩) l.length c ∧ b < hi ∧ AtO w b (off + j * 2) l[j] := by
  obtain ⟨a, c, rfl, _, _, hx⟩ := h
  obtain ⟨b, off, rfl, h1, h2⟩ := hx (by omega)
  have e := fun i u hu => h2 _ _ (flat_at (f := co) (k := 2) (fun _ => rfl) l j hj i u hu)
  simp only [← Nat.add_assoc] at e
  exact ⟨b, off, c, rfl, h1, e 0 _ rfl, e 1 _ rfl⟩
/-- The value v reads as what is said besides. -/
def Eg (w : World) (hi : Nat) (v : Value) (e : Ed) : Prop := ∃ o, v = .agg #[.int .i64 e.s, .int .i64 e.x, .int .i64 e.v, .bool e.b, o] ∧ SO w hi o e.o
theorem Eg.below {w w' : World} {hi B : Nat} {v : Value} {e : Ed} (h : Eg w hi v e) (hb : Below B w w') (hB : hi ≤ B) : Eg w' hi v e := by
  obtain ⟨o, rfl, h1⟩ := h
  exact ⟨o, rfl, Lst.below h1 hb hB⟩
theorem Eg.wide {w : World} {hi hi' : Nat} {v : Value} {e : Ed} (h : Eg w hi v e) (hh : hi ≤ hi') : Eg w hi' v e := by
  obtain ⟨o, rfl, h1⟩ := h
  exact ⟨o, rfl, Lst.wide h1 hh⟩
theorem Eg.later {w w' : World} {v : Value} {e : Ed} (h : Eg w w.heap.size v e) (hb : Below w.heap.size w w') : Eg w' w'.heap.size v e := (h.below hb (Nat.le_refl _)).wide hb.size
/-- The value v is what is said besides, its options in a row of the call's own. -/
def Egw (w : World) (B : Nat) (v : Value) (e : Ed) : Prop := ∃ o, v = .agg #[.int .i64 e.s, .int .i64 e.x, .int .i64 e.v, .bool e.b, o] ∧ OwnO w B o e.o
theorem Egw.eg {w : World} {B : Nat} {v : Value} {e : Ed} (h : Egw w B v e) (hl : e.o.length ≤ 1000000) : Eg w w.heap.size v e := by
  obtain ⟨o, rfl, h1⟩ := h
  exact ⟨o, rfl, Lst.own h1 hl⟩
theorem Egw.aside {G : Nat → Prop} {w w' : World} {B : Nat} {v : Value} {e : Ed} (h : Egw w B v e) (ha : Aside G w w') (hG : ∀ k, B ≤ k → ¬ G k) : Egw w' B v e := by
  obtain ⟨o, rfl, h1⟩ := h
  exact ⟨o, rfl, row_aside h1 ha fun k hk => hG k (World.ownsRow.lt h1 k hk).1⟩
theorem Egw.below {w w' : World} {B : Nat} {v : Value} {e : Ed} (h : Egw w B v e) (hb : Below w.heap.size w w') : Egw w' B v e := h.aside (Aside.of_all hb : Aside (fun _ => False) w w') fun _ _ h => h
theorem Egw.base {w : World} {B B' : Nat} {v : Value} {e : Ed} (h : Egw w B v e) (hB : B' ≤ B) : Egw w B' v e := by
  obtain ⟨o, rfl, h1⟩ := h
  refine ⟨o, rfl, h1.1, ?_⟩
  rcases h1.2 with h2 | ⟨g, cap, cur, h2⟩
  · exact .inl h2
  · exact .inr ⟨g, cap, cur, h2.1, Nat.le_trans hB h2.2.1, h2.2.2⟩
theorem egw_zero (w : World) (B : Nat) : Egw w B (.agg #[.int .i64 0, .int .i64 0, .int .i64 0, .bool false, .slice none 0 0]) ed0 := ⟨_, rfl, World.ownsRow_nil _ _ _ _⟩

theorem neqO (x : Ot) (w : World) : (binOp .neq 58 (.agg #[.int .i64 x.c, .string (bs x.d)]) (.agg #[.int .i64 x.c, .string (bs x.d)])).run Tryz.prog w = .ok (.bool false) w := by
  have hS : Tryz.prog.underlying 58 = some (.struct (Tryz.prog.fieldsOf 58)) := by kernel_rfl
  have hI : Tryz.prog.stoodInHeld 58 = false := by kernel_rfl
  have u3 := Tryz.underlying3
  have u9 := Tryz.underlying9
  have a3 := Tryz.isAgg3
  have z3 := Tryz.sizeOf3
  have a9 := Tryz.isAgg9
  have z9 := Tryz.sizeOf9
  rw [run_neq_struct, run_equalIn_agg _ _ _ _ _ hS hI]
  simp only [Program.fieldsOf, Tryz.underlying58]
  go_simp

theorem info_ot : (Tryz.prog.info? 58).map (fun i => (i.zero, i.size, i.bytes)) = some (some (.agg #[.int .i64 0, .string ⟨#[]⟩]), 2, 24) := by kernel_rfl
end Go.Proofs.YtpdaekgldgoalaaGreat

/-
  Two readings of the same message are told the same.
-/
namespace Go.Proofs.YtpdaekgldgoalaaGreat
open Go.RowKit Go.Shelf
set_option linter.unusedVariables false
set_option linter.unusedSimpArgs false
set_option maxRecDepth 100000

set_option maxHeartbeats 1000000 in
theorem sameQ_yes {w : World} {hi hi' : Nat} {u v : Value} {l : List Qn} (h : SQ w hi u l) (h' : SQ w hi' v l) (h1 : hi ≤ w.heap.size) (h2 : hi' ≤ w.heap.size) :
    Calls Tryz.prog 25 #[u, v] w (Tells w (.bool true)) := by
  have HN := Lib.hid (Lst.len h)
  have HS := Lib.hid h
  have HS' := Lib.hid h'
  obtain ⟨a, c, rfl⟩ := Lst.shape h
  obtain ⟨a', c', rfl⟩ := Lst.shape h'
  have HB0 := Lib.hid (Below.refl w.heap.size w)
  clear h h'
  go_enter Tryz.func25, Tryz.ntmps25
  go_wp2
  go_loopg [5] l.length (fun g v5 wr => ∃ k : Nat, k + g = l.length ∧ v5 = .int .i64 k ∧ Hid (Below w.heap.size w wr))
  case atStart => exact ⟨0, by omega, rfl, HB0⟩
  case round =>
    clear HB0
    obtain ⟨k, hk, rfl, HB⟩ := hrel
    have hlen := HN.out
    by_cases hlt : k < l.length
    · obtain ⟨b, off, c2, he, hb, hc⟩ := HS.out.at_ k hlt
      obtain ⟨b', off', c2', he', hb', hc'⟩ := HS'.out.at_ k hlt
      injection he with he hn3 hc3
      injection he' with he' hn3' hc3'
      clear hn3 hc3 hn3' hc3'
      subst he; subst he'
      obtain ⟨c0, c1, c2⟩ := hc.keep fun o => HB.out.cell (p := ⟨b, o, none⟩) (Nat.lt_of_lt_of_le hb h1)
      obtain ⟨d0, d1, d2⟩ := hc'.keep fun o => HB.out.cell (p := ⟨b', o, none⟩) (Nat.lt_of_lt_of_le hb' h2)
      have HE := fun wx => neqQ l[k] wx
      obtain ⟨x, hx⟩ : ∃ x, l[k] = x := ⟨_, rfl⟩
      rw [hx] at c0 c1 c2 d0 d1 d2 HE
      have HB2 := Lib.hid (fun n => below_drewN HB.out n)
      clear hc hc' hx HB
      go_wp2_with fail
      go_quiet (fail)
      go_wp2_with fail
      go_roundg (l.length - (k + 1))
      case measure => omega
      case rel => exact ⟨k + 1, by omega, by go_num, HB2.out _⟩
    · have t1 : ¬ ((k : Int) < l.length) := by omega
      go_wp2_with fail
      go_ret
      exact ⟨rfl, HB.out⟩
set_option maxHeartbeats 1000000 in
theorem sameR_yes {w : World} {hi hi' : Nat} {u v : Value} {l : List Rc} (h : SR w hi u l) (h' : SR w hi' v l) (h1 : hi ≤ w.heap.size) (h2 : hi' ≤ w.heap.size) :
    Calls Tryz.prog 18 #[u, v] w (Tells w (.bool true)) := by
  have HN := Lib.hid (Lst.len h)
  have HS := Lib.hid h
  have HS' := Lib.hid h'
  obtain ⟨a, c, rfl⟩ := Lst.shape h
  obtain ⟨a', c', rfl⟩ := Lst.shape h'
  have HB0 := Lib.hid (Below.refl w.heap.size w)
  clear h h'
  go_enter Tryz.func18, Tryz.ntmps18
  go_wp2
  go_loopg [5] l.length (fun g v5 wr => ∃ k : Nat, k + g = l.length ∧ v5 = .int .i64 k ∧ Hid (Below w.heap.size w wr))
  case atStart => exact ⟨0, by omega, rfl, HB0⟩
  case round =>
    clear HB0
    obtain ⟨k, hk, rfl, HB⟩ := hrel
    have hlen := HN.out
    by_cases hlt : k < l.length
    · obtain ⟨b, off, c9, he, hb, hc⟩ := HS.out.at_ k hlt
      obtain ⟨b', off', c9', he', hb', hc'⟩ := HS'.out.at_ k hlt
      injection he with he hn3 hc3
      injection he' with he' hn3' hc3'
      clear hn3 hc3 hn3' hc3'
      subst he; subst he'
      obtain ⟨c0, c1, c2, c3, c4⟩ := hc.keep fun o => HB.out.cell (p := ⟨b, o, none⟩) (Nat.lt_of_lt_of_le hb h1)
      obtain ⟨d0, d1, d2, d3, d4⟩ := hc'.keep fun o => HB.out.cell (p := ⟨b', o, none⟩) (Nat.lt_of_lt_of_le hb' h2)
      have HE := fun wx => neqR l[k] wx
      obtain ⟨x, hx⟩ : ∃ x, l[k] = x := ⟨_, rfl⟩
      rw [hx] at c0 c1 c2 c3 c4 d0 d1 d2 d3 d4 HE
      have HB2 := Lib.hid (fun n => below_drewN HB.out n)
      clear hc hc' hx HB
      go_wp2_with fail
      go_quiet (fail)
      go_wp2_with fail
      go_roundg (l.length - (k + 1))
      case measure => omega
      case rel => exact ⟨k + 1, by omega, by go_num, HB2.out _⟩
    · have t1 : ¬ ((k : Int) < l.length) := by omega
      go_wp2_with fail
      go_ret
      exact ⟨rfl, HB.out⟩

theorem cel_new6 (w : World) (a b c d e f : Value) (T : TypeId) : Cel (w.alloc (.cells #[a, b, c, d, e, f] T)) w.heap.size [a, b, c, d, e, f] := ⟨fun j hj => by
    match j, hj with
    | 0, _ => simp [go_sem]
    | 1, _ => simp [go_sem]
    | 2, _ => simp [go_sem]
    | 3, _ => simp [go_sem]
    | 4, _ => simp [go_sem]
    | 5, _ => simp [go_sem], fun j => by simp [go_sem]⟩
theorem Cel.six {w : World} {q : Nat} {a b c d e f : Value} (h : Cel w q [a, b, c, d, e, f]) : w.cell? ⟨q, 0, none⟩ = some a ∧ w.cell? ⟨q, 1, none⟩ = some b ∧ w.cell? ⟨q, 2, none⟩ = some c ∧ w.cell? ⟨q, 3, none⟩ = some d ∧ w.cell? ⟨q, 4, none⟩ = some e ∧ w.cell? ⟨q, 5, none⟩ = some f :=
  ⟨h.c 0 (by simp), h.c 1 (by simp), h.c 2 (by simp), h.c 3 (by simp), h.c 4 (by simp), h.c 5 (by simp)⟩

set_option maxHeartbeats 4000000 in
theorem sameM_yes {w : World} {hi hi' : Nat} {u v : Value} {m : Ms} (h : Mg w hi u m) (h' : Mg w hi' v m) (h1 : hi ≤ w.heap.size) (h2 : hi' ≤ w.heap.size) :
    Calls Tryz.prog 11 #[u, v] w (Tells w (.bool true)) := by
  obtain ⟨q, a, n, r, rfl, k1, k2, k3, k4⟩ := h
  obtain ⟨q', a', n', r', rfl, k1', k2', k3', k4'⟩ := h'
  have HQ := Lib.hid (fun wx (hb : Below w.heap.size w wx) => sameQ_yes (Lst.below k1 hb h1) (Lst.below k1' hb h2) (Nat.le_trans h1 hb.size) (Nat.le_trans h2 hb.size))
  have HA := Lib.hid (fun wx (hb : Below w.heap.size w wx) => sameR_yes (Lst.below k2 hb h1) (Lst.below k2' hb h2) (Nat.le_trans h1 hb.size) (Nat.le_trans h2 hb.size))
  have HN := Lib.hid (fun wx (hb : Below w.heap.size w wx) => sameR_yes (Lst.below k3 hb h1) (Lst.below k3' hb h2) (Nat.le_trans h1 hb.size) (Nat.le_trans h2 hb.size))
  have HR := Lib.hid (fun wx (hb : Below w.heap.size w wx) => sameR_yes (Lst.below k4 hb h1) (Lst.below k4' hb h2) (Nat.le_trans h1 hb.size) (Nat.le_trans h2 hb.size))
  obtain ⟨i0, hi0⟩ : ∃ i, m.id = i := ⟨_, rfl⟩
  obtain ⟨i1, hi1⟩ : ∃ i, m.fl = i := ⟨_, rfl⟩
  rw [hi0, hi1]
  have HX := Lib.hid ((cel_new6 w (.int .i64 i0) (.int .i64 i1) q a n r 25).below (by simp) ((Below.refl _ _).alloc (Nat.le_refl _) (.cells #[.int .i64 i0, .int .i64 i1, q', a', n', r'] 25)))
  have HY := Lib.hid (cel_new6 (w.alloc (.cells #[.int .i64 i0, .int .i64 i1, q, a, n, r] 25)) (.int .i64 i0) (.int .i64 i1) q' a' n' r' 25)
  have HB := Lib.hid (((Below.refl w.heap.size w).alloc (Nat.le_refl _) (.cells #[.int .i64 i0, .int .i64 i1, q, a, n, r] 25)).alloc (by simp) (.cells #[.int .i64 i0, .int .i64 i1, q', a', n', r'] 25))
  rw [World.size_alloc] at HY
  obtain ⟨c0, c1, c2, c3, c4, c5⟩ := HX.out.six
  obtain ⟨d0, d1, d2, d3, d4, d5⟩ := HY.out.six
  clear k1 k2 k3 k4 k1' k2' k3' k4' hi0 hi1
  go_enter Tryz.func11, Tryz.ntmps11
  go_wp2_with fail
  refine (HQ.out _ HB.out).mono ?_; rintro e w1 ⟨rfl, hb⟩
  replace HB := Lib.hid (bel_call HB.out hb)
  replace HX := Lib.hid (HX.out.below (by simp) hb)
  replace HY := Lib.hid (HY.out.below (by simp) hb)
  clear c0 c1 c2 c3 c4 c5 d0 d1 d2 d3 d4 d5 hb
  obtain ⟨c0, c1, c2, c3, c4, c5⟩ := HX.out.six
  obtain ⟨d0, d1, d2, d3, d4, d5⟩ := HY.out.six
  go_wp2_with fail
  refine (HA.out _ HB.out).mono ?_; rintro e w2 ⟨rfl, hb⟩
  replace HB := Lib.hid (bel_call HB.out hb)
  replace HX := Lib.hid (HX.out.below (by simp) hb)
  replace HY := Lib.hid (HY.out.below (by simp) hb)
  clear c0 c1 c2 c3 c4 c5 d0 d1 d2 d3 d4 d5 hb
  obtain ⟨c0, c1, c2, c3, c4, c5⟩ := HX.out.six
  obtain ⟨d0, d1, d2, d3, d4, d5⟩ := HY.out.six
  go_wp2_with fail
  refine (HN.out _ HB.out).mono ?_; rintro e w3 ⟨rfl, hb⟩
  replace HB := Lib.hid (bel_call HB.out hb)
  replace HX := Lib.hid (HX.out.below (by simp) hb)
  replace HY := Lib.hid (HY.out.below (by simp) hb)
  clear c0 c1 c2 c3 c4 c5 d0 d1 d2 d3 d4 d5 hb
  obtain ⟨c0, c1, c2, c3, c4, c5⟩ := HX.out.six
  obtain ⟨d0, d1, d2, d3, d4, d5⟩ := HY.out.six
  go_wp2_with fail
  refine (HR.out _ HB.out).mono ?_; rintro e w4 ⟨rfl, hb⟩
  replace HB := Lib.hid (bel_call HB.out hb)
  replace HX := Lib.hid (HX.out.below (by simp) hb)
  replace HY := Lib.hid (HY.out.below (by simp) hb)
  clear c0 c1 c2 c3 c4 c5 d0 d1 d2 d3 d4 d5 hb
  obtain ⟨c0, c1, c2, c3, c4, c5⟩ := HX.out.six
  obtain ⟨d0, d1, d2, d3, d4, d5⟩ := HY.out.six
  go_wp2_with fail
  go_ret
  exact ⟨rfl, HB.out⟩
end Go.Proofs.YtpdaekgldgoalaaGreat

/-
  What the program writes and what the document's own text writes: the walk.
-/
namespace Go.Proofs.YtpdaekgldgoalaaGreat
open Go.RowKit Go.Shelf
set_option linter.unusedVariables false
set_option linter.unusedSimpArgs false
set_option maxRecDepth 100000

theorem wrL_next (a : Int) : ∀ (L : List Pc) (K : KK) (e : Nat) (acc : List UInt8), GoodK K → e ≤ 66000 → GoodK (wrL a L K e acc).K ∧ (wrL a L K e acc).K.length ≤ K.length + 127 * L.length ∧ (wrL a L K e acc).e ≤ 66000
  | [], K, e, acc, hG, he => ⟨hG, by simp [wrL], he⟩
  | x :: L, K, e, acc, hG, he => by
    rw [wrL]
    split
    · split
      · exact ⟨hG, by simp, he⟩
      · have h1 := nameK_good (e := e) (a := wrap64 (a + acc.length)) (n := x.1) hG
        obtain ⟨g1, g2, g3⟩ := wrL_next a L (nameK K e (wrap64 (a + acc.length)) x.1) (nameE K e (wrap64 (a + acc.length)) x.1) (acc ++ nameB K e (wrap64 (a + acc.length)) x.1) h1.1 (by omega)
        exact ⟨g1, by rw [List.length_cons]; omega, g3⟩
    · obtain ⟨g1, g2, g3⟩ := wrL_next a L K e (acc ++ x.1) hG he
      exact ⟨g1, by rw [List.length_cons]; omega, g3⟩

theorem wrR_next {K : KK} {e : Nat} (a t : Int) (d : List UInt8) (hG : GoodK K) (he : e ≤ 66000) : GoodK (wrR a t d K e).K ∧ (wrR a t d K e).K.length ≤ K.length + 400 ∧ (wrR a t d K e).e ≤ 66000 := by
  unfold wrR
  rcases hs : spl t d with L | ⟨c, aa⟩
  · obtain ⟨_, _, _, hf, _⟩ := spl_ok hs
    have h1 := fits_len hf
    have h2 := (kinds_small t).1
    obtain ⟨g1, g2, g3⟩ := wrL_next a L K e [] hG he
    exact ⟨g1, by simp only; omega, g3⟩
  · exact ⟨hG, by simp, he⟩

end Go.Proofs.YtpdaekgldgoalaaGreat

/-
  What the program writes of records and questions and what the document's own text writes: the walk.
-/
namespace Go.Proofs.YtpdaekgldgoalaaGreat
open Go.RowKit Go.Shelf
set_option linter.unusedVariables false
set_option linter.unusedSimpArgs false
set_option maxRecDepth 100000

theorem wrT_K (T : List UInt8) (t c l : Int) (R : WR) : (wrT T t c l R).K = R.K ∧ (wrT T t c l R).e = R.e := by
  unfold wrT; split <;> exact ⟨rfl, rfl⟩

theorem wrC_next {K : KK} {e : Nat} (a : Int) (x : Rc) (hG : GoodK K) (he : e ≤ 66000) : GoodK (wrC a x K e).K ∧ (wrC a x K e).K.length ≤ K.length + 600 ∧ (wrC a x K e).e ≤ 66000 := by
  unfold wrC
  split
  · exact ⟨hG, by simp, he⟩
  · split
    · exact ⟨hG, by simp, he⟩
    · obtain ⟨h1, h2, h3⟩ := nameK_good (e := e) (a := a) (n := x.n) hG
      obtain ⟨g1, g2, g3⟩ := wrR_next (e := nameE K e a x.n) (a + (nameB K e a x.n).length + 10) x.t x.d h1 (by omega)
      rw [(wrT_K _ _ _ _ _).1, (wrT_K _ _ _ _ _).2]
      exact ⟨g1, by omega, g3⟩

end Go.Proofs.YtpdaekgldgoalaaGreat

/-
  A pointer to a list of a message: how many entries there are, why one may not be, its bytes.
-/
namespace Go.Proofs.YtpdaekgldgoalaaGreat
open Go.RowKit Go.Shelf
set_option linter.unusedVariables false
set_option linter.unusedSimpArgs false
set_option maxRecDepth 100000

theorem mbound_yes (n : Int) (h : 0 ≤ n ∧ n ≤ 65535) (w : World) : Calls Tryz.prog 41 #[.int .i64 n] w fun e w' => e = .returned (.bool true) ∧ w = w' := by
  obtain ⟨h0, h1⟩ := h
  go_enter Tryz.func41, Tryz.ntmps41
  go_wp2
  go_ret
  exact ⟨rfl, rfl⟩

theorem mbound_no (n : Int) (h : n < 0 ∨ 65535 < n) (w : World) : Calls Tryz.prog 41 #[.int .i64 n] w fun e w' => e = .returned (.bool false) ∧ w = w' := by
  by_cases h0 : 0 ≤ n
  · have h1 : ¬ n ≤ 65535 := by omega
    go_enter Tryz.func41, Tryz.ntmps41
    go_wp2
    go_ret
    exact ⟨rfl, rfl⟩
  · go_enter Tryz.func41, Tryz.ntmps41
    go_wp2
    go_ret
    exact ⟨rfl, rfl⟩

/-- bounded, whatever the number. -/
theorem mbound_any (n : Int) (w : World) : Calls Tryz.prog 41 #[.int .i64 n] w fun e w' => e = .returned (.bool (decide (0 ≤ n ∧ n ≤ 65535))) ∧ w = w' := by
  by_cases h : 0 ≤ n ∧ n ≤ 65535
  · rw [decide_eq_true h]; exact mbound_yes n h w
  · rw [decide_eq_false h]; exact mbound_no n (by omega) w

theorem countQ_any {w : World} {M o hi : Nat} {v : Value} {l : List Qn} (hc : w.cell? ⟨M, o, none⟩ = some v) (hv : SQ w hi v l) :
    Calls Tryz.prog 74 #[.agg #[.pointer (some ⟨M, o, none⟩)]] w (Tells w (.int .i64 l.length)) := by
  obtain ⟨a, c, rfl⟩ := Lst.shape hv
  have hb := (Below.refl w.heap.size w).alloc (Nat.le_refl _) (.cells #[.pointer (some ⟨M, o, none⟩)] 92)
  have c0 := (hb.cell (p := ⟨M, o, none⟩) (World.block_lt_of_cell? w _ hc)).trans hc
  have HB := Lib.hid hb
  clear hb hc hv
  go_enter Tryz.func74, Tryz.ntmps74
  go_wp2_with fail
  go_ret
  exact ⟨rfl, HB.out⟩

theorem countR_any {w : World} {M o hi : Nat} {v : Value} {l : List Rc} (hc : w.cell? ⟨M, o, none⟩ = some v) (hv : SR w hi v l) :
    Calls Tryz.prog 102 #[.agg #[.pointer (some ⟨M, o, none⟩)]] w (Tells w (.int .i64 l.length)) := by
  obtain ⟨a, c, rfl⟩ := Lst.shape hv
  have hb := (Below.refl w.heap.size w).alloc (Nat.le_refl _) (.cells #[.pointer (some ⟨M, o, none⟩)] 95)
  have c0 := (hb.cell (p := ⟨M, o, none⟩) (World.block_lt_of_cell? w _ hc)).trans hc
  have HB := Lib.hid hb
  clear hb hc hv
  go_enter Tryz.func102, Tryz.ntmps102
  go_wp2_with fail
  go_ret
  exact ⟨rfl, HB.out⟩

set_option maxHeartbeats 2000000 in
theorem checkR_any {w : World} {M o hi : Nat} {v : Value} {l : List Rc} (hc : w.cell? ⟨M, o, none⟩ = some v) (hv : SR w hi v l) (hhi : hi ≤ w.heap.size) (j : Nat) (hj : j < l.length) (hn : l[j].n.length ≤ 1000000) (hd : l[j].d.length ≤ 1000000) :
    Calls Tryz.prog 101 #[.agg #[.pointer (some ⟨M, o, none⟩)], .int .i64 j] w (Tells w (.int .i64 (It.r l[j]).err)) := by
  obtain ⟨b, off, c, rfl, hb, hat⟩ := hv.at_ j hj
  have hlen := Lst.len hv
  have hbl := (Below.refl w.heap.size w).alloc (Nat.le_refl _) (.cells #[.pointer (some ⟨M, o, none⟩)] 95)
  have c0 := (hbl.cell (p := ⟨M, o, none⟩) (World.block_lt_of_cell? w _ hc)).trans hc
  have hat2 := hat.keep fun o => hbl.cell (p := ⟨b, o, none⟩) (Nat.lt_of_lt_of_le hb hhi)
  obtain ⟨d0, d1, d2, d3, d4⟩ := hat2
  have HB := Lib.hid hbl
  have HC := Lib.hid (fun wx => checkC_any l[j].n l[j].t l[j].c l[j].l l[j].d hn hd wx)
  have e : (It.r l[j]).err = chkC ⟨l[j].n, l[j].t, l[j].c, l[j].l, l[j].d⟩ := rfl
  rw [e]
  obtain ⟨E, hE⟩ : ∃ E, chkC ⟨l[j].n, l[j].t, l[j].c, l[j].l, l[j].d⟩ = E := ⟨_, rfl⟩
  rw [hE] at HC ⊢
  obtain ⟨x, hx⟩ : ∃ x, l[j] = x := ⟨_, rfl⟩
  rw [hx] at d0 d1 d2 d3 d4 HC
  clear hbl hc hv hat hE hx e hn hd
  go_enter Tryz.func101, Tryz.ntmps101
  go_wp2_with fail
  refine (tell_on HB (HC.out _)).mono ?_; rintro e w1 ⟨rfl, HB2⟩
  go_wp2_with fail
  go_ret
  exact ⟨rfl, HB2.out⟩

theorem mask_eq {n : List UInt8} {t c : Int} : askE n t c = if chk n ≠ 0 then chk n else if decide (0 ≤ t ∧ t ≤ 65535) = true ∧ decide (0 ≤ c ∧ c ≤ 65535) = true then 0 else 5 := by
  unfold askE
  split
  · rfl
  · simp only [decide_eq_true_eq]
    split <;> split <;> first | rfl | omega

set_option maxHeartbeats 4000000 in
theorem checkQ_any {w : World} {M o hi : Nat} {v : Value} {l : List Qn} (hc : w.cell? ⟨M, o, none⟩ = some v) (hv : SQ w hi v l) (hhi : hi ≤ w.heap.size) (j : Nat) (hj : j < l.length) (hn : l[j].n.length ≤ 1000000) :
    Calls Tryz.prog 73 #[.agg #[.pointer (some ⟨M, o, none⟩)], .int .i64 j] w (Tells w (.int .i64 (It.q l[j]).err)) := by
  obtain ⟨b, off, c, rfl, hb, hat⟩ := hv.at_ j hj
  have hlen := Lst.len hv
  have hbl := (Below.refl w.heap.size w).alloc (Nat.le_refl _) (.cells #[.pointer (some ⟨M, o, none⟩)] 92)
  have c0 := (hbl.cell (p := ⟨M, o, none⟩) (World.block_lt_of_cell? w _ hc)).trans hc
  have hat2 := hat.keep fun o => hbl.cell (p := ⟨b, o, none⟩) (Nat.lt_of_lt_of_le hb hhi)
  obtain ⟨d0, d1, d2⟩ := hat2
  obtain ⟨g, hg⟩ : ∃ g, w.heap.size = g := ⟨_, rfl⟩
  obtain ⟨W, hW⟩ : ∃ W, w.alloc (.cells #[.pointer (some ⟨M, o, none⟩)] 92) = W := ⟨_, rfl⟩
  have hWs : W.heap.size = g + 1 := by rw [← hW, World.size_alloc, hg]
  have k0 : W.cell? ⟨g, 0, none⟩ = some (.pointer (some ⟨M, o, none⟩)) := by rw [← hW, ← hg]; simp [go_sem]
  have HB := Lib.hid (bel_alloc hbl (.cells #[.string (bs l[j].n), .int .i64 l[j].t, .int .i64 l[j].c] 55))
  have HX := Lib.hid (cel_new3 W (.string (bs l[j].n)) (.int .i64 l[j].t) (.int .i64 l[j].c) 55)
  rw [hWs] at HX
  rw [hW] at HB c0 d0 d1 d2
  have HC := Lib.hid (fun wx => check_any l[j].n (by omega) wx)
  have HBT := Lib.hid (fun wx => mbound_any l[j].t wx)
  have HBC := Lib.hid (fun wx => mbound_any l[j].c wx)
  have e : (It.q l[j]).err = askE l[j].n l[j].t l[j].c := rfl
  rw [e, mask_eq]
  obtain ⟨E, hE⟩ : ∃ E, chk l[j].n = E := ⟨_, rfl⟩
  obtain ⟨B1, hB1⟩ : ∃ x, decide (0 ≤ l[j].t ∧ l[j].t ≤ 65535) = x := ⟨_, rfl⟩
  obtain ⟨B2, hB2⟩ : ∃ x, decide (0 ≤ l[j].c ∧ l[j].c ≤ 65535) = x := ⟨_, rfl⟩
  rw [hE] at HC ⊢
  rw [hB1] at HBT ⊢
  rw [hB2] at HBC ⊢
  obtain ⟨x, hx⟩ : ∃ x, l[j] = x := ⟨_, rfl⟩
  rw [hx] at d0 d1 d2 HX HC HBT HBC HB
  obtain ⟨x0, x1, x2⟩ := x
  simp only at d0 d1 d2 HX HC HBT HBC HB
  have HX0 := HX
  clear hbl hc hv hat hE hx e hn hB1 hB2 HX0
  have fin : ∀ R : Int, (if E ≠ 0 then E else if B1 = true ∧ B2 = true then 0 else 5) = R → Calls Tryz.prog 73 #[.agg #[.pointer (some ⟨M, o, none⟩)], .int .i64 j] w (Tells w (.int .i64 R)) := by
    intro R hR
    have HR := Lib.hid hR
    clear hR
    by_cases hE0 : E = 0
    · subst hE0
      cases B1 with
      | false =>
        have HR2 := Lib.hid (show (5 : Int) = R by rw [← HR.out]; simp)
        clear HR
        go_enter Tryz.func73, Tryz.ntmps73
        go_wp2_with fail
        refine (HC.out _).mono ?_; rintro e w1 ⟨rfl, hh⟩
        have HH := Lib.hid hh
        have HB2 := Lib.hid (bel_call HB.out hh)
        clear hh
        replace HX := Lib.hid (HX.out.below (by simp) HH.out)
        have e1 : w1.cell? ⟨g + 1, 1, none⟩ = some (.int .i64 x1) := HX.out.c 1 (by simp)
        have e2 : w1.cell? ⟨g + 1, 2, none⟩ = some (.int .i64 x2) := HX.out.c 2 (by simp)
        go_wp2_with fail
        refine (HBT.out _).mono ?_; rintro e w2 ⟨rfl, rfl⟩
        go_wp2_with fail
        go_ret
        exact ⟨by rw [← HR2.out]; rfl, HB2.out⟩
      | true =>
        cases B2 with
        | false =>
          have HR2 := Lib.hid (show (5 : Int) = R by rw [← HR.out]; simp)
          clear HR
          go_enter Tryz.func73, Tryz.ntmps73
          go_wp2_with fail
          refine (HC.out _).mono ?_; rintro e w1 ⟨rfl, hh⟩
          have HH := Lib.hid hh
          have HB2 := Lib.hid (bel_call HB.out hh)
          clear hh
          replace HX := Lib.hid (HX.out.below (by simp) HH.out)
          have e1 : w1.cell? ⟨g + 1, 1, none⟩ = some (.int .i64 x1) := HX.out.c 1 (by simp)
          have e2 : w1.cell? ⟨g + 1, 2, none⟩ = some (.int .i64 x2) := HX.out.c 2 (by simp)
          go_wp2_with fail
          refine (HBT.out _).mono ?_; rintro e w2 ⟨rfl, rfl⟩
          go_wp2_with fail
          refine (HBC.out _).mono ?_; rintro e w2 ⟨rfl, rfl⟩
          go_wp2_with fail
          go_ret
          exact ⟨by rw [← HR2.out]; rfl, HB2.out⟩
        | true =>
          have HR2 := Lib.hid (show (0 : Int) = R by rw [← HR.out]; simp)
          clear HR
          go_enter Tryz.func73, Tryz.ntmps73
          go_wp2_with fail
          refine (HC.out _).mono ?_; rintro e w1 ⟨rfl, hh⟩
          have HH := Lib.hid hh
          have HB2 := Lib.hid (bel_call HB.out hh)
          clear hh
          replace HX := Lib.hid (HX.out.below (by simp) HH.out)
          have e1 : w1.cell? ⟨g + 1, 1, none⟩ = some (.int .i64 x1) := HX.out.c 1 (by simp)
          have e2 : w1.cell? ⟨g + 1, 2, none⟩ = some (.int .i64 x2) := HX.out.c 2 (by simp)
          go_wp2_with fail
          refine (HBT.out _).mono ?_; rintro e w2 ⟨rfl, rfl⟩
          go_wp2_with fail
          refine (HBC.out _).mono ?_; rintro e w2 ⟨rfl, rfl⟩
          go_wp2_with fail
          go_ret
          exact ⟨by rw [← HR2.out]; rfl, HB2.out⟩
    · have tE : (E != 0) = true := by simpa using hE0
      have HR2 := Lib.hid (show E = R by rw [← HR.out, if_pos hE0])
      clear HR
      go_enter Tryz.func73, Tryz.ntmps73
      go_wp2_with fail
      refine (HC.out _).mono ?_; rintro e w1 ⟨rfl, hh⟩
      have HH := Lib.hid hh
      have HB2 := Lib.hid (bel_call HB.out hh)
      clear hh
      replace HX := Lib.hid (HX.out.below (by simp) HH.out)
      have e1 : w1.cell? ⟨g + 1, 1, none⟩ = some (.int .i64 x1) := HX.out.c 1 (by simp)
      have e2 : w1.cell? ⟨g + 1, 2, none⟩ = some (.int .i64 x2) := HX.out.c 2 (by simp)
      go_wp2_with fail
      go_ret
      exact ⟨by rw [← HR2.out]; rfl, HB2.out⟩
  exact fin _ rfl
end Go.Proofs.YtpdaekgldgoalaaGreat

/-
  The bytes of an entry of a list.
-/
namespace Go.Proofs.YtpdaekgldgoalaaGreat
open Go.RowKit Go.Shelf
set_option linter.unusedVariables false
set_option linter.unusedSimpArgs false
set_option maxRecDepth 100000

set_option maxHeartbeats 4000000 in
theorem writeQ_any {w : World} {M o hi p bm e : Nat} {v : Value} {l : List Qn} {K : KK} (hc : w.cell? ⟨M, o, none⟩ = some v) (hv : SQ w hi v l) (hhi : hi ≤ w.heap.size) (h : Pk w p bm K e) (hG : GoodK K) (hK : K.length ≤ 700000) (he : e ≤ 900000) (a : Int) (j : Nat) (hj : j < l.length) (hn : l[j].n.length ≤ 1000000) :
    Calls Tryz.prog 76 #[.agg #[.pointer (some ⟨M, o, none⟩)], .pointer (some ⟨p, 0, none⟩), .int .i64 a, .int .i64 j] w (WrPost w p bm (askW a l[j].n l[j].t l[j].c K e)) := by
  obtain ⟨b, off, c, rfl, hb, hat⟩ := hv.at_ j hj
  have hlen := Lst.len hv
  obtain ⟨W, hW⟩ : ∃ W, w.alloc (.cells #[.pointer (some ⟨M, o, none⟩)] 92) = W := ⟨_, rfl⟩
  have hbl : Below w.heap.size w W := by rw [← hW]; exact (Below.refl w.heap.size w).alloc (Nat.le_refl _) _
  have c0 := (hbl.cell (p := ⟨M, o, none⟩) (World.block_lt_of_cell? w _ hc)).trans hc
  have k0 : W.cell? ⟨w.heap.size, 0, none⟩ = some (.pointer (some ⟨M, o, none⟩)) := by rw [← hW]; simp [go_sem]
  obtain ⟨d0, d1, d2⟩ := hat.keep fun o => hbl.cell (p := ⟨b, o, none⟩) (Nat.lt_of_lt_of_le hb hhi)
  have HB := Lib.hid hbl
  have HP := h.later hbl
  have HC := Lib.hid (askC_any HP hG (by omega) he a l[j].n hn l[j].t l[j].c)
  have eR : askW a l[j].n l[j].t l[j].c K e = askW a l[j].n l[j].t l[j].c K e := rfl
  rw [eR]
  obtain ⟨R, hR⟩ : ∃ R, askW a l[j].n l[j].t l[j].c K e = R := ⟨_, rfl⟩
  rw [hR] at HC ⊢
  obtain ⟨x, hx⟩ : ∃ x, l[j] = x := ⟨_, rfl⟩
  rw [hx] at d0 d1 d2 HC
  clear hbl hc hv hat hR hx eR hn HP h 
  go_enter Tryz.func76, Tryz.ntmps76
  go_wp2_with fail
  refine HC.out.mono ?_; rintro e0 w1 ⟨v1, rfl, h1, h2, h3⟩
  have HQ := Lib.hid (show WrPost w p bm R (.returned (.tuple #[v1, .int .i64 R.code])) w1 from ⟨v1, rfl, h1.mono HB.out.size, h2, (Aside.of_all HB.out).trans h3⟩)
  clear h1 h2 h3
  go_wp2_with fail
  go_ret2
  exact HQ.out

set_option maxHeartbeats 4000000 in
theorem writeR_any {w : World} {M o hi p bm e : Nat} {v : Value} {l : List Rc} {K : KK} (hc : w.cell? ⟨M, o, none⟩ = some v) (hv : SR w hi v l) (hhi : hi ≤ w.heap.size) (h : Pk w p bm K e) (hG : GoodK K) (hK : K.length ≤ 700000) (he : e ≤ 900000) (a : Int) (j : Nat) (hj : j < l.length) (hn : l[j].n.length ≤ 1000000) (hd : l[j].d.length ≤ 1000000) :
    Calls Tryz.prog 104 #[.agg #[.pointer (some ⟨M, o, none⟩)], .pointer (some ⟨p, 0, none⟩), .int .i64 a, .int .i64 j] w (WrPost w p bm (wrC a l[j] K e)) := by
  obtain ⟨b, off, c, rfl, hb, hat⟩ := hv.at_ j hj
  have hlen := Lst.len hv
  obtain ⟨W, hW⟩ : ∃ W, w.alloc (.cells #[.pointer (some ⟨M, o, none⟩)] 95) = W := ⟨_, rfl⟩
  have hbl : Below w.heap.size w W := by rw [← hW]; exact (Below.refl w.heap.size w).alloc (Nat.le_refl _) _
  have c0 := (hbl.cell (p := ⟨M, o, none⟩) (World.block_lt_of_cell? w _ hc)).trans hc
  have k0 : W.cell? ⟨w.heap.size, 0, none⟩ = some (.pointer (some ⟨M, o, none⟩)) := by rw [← hW]; simp [go_sem]
  obtain ⟨d0, d1, d2, d3, d4⟩ := hat.keep fun o => hbl.cell (p := ⟨b, o, none⟩) (Nat.lt_of_lt_of_le hb hhi)
  have HB := Lib.hid hbl
  have HP := h.later hbl
  have HC := Lib.hid (writeC_any HP hG (by omega) he a l[j].n l[j].t l[j].c l[j].l l[j].d hn hd)
  have eR : wrC a l[j] K e = wrC a ⟨l[j].n, l[j].t, l[j].c, l[j].l, l[j].d⟩ K e := rfl
  rw [eR]
  obtain ⟨R, hR⟩ : ∃ R, wrC a ⟨l[j].n, l[j].t, l[j].c, l[j].l, l[j].d⟩ K e = R := ⟨_, rfl⟩
  rw [hR] at HC ⊢
  obtain ⟨x, hx⟩ : ∃ x, l[j] = x := ⟨_, rfl⟩
  rw [hx] at d0 d1 d2 d3 d4 HC
  clear hbl hc hv hat hR hx eR hn HP h hd
  go_enter Tryz.func104, Tryz.ntmps104
  go_wp2_with fail
  refine HC.out.mono ?_; rintro e0 w1 ⟨v1, rfl, h1, h2, h3⟩
  have HQ := Lib.hid (show WrPost w p bm R (.returned (.tuple #[v1, .int .i64 R.code])) w1 from ⟨v1, rfl, h1.mono HB.out.size, h2, (Aside.of_all HB.out).trans h3⟩)
  clear h1 h2 h3
  go_wp2_with fail
  go_ret2
  exact HQ.out

end Go.Proofs.YtpdaekgldgoalaaGreat

/-
  The pointers to the lists of a message.
-/
namespace Go.Proofs.YtpdaekgldgoalaaGreat
open Go.RowKit Go.Shelf
set_option linter.unusedVariables false
set_option linter.unusedSimpArgs false
set_option maxRecDepth 100000

/-- A pointer to the questions of the message in block M. -/
def lq (M : Nat) : Value := .iface 92 (.agg #[.pointer (some ⟨M, 2, none⟩)])
/-- A pointer to one of its lists of records. -/
def lr (M o : Nat) : Value := .iface 95 (.agg #[.pointer (some ⟨M, o, none⟩)])
/-- All of them. -/
def lall (M : Nat) : Array Value := #[lq M, lr M 3, lr M 4, lr M 5]

theorem cel_new4 (w : World) (a b c d : Value) (T : TypeId) : Cel (w.alloc (.cells #[a, b, c, d] T)) w.heap.size [a, b, c, d] := ⟨fun j hj => by
    match j, hj with
    | 0, _ => simp [go_sem]
    | 1, _ => simp [go_sem]
    | 2, _ => simp [go_sem]
    | 3, _ => simp [go_sem], fun j => by simp [go_sem]⟩

set_option maxHeartbeats 4000000 in
theorem lists_any (M : Nat) (w : World) (hM : M < w.heap.size) : Calls Tryz.prog 29 #[.pointer (some ⟨M, 0, none⟩)] w (Tells w (.agg (lall M))) := by
  obtain ⟨W, hW⟩ : ∃ W, w.alloc (.cells #[.nilIface, .nilIface, .nilIface, .nilIface] 68) = W := ⟨_, rfl⟩
  have hbl : Below w.heap.size w W := by rw [← hW]; exact (Below.refl w.heap.size w).alloc (Nat.le_refl _) _
  have HB := Lib.hid hbl
  obtain ⟨g, hg⟩ : ∃ g, w.heap.size = g := ⟨_, rfl⟩
  have hx : Cel W g [.nilIface, .nilIface, .nilIface, .nilIface] := by rw [← hW, ← hg]; exact cel_new4 w _ _ _ _ _
  have HX := Lib.hid hx
  have c0 : W.cell? ⟨g, 0, none⟩ = some .nilIface := hx.c 0 (by simp)
  have c1 : W.cell? ⟨g, 1, none⟩ = some .nilIface := hx.c 1 (by simp)
  have c2 : W.cell? ⟨g, 2, none⟩ = some .nilIface := hx.c 2 (by simp)
  have c3 : W.cell? ⟨g, 3, none⟩ = some .nilIface := hx.c 3 (by simp)
  have fz : ∀ j, W.frozen? ⟨g, j, none⟩ = false := hx.fz
  clear hx
  clear hbl
  go_enter Tryz.func29, Tryz.ntmps29
  go_wp2_with fail
  refine wp_region_held_drew (S := (fun wx => True)) (by kernel_rfl) trivial (fun hHeld => ?_)
  refine wpAnyH_take (i := 0) (oi := { dst := some 3, op := Op.move (Operand.tmp 0), type := 70, pos := "list.go:32", after := #[], guard := none }) (v := ?_) rfl (by kernel_rfl) (by kernel_rfl) (by kernel_rfl) (fun _ _ _ h => h) (Or.inl ⟨by rfl, ?_⟩) (by assumption) ?_
  rotate_left 1
  · intro w hSw; (try dsimp only at hSw); go_simp; try (with_reducible rfl)
  try simp only [Act.put, List.setIfInBounds_toArray, List.set_cons_zero, List.set_cons_succ]
  refine wpAnyH_take (i := 1) (oi := { dst := some 4, op := Op.nilCheck (Operand.tmp 3), type := 0, pos := "list.go:32", after := #[{ on := 0, ground := Ground.data }], guard := none }) (v := ?_) rfl (by kernel_rfl) (by kernel_rfl) (by kernel_rfl) (fun _ _ _ h => h) (Or.inl ⟨by rfl, ?_⟩) (by assumption) ?_
  rotate_left 1
  · intro w hSw; (try dsimp only at hSw); go_simp; try (with_reducible rfl)
  try simp only [Act.put, List.setIfInBounds_toArray, List.set_cons_zero, List.set_cons_succ]
  refine wpAnyH_take (i := 2) (oi := { dst := some 5, op := Op.fieldAddr 25 (Operand.tmp 4) 2, type := 0, pos := "list.go:32", after := #[{ on := 1, ground := Ground.data }], guard := none }) (v := ?_) rfl (by kernel_rfl) (by kernel_rfl) (by kernel_rfl) (fun _ _ _ h => h) (Or.inl ⟨by rfl, ?_⟩) (by assumption) ?_
  rotate_left 1
  · intro w hSw; (try dsimp only at hSw); go_simp; try (with_reducible rfl)
  try simp only [Act.put, List.setIfInBounds_toArray, List.set_cons_zero, List.set_cons_succ]
  refine wpAnyH_take (i := 3) (oi := { dst := some 6, op := Op.build 92 #[(0, Operand.tmp 5)], type := 92, pos := "list.go:32", after := #[{ on := 2, ground := Ground.data }], guard := none }) (v := ?_) rfl (by kernel_rfl) (by kernel_rfl) (by kernel_rfl) (fun _ _ _ h => h) (Or.inl ⟨by rfl, ?_⟩) (by assumption) ?_
  rotate_left 1
  · intro w hSw; (try dsimp only at hSw); go_simp; try (with_reducible rfl)
  try simp only [Act.put, List.setIfInBounds_toArray, List.set_cons_zero, List.set_cons_succ]
  refine wpAnyH_take (i := 4) (oi := { dst := some 7, op := Op.makeInterface 92 (Operand.tmp 6), type := 67, pos := "list.go:32", after := #[{ on := 3, ground := Ground.data }], guard := none }) (v := ?_) rfl (by kernel_rfl) (by kernel_rfl) (by kernel_rfl) (fun _ _ _ h => h) (Or.inl ⟨by rfl, ?_⟩) (by assumption) ?_
  rotate_left 1
  · intro w hSw; (try dsimp only at hSw); go_simp; try (with_reducible rfl)
  try simp only [Act.put, List.setIfInBounds_toArray, List.set_cons_zero, List.set_cons_succ]
  refine wpAnyH_take (i := 5) (oi := { dst := some 8, op := Op.move (Operand.tmp 0), type := 70, pos := "list.go:32", after := #[], guard := none }) (v := ?_) rfl (by kernel_rfl) (by kernel_rfl) (by kernel_rfl) (fun _ _ _ h => h) (Or.inl ⟨by rfl, ?_⟩) (by assumption) ?_
  rotate_left 1
  · intro w hSw; (try dsimp only at hSw); go_simp; try (with_reducible rfl)
  try simp only [Act.put, List.setIfInBounds_toArray, List.set_cons_zero, List.set_cons_succ]
  refine wpAnyH_take (i := 6) (oi := { dst := some 9, op := Op.nilCheck (Operand.tmp 8), type := 0, pos := "list.go:32", after := #[{ on := 5, ground := Ground.data }], guard := none }) (v := ?_) rfl (by kernel_rfl) (by kernel_rfl) (by kernel_rfl) (fun _ _ _ h => h) (Or.inl ⟨by rfl, ?_⟩) (by assumption) ?_
  rotate_left 1
  · intro w hSw; (try dsimp only at hSw); go_simp; try (with_reducible rfl)
  try simp only [Act.put, List.setIfInBounds_toArray, List.set_cons_zero, List.set_cons_succ]
  refine wpAnyH_take (i := 7) (oi := { dst := some 10, op := Op.fieldAddr 25 (Operand.tmp 9) 3, type := 0, pos := "list.go:32", after := #[{ on := 6, ground := Ground.data }], guard := none }) (v := ?_) rfl (by kernel_rfl) (by kernel_rfl) (by kernel_rfl) (fun _ _ _ h => h) (Or.inl ⟨by rfl, ?_⟩) (by assumption) ?_
  rotate_left 1
  · intro w hSw; (try dsimp only at hSw); go_simp; try (with_reducible rfl)
  try simp only [Act.put, List.setIfInBounds_toArray, List.set_cons_zero, List.set_cons_succ]
  refine wpAnyH_take (i := 8) (oi := { dst := some 11, op := Op.build 95 #[(0, Operand.tmp 10)], type := 95, pos := "list.go:32", after := #[{ on := 7, ground := Ground.data }], guard := none }) (v := ?_) rfl (by kernel_rfl) (by kernel_rfl) (by kernel_rfl) (fun _ _ _ h => h) (Or.inl ⟨by rfl, ?_⟩) (by assumption) ?_
  rotate_left 1
  · intro w hSw; (try dsimp only at hSw); go_simp; try (with_reducible rfl)
  try simp only [Act.put, List.setIfInBounds_toArray, List.set_cons_zero, List.set_cons_succ]
  refine wpAnyH_take (i := 9) (oi := { dst := some 12, op := Op.makeInterface 95 (Operand.tmp 11), type := 67, pos := "list.go:32", after := #[{ on := 8, ground := Ground.data }], guard := none }) (v := ?_) rfl (by kernel_rfl) (by kernel_rfl) (by kernel_rfl) (fun _ _ _ h => h) (Or.inl ⟨by rfl, ?_⟩) (by assumption) ?_
  rotate_left 1
  · intro w hSw; (try dsimp only at hSw); go_simp; try (with_reducible rfl)
  try simp only [Act.put, List.setIfInBounds_toArray, List.set_cons_zero, List.set_cons_succ]
  refine wpAnyH_take (i := 10) (oi := { dst := some 13, op := Op.move (Operand.tmp 0), type := 70, pos := "list.go:32", after := #[], guard := none }) (v := ?_) rfl (by kernel_rfl) (by kernel_rfl) (by kernel_rfl) (fun _ _ _ h => h) (Or.inl ⟨by rfl, ?_⟩) (by assumption) ?_
  rotate_left 1
  · intro w hSw; (try dsimp only at hSw); go_simp; try (with_reducible rfl)
  try simp only [Act.put, List.setIfInBounds_toArray, List.set_cons_zero, List.set_cons_succ]
  refine wpAnyH_take (i := 11) (oi := { dst := some 14, op := Op.nilCheck (Operand.tmp 13), type := 0, pos := "list.go:32", after := #[{ on := 10, ground := Ground.data }], guard := none }) (v := ?_) rfl (by kernel_rfl) (by kernel_rfl) (by kernel_rfl) (fun _ _ _ h => h) (Or.inl ⟨by rfl, ?_⟩) (by assumption) ?_
  rotate_left 1
  · intro w hSw; (try dsimp only at hSw); go_simp; try (with_reducible rfl)
  try simp only [Act.put, List.setIfInBounds_toArray, List.set_cons_zero, List.set_cons_succ]
  refine wpAnyH_take (i := 12) (oi := { dst := some 15, op := Op.fieldAddr 25 (Operand.tmp 14) 4, type := 0, pos := "list.go:32", after := #[{ on := 11, ground := Ground.data }], guard := none }) (v := ?_) rfl (by kernel_rfl) (by kernel_rfl) (by kernel_rfl) (fun _ _ _ h => h) (Or.inl ⟨by rfl, ?_⟩) (by assumption) ?_
  rotate_left 1
  · intro w hSw; (try dsimp only at hSw); go_simp; try (with_reducible rfl)
  try simp only [Act.put, List.setIfInBounds_toArray, List.set_cons_zero, List.set_cons_succ]
  refine wpAnyH_take (i := 13) (oi := { dst := some 16, op := Op.build 95 #[(0, Operand.tmp 15)], type := 95, pos := "list.go:32", after := #[{ on := 12, ground := Ground.data }], guard := none }) (v := ?_) rfl (by kernel_rfl) (by kernel_rfl) (by kernel_rfl) (fun _ _ _ h => h) (Or.inl ⟨by rfl, ?_⟩) (by assumption) ?_
  rotate_left 1
  · intro w hSw; (try dsimp only at hSw); go_simp; try (with_reducible rfl)
  try simp only [Act.put, List.setIfInBounds_toArray, List.set_cons_zero, List.set_cons_succ]
  refine wpAnyH_take (i := 14) (oi := { dst := some 17, op := Op.makeInterface 95 (Operand.tmp 16), type := 67, pos := "list.go:32", after := #[{ on := 13, ground := Ground.data }], guard := none }) (v := ?_) rfl (by kernel_rfl) (by kernel_rfl) (by kernel_rfl) (fun _ _ _ h => h) (Or.inl ⟨by rfl, ?_⟩) (by assumption) ?_
  rotate_left 1
  · intro w hSw; (try dsimp only at hSw); go_simp; try (with_reducible rfl)
  try simp only [Act.put, List.setIfInBounds_toArray, List.set_cons_zero, List.set_cons_succ]
  refine wpAnyH_take (i := 15) (oi := { dst := some 18, op := Op.move (Operand.tmp 0), type := 70, pos := "list.go:32", after := #[], guard := none }) (v := ?_) rfl (by kernel_rfl) (by kernel_rfl) (by kernel_rfl) (fun _ _ _ h => h) (Or.inl ⟨by rfl, ?_⟩) (by assumption) ?_
  rotate_left 1
  · intro w hSw; (try dsimp only at hSw); go_simp; try (with_reducible rfl)
  try simp only [Act.put, List.setIfInBounds_toArray, List.set_cons_zero, List.set_cons_succ]
  refine wpAnyH_take (i := 16) (oi := { dst := some 19, op := Op.nilCheck (Operand.tmp 18), type := 0, pos := "list.go:32", after := #[{ on := 15, ground := Ground.data }], guard := none }) (v := ?_) rfl (by kernel_rfl) (by kernel_rfl) (by kernel_rfl) (fun _ _ _ h => h) (Or.inl ⟨by rfl, ?_⟩) (by assumption) ?_
  rotate_left 1
  · intro w hSw; (try dsimp only at hSw); go_simp; try (with_reducible rfl)
  try simp only [Act.put, List.setIfInBounds_toArray, List.set_cons_zero, List.set_cons_succ]
  refine wpAnyH_take (i := 17) (oi := { dst := some 20, op := Op.fieldAddr 25 (Operand.tmp 19) 5, type := 0, pos := "list.go:32", after := #[{ on := 16, ground := Ground.data }], guard := none }) (v := ?_) rfl (by kernel_rfl) (by kernel_rfl) (by kernel_rfl) (fun _ _ _ h => h) (Or.inl ⟨by rfl, ?_⟩) (by assumption) ?_
  rotate_left 1
  · intro w hSw; (try dsimp only at hSw); go_simp; try (with_reducible rfl)
  try simp only [Act.put, List.setIfInBounds_toArray, List.set_cons_zero, List.set_cons_succ]
  refine wpAnyH_take (i := 18) (oi := { dst := some 21, op := Op.build 95 #[(0, Operand.tmp 20)], type := 95, pos := "list.go:32", after := #[{ on := 17, ground := Ground.data }], guard := none }) (v := ?_) rfl (by kernel_rfl) (by kernel_rfl) (by kernel_rfl) (fun _ _ _ h => h) (Or.inl ⟨by rfl, ?_⟩) (by assumption) ?_
  rotate_left 1
  · intro w hSw; (try dsimp only at hSw); go_simp; try (with_reducible rfl)
  try simp only [Act.put, List.setIfInBounds_toArray, List.set_cons_zero, List.set_cons_succ]
  refine wpAnyH_take (i := 19) (oi := { dst := some 22, op := Op.makeInterface 95 (Operand.tmp 21), type := 67, pos := "list.go:32", after := #[{ on := 18, ground := Ground.data }], guard := none }) (v := ?_) rfl (by kernel_rfl) (by kernel_rfl) (by kernel_rfl) (fun _ _ _ h => h) (Or.inl ⟨by rfl, ?_⟩) (by assumption) ?_
  rotate_left 1
  · intro w hSw; (try dsimp only at hSw); go_simp; try (with_reducible rfl)
  try simp only [Act.put, List.setIfInBounds_toArray, List.set_cons_zero, List.set_cons_succ]
  refine wpAnyH_take (i := 20) (oi := { dst := some 23, op := Op.build 68 #[(0, Operand.tmp 7), (1, Operand.tmp 12), (2, Operand.tmp 17), (3, Operand.tmp 22)], type := 68, pos := "list.go:32", after := #[{ on := 4, ground := Ground.data }, { on := 9, ground := Ground.data }, { on := 14, ground := Ground.data }, { on := 19, ground := Ground.data }], guard := none }) (v := ?_) rfl (by kernel_rfl) (by kernel_rfl) (by kernel_rfl) (fun _ _ _ h => h) (Or.inl ⟨by rfl, ?_⟩) (by assumption) ?_
  rotate_left 1
  · intro w hSw; (try dsimp only at hSw); go_simp; try (with_reducible rfl)
  try simp only [Act.put, List.setIfInBounds_toArray, List.set_cons_zero, List.set_cons_succ]
  refine wpAnyH_ready (rs := [21]) (by kernel_rfl) (by simp) ?_
  refine AllReadyH.cons (o := { dst := none, op := Op.store 68 (Operand.tmp 2) (Operand.tmp 23), type := 0, pos := "list.go:32", after := #[{ on := 20, ground := Ground.data }, { on := 0, ground := Ground.phase }, { on := 1, ground := Ground.phase }, { on := 2, ground := Ground.phase }, { on := 3, ground := Ground.phase }, { on := 4, ground := Ground.phase }, { on := 5, ground := Ground.phase }, { on := 6, ground := Ground.phase }, { on := 7, ground := Ground.phase }, { on := 8, ground := Ground.phase }, { on := 9, ground := Ground.phase }, { on := 10, ground := Ground.phase }, { on := 11, ground := Ground.phase }, { on := 12, ground := Ground.phase }, { on := 13, ground := Ground.phase }, { on := 14, ground := Ground.phase }, { on := 15, ground := Ground.phase }, { on := 16, ground := Ground.phase }, { on := 17, ground := Ground.phase }, { on := 18, ground := Ground.phase }, { on := 19, ground := Ground.phase }, { on := 20, ground := Ground.phase }], guard := none }) rfl (fun K hK => ?_) (AllReadyH.nil)
  go_simp
  refine hK.out _ _ trivial (fun hHeld => ?_)
  clear hK K
  try simp only [Act.put, List.setIfInBounds_toArray, List.set_cons_zero, List.set_cons_succ]
  refine wpAnyH_done (by kernel_rfl) ?_ _
  clear hHeld
  go_wp2_with fail
  have h4 := (((HX.out.set (o := 0) (by simp) (lq M)).set (o := 1) (by simp) (lr M 3)).set (o := 2) (by simp) (lr M 4)).set (o := 3) (by simp) (lr M 5)
  simp only [List.set_cons_zero, List.set_cons_succ] at h4
  have y0 := h4.c 0 (by simp)
  have y1 := h4.c 1 (by simp)
  have y2 := h4.c 2 (by simp)
  have y3 := h4.c 3 (by simp)
  simp only [List.getElem_cons_zero, List.getElem_cons_succ] at y0 y1 y2 y3
  clear h4 c0 c1 c2 c3 fz
  unfold lq lr at y0 y1 y2 y3
  refine bodyPost_ret (by simp [results, Tryz.results29, go_sem, y0, y1, y2, y3]; rfl) rfl ⟨rfl, ?_⟩
  rw [hg]
  have hb := HB.out
  rw [hg] at hb
  exact ((((hb.setCell (by simp) _).setCell (by simp) _).setCell (by simp) _).setCell (by simp) _).drew
end Go.Proofs.YtpdaekgldgoalaaGreat

/-
  Why a message may not be: Check.
-/
namespace Go.Proofs.YtpdaekgldgoalaaGreat
open Go.RowKit Go.Shelf
set_option linter.unusedVariables false
set_option linter.unusedSimpArgs false
set_option maxRecDepth 100000

theorem m_countQ (M : Nat) (w : World) : (method 313 92 (.agg #[.pointer (some ⟨M, 2, none⟩)]) "ostiary/msg.count").run Tryz.prog w = .ok (74, .agg #[.pointer (some ⟨M, 2, none⟩)]) w := by kernel_rfl
theorem m_countR (M o : Nat) (w : World) : (method 313 95 (.agg #[.pointer (some ⟨M, o, none⟩)]) "ostiary/msg.count").run Tryz.prog w = .ok (102, .agg #[.pointer (some ⟨M, o, none⟩)]) w := by kernel_rfl
theorem m_checkQ (M : Nat) (w : World) : (method 313 92 (.agg #[.pointer (some ⟨M, 2, none⟩)]) "ostiary/msg.check").run Tryz.prog w = .ok (73, .agg #[.pointer (some ⟨M, 2, none⟩)]) w := by kernel_rfl
theorem m_checkR (M o : Nat) (w : World) : (method 313 95 (.agg #[.pointer (some ⟨M, o, none⟩)]) "ostiary/msg.check").run Tryz.prog w = .ok (101, .agg #[.pointer (some ⟨M, o, none⟩)]) w := by kernel_rfl

theorem ix_l0 (M : Nat) (w : World) : (Instr.index 68 (.agg #[.iface 92 (.agg #[.pointer (some ⟨M, 2, none⟩)]), .iface 95 (.agg #[.pointer (some ⟨M, 3, none⟩)]), .iface 95 (.agg #[.pointer (some ⟨M, 4, none⟩)]), .iface 95 (.agg #[.pointer (some ⟨M, 5, none⟩)])]) (.int .i64 0)).run Tryz.prog w = .ok (.iface 92 (.agg #[.pointer (some ⟨M, 2, none⟩)])) w := by kernel_rfl
theorem ix_l1 (M : Nat) (w : World) : (Instr.index 68 (.agg #[.iface 92 (.agg #[.pointer (some ⟨M, 2, none⟩)]), .iface 95 (.agg #[.pointer (some ⟨M, 3, none⟩)]), .iface 95 (.agg #[.pointer (some ⟨M, 4, none⟩)]), .iface 95 (.agg #[.pointer (some ⟨M, 5, none⟩)])]) (.int .i64 1)).run Tryz.prog w = .ok (.iface 95 (.agg #[.pointer (some ⟨M, 3, none⟩)])) w := by kernel_rfl
theorem ix_l2 (M : Nat) (w : World) : (Instr.index 68 (.agg #[.iface 92 (.agg #[.pointer (some ⟨M, 2, none⟩)]), .iface 95 (.agg #[.pointer (some ⟨M, 3, none⟩)]), .iface 95 (.agg #[.pointer (some ⟨M, 4, none⟩)]), .iface 95 (.agg #[.pointer (some ⟨M, 5, none⟩)])]) (.int .i64 2)).run Tryz.prog w = .ok (.iface 95 (.agg #[.pointer (some ⟨M, 4, none⟩)])) w := by kernel_rfl
theorem ix_l3 (M : Nat) (w : World) : (Instr.index 68 (.agg #[.iface 92 (.agg #[.pointer (some ⟨M, 2, none⟩)]), .iface 95 (.agg #[.pointer (some ⟨M, 3, none⟩)]), .iface 95 (.agg #[.pointer (some ⟨M, 4, none⟩)]), .iface 95 (.agg #[.pointer (some ⟨M, 5, none⟩)])]) (.int .i64 3)).run Tryz.prog w = .ok (.iface 95 (.agg #[.pointer (some ⟨M, 5, none⟩)])) w := by kernel_rfl

/-- A message whose texts are not too long. -/
structure Ms.Fine (m : Ms) : Prop where
  q : ∀ x ∈ m.q, x.n.length ≤ 1000000
  an : ∀ x ∈ m.an, x.n.length ≤ 1000000 ∧ x.d.length ≤ 1000000
  ns : ∀ x ∈ m.ns, x.n.length ≤ 1000000 ∧ x.d.length ≤ 1000000
  ar : ∀ x ∈ m.ar, x.n.length ≤ 1000000 ∧ x.d.length ≤ 1000000

theorem fst0_step {α : Type} (f : α → Int) (l : List α) (rest : List Int) (j : Nat) (hj : j < l.length) : fst0 ((l.drop j).map f ++ rest) = if f l[j] ≠ 0 then f l[j] else fst0 ((l.drop (j + 1)).map f ++ rest) := by
  rw [List.drop_eq_getElem_cons hj, List.map_cons, List.cons_append, fst0]
theorem fst0_end {α : Type} (f : α → Int) (l : List α) (rest : List Int) (j : Nat) (hj : l.length ≤ j) : fst0 ((l.drop j).map f ++ rest) = fst0 rest := by
  rw [List.drop_eq_nil_of_le hj]; rfl
/-- The errors of questions, of records. -/
def eqs (l : List Qn) : List Int := l.map fun x => (It.q x).err
def ers (l : List Rc) : List Int := l.map fun x => (It.r x).err
theorem its_errs (m : Ms) : m.its.map It.err = eqs m.q ++ (ers m.an ++ (ers m.ns ++ (ers m.ar ++ []))) := by
  unfold Ms.its eqs ers
  simp only [List.map_append, List.map_map, List.append_nil]
  rfl

set_option maxHeartbeats 16000000 in
theorem checkM_any {w : World} {hi : Nat} {u : Value} {m : Ms} (h : Mg w hi u m) (h1 : hi ≤ w.heap.size) (hf : m.Fine) :
    Calls Tryz.prog 28 #[u] w (Tells w (.int .i64 (chkM m))) := by
  obtain ⟨q, a, n, r, rfl, k1, k2, k3, k4⟩ := h
  have HmQ := fun M w => m_countQ M w
  have HmR := fun M o w => m_countR M o w
  have HkQ := fun M w => m_checkQ M w
  have HkR := fun M o w => m_checkR M o w
  have Hx0 := fun M w => ix_l0 M w
  have Hx1 := fun M w => ix_l1 M w
  have Hx2 := fun M w => ix_l2 M w
  have Hx3 := fun M w => ix_l3 M w
  obtain ⟨i0, hi0⟩ : ∃ i, m.id = i := ⟨_, rfl⟩
  obtain ⟨i1, hi1⟩ : ∃ i, m.fl = i := ⟨_, rfl⟩
  obtain ⟨R, hR⟩ : ∃ R, chkM m = R := ⟨_, rfl⟩
  rw [hi0, hi1, hR]
  unfold chkM at hR
  rw [hi0, hi1, its_errs] at hR
  obtain ⟨M, hM⟩ : ∃ M, w.heap.size = M := ⟨_, rfl⟩
  obtain ⟨W, hW⟩ : ∃ W, w.alloc (.cells #[.int .i64 i0, .int .i64 i1, q, a, n, r] 25) = W := ⟨_, rfl⟩
  have hb : Below w.heap.size w W := by rw [← hW]; exact (Below.refl _ _).alloc (Nat.le_refl _) _
  have hx : Cel W M [.int .i64 i0, .int .i64 i1, q, a, n, r] := by rw [← hW, ← hM]; exact cel_new6 w _ _ _ _ _ _ _
  have hWs : W.heap.size = M + 1 := by rw [← hW, World.size_alloc, hM]
  have HB := Lib.hid hb
  have HX := Lib.hid hx
  have HI0 := Lib.hid (fun wx => mbound_any i0 wx)
  have HI1 := Lib.hid (fun wx => mbound_any i1 wx)
  have HL := Lib.hid (fun wx (hb : Below w.heap.size w wx) (hx : Cel wx M [.int .i64 i0, .int .i64 i1, q, a, n, r]) => lists_any M wx (hx.lt (by simp)))
  have HCQ := Lib.hid (fun wx (hb : Below w.heap.size w wx) (hx : Cel wx M [.int .i64 i0, .int .i64 i1, q, a, n, r]) => countQ_any (hx.c 2 (by simp)) (Lst.below k1 hb h1))
  have HCA := Lib.hid (fun wx (hb : Below w.heap.size w wx) (hx : Cel wx M [.int .i64 i0, .int .i64 i1, q, a, n, r]) => countR_any (hx.c 3 (by simp)) (Lst.below k2 hb h1))
  have HCN := Lib.hid (fun wx (hb : Below w.heap.size w wx) (hx : Cel wx M [.int .i64 i0, .int .i64 i1, q, a, n, r]) => countR_any (hx.c 4 (by simp)) (Lst.below k3 hb h1))
  have HCR := Lib.hid (fun wx (hb : Below w.heap.size w wx) (hx : Cel wx M [.int .i64 i0, .int .i64 i1, q, a, n, r]) => countR_any (hx.c 5 (by simp)) (Lst.below k4 hb h1))
  have HKQ := Lib.hid (fun wx (hb : Below w.heap.size w wx) (hx : Cel wx M [.int .i64 i0, .int .i64 i1, q, a, n, r]) j hj => checkQ_any (hx.c 2 (by simp)) (Lst.below k1 hb h1) (Nat.le_trans h1 hb.size) j hj (hf.q _ (List.getElem_mem hj)))
  have HKA := Lib.hid (fun wx (hb : Below w.heap.size w wx) (hx : Cel wx M [.int .i64 i0, .int .i64 i1, q, a, n, r]) j hj => checkR_any (hx.c 3 (by simp)) (Lst.below k2 hb h1) (Nat.le_trans h1 hb.size) j hj (hf.an _ (List.getElem_mem hj)).1 (hf.an _ (List.getElem_mem hj)).2)
  have HKN := Lib.hid (fun wx (hb : Below w.heap.size w wx) (hx : Cel wx M [.int .i64 i0, .int .i64 i1, q, a, n, r]) j hj => checkR_any (hx.c 4 (by simp)) (Lst.below k3 hb h1) (Nat.le_trans h1 hb.size) j hj (hf.ns _ (List.getElem_mem hj)).1 (hf.ns _ (List.getElem_mem hj)).2)
  have HKR := Lib.hid (fun wx (hb : Below w.heap.size w wx) (hx : Cel wx M [.int .i64 i0, .int .i64 i1, q, a, n, r]) j hj => checkR_any (hx.c 5 (by simp)) (Lst.below k4 hb h1) (Nat.le_trans h1 hb.size) j hj (hf.ar _ (List.getElem_mem hj)).1 (hf.ar _ (List.getElem_mem hj)).2)
  have n1 := Lst.len k1
  have n2 := Lst.len k2
  have n3 := Lst.len k3
  have n4 := Lst.len k4
  have HR := Lib.hid hR
  clear hb k1 k2 k3 k4 hR
  by_cases hi : 0 ≤ i0 ∧ i0 ≤ 65535
  · by_cases hfl : 0 ≤ i1 ∧ i1 ≤ 65535
    · rw [decide_eq_true hi] at HI0
      rw [decide_eq_true hfl] at HI1
      have c0 : W.cell? ⟨M, 0, none⟩ = some (.int .i64 i0) := hx.c 0 (by simp)
      have c1 : W.cell? ⟨M, 1, none⟩ = some (.int .i64 i1) := hx.c 1 (by simp)
      clear hx
      have hR2 := HR.out
      rw [if_neg (by omega)] at hR2
      clear HR
      go_enter Tryz.func28, Tryz.ntmps28
      go_wp2_with fail
      refine (HI0.out _).mono ?_; rintro e w1 ⟨rfl, rfl⟩
      go_wp2_with fail
      refine (HI1.out _).mono ?_; rintro e w1 ⟨rfl, rfl⟩
      go_wp2_with fail
      refine (HL.out _ HB.out HX.out).mono ?_; rintro e w1 ⟨rfl, hb⟩
      replace HX := Lib.hid (HX.out.below (by simp) hb)
      replace HB := Lib.hid (bel_call HB.out hb)
      unfold lall lq lr
      clear hb c0 c1
      have HB2 := Lib.hid (bel_alloc HB.out (.cells #[.iface 92 (.agg #[.pointer (some ⟨M, 2, none⟩)]), .iface 95 (.agg #[.pointer (some ⟨M, 3, none⟩)]), .iface 95 (.agg #[.pointer (some ⟨M, 4, none⟩)]), .iface 95 (.agg #[.pointer (some ⟨M, 5, none⟩)])] 68))
      have HX2 := Lib.hid (HX.out.below (by simp) (bel_alloc (Below.refl w1.heap.size w1) (.cells #[.iface 92 (.agg #[.pointer (some ⟨M, 2, none⟩)]), .iface 95 (.agg #[.pointer (some ⟨M, 3, none⟩)]), .iface 95 (.agg #[.pointer (some ⟨M, 4, none⟩)]), .iface 95 (.agg #[.pointer (some ⟨M, 5, none⟩)])] 68)))
      replace HB := HB2
      replace HX := HX2
      clear HB2 HX2
      have HY := Lib.hid (cel_new4 w1 (.iface 92 (.agg #[.pointer (some ⟨M, 2, none⟩)])) (.iface 95 (.agg #[.pointer (some ⟨M, 3, none⟩)])) (.iface 95 (.agg #[.pointer (some ⟨M, 4, none⟩)])) (.iface 95 (.agg #[.pointer (some ⟨M, 5, none⟩)])) 68)
      go_wp2_with fail
      refine wp_loop_rounds 5 ?_
      rw [rounds_succ]
      go_wp2_with fail
      refine (HCQ.out _ HB.out HX.out).mono ?_; rintro e w2 ⟨rfl, hb⟩
      replace HX := Lib.hid (HX.out.below (by simp) hb)
      replace HB := Lib.hid (bel_call HB.out hb)
      replace HY := Lib.hid (HY.out.below (by simp) hb)
      clear hb
      by_cases g0 : 65535 < m.q.length
      · have t1 : decide ((65535 : Int) < m.q.length) = true := by simp; omega
        rw [if_pos (by omega)] at hR2
        have HR2 := Lib.hid hR2
        clear hR2
        go_wp2_with fail
        go_ret
        exact ⟨by rw [← HR2.out]; rfl, HB.out⟩
      have t10 : decide ((65535 : Int) < m.q.length) = false := by simp; omega
      go_wp2_with fail
      rw [rounds_succ]
      go_wp2_with fail
      refine (HCA.out _ HB.out HX.out).mono ?_; rintro e w3 ⟨rfl, hb⟩
      replace HX := Lib.hid (HX.out.below (by simp) hb)
      replace HB := Lib.hid (bel_call HB.out hb)
      replace HY := Lib.hid (HY.out.below (by simp) hb)
      clear hb
      by_cases g1 : 65535 < m.an.length
      · have t1 : decide ((65535 : Int) < m.an.length) = true := by simp; omega
        rw [if_pos (by omega)] at hR2
        have HR2 := Lib.hid hR2
        clear hR2
        go_wp2_with fail
        go_ret
        exact ⟨by rw [← HR2.out]; rfl, HB.out⟩
      have t11 : decide ((65535 : Int) < m.an.length) = false := by simp; omega
      go_wp2_with fail
      rw [rounds_succ]
      go_wp2_with fail
      refine (HCN.out _ HB.out HX.out).mono ?_; rintro e w4 ⟨rfl, hb⟩
      replace HX := Lib.hid (HX.out.below (by simp) hb)
      replace HB := Lib.hid (bel_call HB.out hb)
      replace HY := Lib.hid (HY.out.below (by simp) hb)
      clear hb
      by_cases g2 : 65535 < m.ns.length
      · have t1 : decide ((65535 : Int) < m.ns.length) = true := by simp; omega
        rw [if_pos (by omega)] at hR2
        have HR2 := Lib.hid hR2
        clear hR2
        go_wp2_with fail
        go_ret
        exact ⟨by rw [← HR2.out]; rfl, HB.out⟩
      have t12 : decide ((65535 : Int) < m.ns.length) = false := by simp; omega
      go_wp2_with fail
      rw [rounds_succ]
      go_wp2_with fail
      refine (HCR.out _ HB.out HX.out).mono ?_; rintro e w5 ⟨rfl, hb⟩
      replace HX := Lib.hid (HX.out.below (by simp) hb)
      replace HB := Lib.hid (bel_call HB.out hb)
      replace HY := Lib.hid (HY.out.below (by simp) hb)
      clear hb
      by_cases g3 : 65535 < m.ar.length
      · have t1 : decide ((65535 : Int) < m.ar.length) = true := by simp; omega
        rw [if_pos (by omega)] at hR2
        have HR2 := Lib.hid hR2
        clear hR2
        go_wp2_with fail
        go_ret
        exact ⟨by rw [← HR2.out]; rfl, HB.out⟩
      have t13 : decide ((65535 : Int) < m.ar.length) = false := by simp; omega
      go_wp2_with fail
      rw [if_neg (by omega)] at hR2
      replace HR := Lib.hid hR2
      clear hR2 t10 t11 t12 t13
      have l0 := HY.out.c 0 (by simp)
      have l1 := HY.out.c 1 (by simp)
      have l2 := HY.out.c 2 (by simp)
      have l3 := HY.out.c 3 (by simp)
      simp only [List.getElem_cons_zero, List.getElem_cons_succ] at l0 l1 l2 l3
      rw [rounds_succ]
      go_wp2_with fail
      clear l0 l1 l2 l3 HY
      refine wp_loop_rounds 5 ?_
      rw [rounds_succ]
      go_wp2_with fail
      refine (HCQ.out _ HB.out HX.out).mono ?_; rintro e w6 ⟨rfl, hb⟩
      replace HX := Lib.hid (HX.out.below (by simp) hb)
      replace HB := Lib.hid (bel_call HB.out hb)
      clear hb
      go_wp2_with fail
      go_loopg [35] m.q.length (fun g v35 wr => ∃ j : Nat, j + g = m.q.length ∧ v35 = .int .i64 j ∧ Hid (fst0 ((m.q.drop j).map (fun x => (It.q x).err) ++ (ers m.an ++ (ers m.ns ++ (ers m.ar ++ [])))) = R) ∧ Hid (Below w.heap.size w wr) ∧ Hid (Cel wr M [.int .i64 i0, .int .i64 i1, q, a, n, r]))
      case atStart => exact ⟨0, by omega, rfl, HR, HB, HX⟩
      case round =>
        clear HR HB HX
        obtain ⟨j, hj, rfl, HR, HB, HX⟩ := hrel
        by_cases hlt : j < m.q.length
        · have HK := Lib.hid (HKQ.out wr HB.out HX.out j hlt)
          have hst := HR.out
          rw [fst0_step _ _ _ _ hlt] at hst
          have hst : (if (It.q m.q[j]).err ≠ 0 then (It.q m.q[j]).err else fst0 ((m.q.drop (j + 1)).map (fun x => (It.q x).err) ++ (ers m.an ++ (ers m.ns ++ (ers m.ar ++ []))))) = R := hst
          obtain ⟨E, hE⟩ : ∃ E, (It.q m.q[j]).err = E := ⟨_, rfl⟩
          rw [hE] at HK hst
          clear hE
          by_cases hE0 : E = 0
          · subst hE0
            rw [if_neg (by simp)] at hst
            have HR2 := Lib.hid hst
            clear hst HR
            go_wp2_with fail
            refine HK.out.mono ?_; rintro e wx ⟨rfl, hb⟩
            replace HX := Lib.hid (HX.out.below (by simp) hb)
            replace HB := Lib.hid (bel_call HB.out hb)
            clear hb HK
            go_wp2_with fail
            go_roundg (m.q.length - (j + 1))
            case measure => omega
            case rel => exact ⟨j + 1, by omega, by go_num, HR2, HB, HX⟩
          · have tE : (E != 0) = true := by simpa using hE0
            rw [if_pos hE0] at hst
            have HR2 := Lib.hid hst
            clear hst HR
            go_wp2_with fail
            refine HK.out.mono ?_; rintro e wx ⟨rfl, hb⟩
            replace HB := Lib.hid (bel_call HB.out hb)
            clear hb HK
            go_wp2_with fail
            go_ret
            exact ⟨by rw [← HR2.out]; rfl, HB.out⟩
        have t1 : ¬ ((j : Int) < m.q.length) := by omega
        have hst := HR.out
        rw [fst0_end _ _ _ _ (by omega)] at hst
        clear HR
        have HR := Lib.hid hst
        clear hst
        go_wp2_with fail
        rw [rounds_succ]
        go_wp2_with fail
        refine (HCA.out _ HB.out HX.out).mono ?_; rintro e w7 ⟨rfl, hb⟩
        replace HX := Lib.hid (HX.out.below (by simp) hb)
        replace HB := Lib.hid (bel_call HB.out hb)
        clear hb
        go_wp2_with fail
        go_loopg [35] m.an.length (fun g v35 wr => ∃ j : Nat, j + g = m.an.length ∧ v35 = .int .i64 j ∧ Hid (fst0 ((m.an.drop j).map (fun x => (It.r x).err) ++ (ers m.ns ++ (ers m.ar ++ []))) = R) ∧ Hid (Below w.heap.size w wr) ∧ Hid (Cel wr M [.int .i64 i0, .int .i64 i1, q, a, n, r]))
        case atStart => exact ⟨0, by omega, rfl, HR, HB, HX⟩
        case round =>
          clear HR HB HX
          obtain ⟨j, hj, rfl, HR, HB, HX⟩ := hrel
          by_cases hlt : j < m.an.length
          · have HK := Lib.hid (HKA.out wr HB.out HX.out j hlt)
            have hst := HR.out
            rw [fst0_step _ _ _ _ hlt] at hst
            have hst : (if (It.r m.an[j]).err ≠ 0 then (It.r m.an[j]).err else fst0 ((m.an.drop (j + 1)).map (fun x => (It.r x).err) ++ (ers m.ns ++ (ers m.ar ++ [])))) = R := hst
            obtain ⟨E, hE⟩ : ∃ E, (It.r m.an[j]).err = E := ⟨_, rfl⟩
            rw [hE] at HK hst
            clear hE
            by_cases hE0 : E = 0
            · subst hE0
              rw [if_neg (by simp)] at hst
              have HR2 := Lib.hid hst
              clear hst HR
              go_wp2_with fail
              refine HK.out.mono ?_; rintro e wx ⟨rfl, hb⟩
              replace HX := Lib.hid (HX.out.below (by simp) hb)
              replace HB := Lib.hid (bel_call HB.out hb)
              clear hb HK
              go_wp2_with fail
              go_roundg (m.an.length - (j + 1))
              case measure => omega
              case rel => exact ⟨j + 1, by omega, by go_num, HR2, HB, HX⟩
            · have tE : (E != 0) = true := by simpa using hE0
              rw [if_pos hE0] at hst
              have HR2 := Lib.hid hst
              clear hst HR
              go_wp2_with fail
              refine HK.out.mono ?_; rintro e wx ⟨rfl, hb⟩
              replace HB := Lib.hid (bel_call HB.out hb)
              clear hb HK
              go_wp2_with fail
              go_ret
              exact ⟨by rw [← HR2.out]; rfl, HB.out⟩
          have t1 : ¬ ((j : Int) < m.an.length) := by omega
          have hst := HR.out
          rw [fst0_end _ _ _ _ (by omega)] at hst
          clear HR
          have HR := Lib.hid hst
          clear hst
          go_wp2_with fail
          rw [rounds_succ]
          go_wp2_with fail
          refine (HCN.out _ HB.out HX.out).mono ?_; rintro e w8 ⟨rfl, hb⟩
          replace HX := Lib.hid (HX.out.below (by simp) hb)
          replace HB := Lib.hid (bel_call HB.out hb)
          clear hb
          go_wp2_with fail
          go_loopg [35] m.ns.length (fun g v35 wr => ∃ j : Nat, j + g = m.ns.length ∧ v35 = .int .i64 j ∧ Hid (fst0 ((m.ns.drop j).map (fun x => (It.r x).err) ++ (ers m.ar ++ [])) = R) ∧ Hid (Below w.heap.size w wr) ∧ Hid (Cel wr M [.int .i64 i0, .int .i64 i1, q, a, n, r]))
          case atStart => exact ⟨0, by omega, rfl, HR, HB, HX⟩
          case round =>
            clear HR HB HX
            obtain ⟨j, hj, rfl, HR, HB, HX⟩ := hrel
            by_cases hlt : j < m.ns.length
            · have HK := Lib.hid (HKN.out wr HB.out HX.out j hlt)
              have hst := HR.out
              rw [fst0_step _ _ _ _ hlt] at hst
              have hst : (if (It.r m.ns[j]).err ≠ 0 then (It.r m.ns[j]).err else fst0 ((m.ns.drop (j + 1)).map (fun x => (It.r x).err) ++ (ers m.ar ++ []))) = R := hst
              obtain ⟨E, hE⟩ : ∃ E, (It.r m.ns[j]).err = E := ⟨_, rfl⟩
              rw [hE] at HK hst
              clear hE
              by_cases hE0 : E = 0
              · subst hE0
                rw [if_neg (by simp)] at hst
                have HR2 := Lib.hid hst
                clear hst HR
                go_wp2_with fail
                refine HK.out.mono ?_; rintro e wx ⟨rfl, hb⟩
                replace HX := Lib.hid (HX.out.below (by simp) hb)
                replace HB := Lib.hid (bel_call HB.out hb)
                clear hb HK
                go_wp2_with fail
                go_roundg (m.ns.length - (j + 1))
                case measure => omega
                case rel => exact ⟨j + 1, by omega, by go_num, HR2, HB, HX⟩
              · have tE : (E != 0) = true := by simpa using hE0
                rw [if_pos hE0] at hst
                have HR2 := Lib.hid hst
                clear hst HR
                go_wp2_with fail
                refine HK.out.mono ?_; rintro e wx ⟨rfl, hb⟩
                replace HB := Lib.hid (bel_call HB.out hb)
                clear hb HK
                go_wp2_with fail
                go_ret
                exact ⟨by rw [← HR2.out]; rfl, HB.out⟩
            have t1 : ¬ ((j : Int) < m.ns.length) := by omega
            have hst := HR.out
            rw [fst0_end _ _ _ _ (by omega)] at hst
            clear HR
            have HR := Lib.hid hst
            clear hst
            go_wp2_with fail
            rw [rounds_succ]
            go_wp2_with fail
            refine (HCR.out _ HB.out HX.out).mono ?_; rintro e w9 ⟨rfl, hb⟩
            replace HX := Lib.hid (HX.out.below (by simp) hb)
            replace HB := Lib.hid (bel_call HB.out hb)
            clear hb
            go_wp2_with fail
            go_loopg [35] m.ar.length (fun g v35 wr => ∃ j : Nat, j + g = m.ar.length ∧ v35 = .int .i64 j ∧ Hid (fst0 ((m.ar.drop j).map (fun x => (It.r x).err) ++ []) = R) ∧ Hid (Below w.heap.size w wr) ∧ Hid (Cel wr M [.int .i64 i0, .int .i64 i1, q, a, n, r]))
            case atStart => exact ⟨0, by omega, rfl, HR, HB, HX⟩
            case round =>
              clear HR HB HX
              obtain ⟨j, hj, rfl, HR, HB, HX⟩ := hrel
              by_cases hlt : j < m.ar.length
              · have HK := Lib.hid (HKR.out wr HB.out HX.out j hlt)
                have hst := HR.out
                rw [fst0_step _ _ _ _ hlt] at hst
                have hst : (if (It.r m.ar[j]).err ≠ 0 then (It.r m.ar[j]).err else fst0 ((m.ar.drop (j + 1)).map (fun x => (It.r x).err) ++ [])) = R := hst
                obtain ⟨E, hE⟩ : ∃ E, (It.r m.ar[j]).err = E := ⟨_, rfl⟩
                rw [hE] at HK hst
                clear hE
                by_cases hE0 : E = 0
                · subst hE0
                  rw [if_neg (by simp)] at hst
                  have HR2 := Lib.hid hst
                  clear hst HR
                  go_wp2_with fail
                  refine HK.out.mono ?_; rintro e wx ⟨rfl, hb⟩
                  replace HX := Lib.hid (HX.out.below (by simp) hb)
                  replace HB := Lib.hid (bel_call HB.out hb)
                  clear hb HK
                  go_wp2_with fail
                  go_roundg (m.ar.length - (j + 1))
                  case measure => omega
                  case rel => exact ⟨j + 1, by omega, by go_num, HR2, HB, HX⟩
                · have tE : (E != 0) = true := by simpa using hE0
                  rw [if_pos hE0] at hst
                  have HR2 := Lib.hid hst
                  clear hst HR
                  go_wp2_with fail
                  refine HK.out.mono ?_; rintro e wx ⟨rfl, hb⟩
                  replace HB := Lib.hid (bel_call HB.out hb)
                  clear hb HK
                  go_wp2_with fail
                  go_ret
                  exact ⟨by rw [← HR2.out]; rfl, HB.out⟩
              have t1 : ¬ ((j : Int) < m.ar.length) := by omega
              have hst := HR.out
              rw [fst0_end _ _ _ _ (by omega)] at hst
              clear HR
              have HR := Lib.hid hst
              clear hst
              go_wp2_with fail
              rw [rounds_succ]
              go_wp2_with fail
              go_ret
              exact ⟨by rw [← HR.out]; rfl, HB.out⟩
    · rw [decide_eq_true hi] at HI0
      rw [decide_eq_false hfl] at HI1
      have hR2 := HR.out
      rw [if_pos (by omega)] at hR2
      have HR2 := Lib.hid hR2
      have c0 : W.cell? ⟨M, 0, none⟩ = some (.int .i64 i0) := hx.c 0 (by simp)
      have c1 : W.cell? ⟨M, 1, none⟩ = some (.int .i64 i1) := hx.c 1 (by simp)
      clear hx HR hR2
      go_enter Tryz.func28, Tryz.ntmps28
      go_wp2_with fail
      refine (HI0.out _).mono ?_; rintro e w1 ⟨rfl, rfl⟩
      go_wp2_with fail
      refine (HI1.out _).mono ?_; rintro e w1 ⟨rfl, rfl⟩
      go_wp2_with fail
      go_ret
      exact ⟨by rw [← HR2.out]; rfl, HB.out⟩
  · rw [decide_eq_false hi] at HI0
    have hR2 := HR.out
    rw [if_pos (by omega)] at hR2
    have HR2 := Lib.hid hR2
    have c0 : W.cell? ⟨M, 0, none⟩ = some (.int .i64 i0) := hx.c 0 (by simp)
    clear hx HR hR2
    go_enter Tryz.func28, Tryz.ntmps28
    go_wp2_with fail
    refine (HI0.out _).mono ?_; rintro e w1 ⟨rfl, rfl⟩
    go_wp2_with fail
    go_ret
    exact ⟨by rw [← HR2.out]; rfl, HB.out⟩
end Go.Proofs.YtpdaekgldgoalaaGreat
