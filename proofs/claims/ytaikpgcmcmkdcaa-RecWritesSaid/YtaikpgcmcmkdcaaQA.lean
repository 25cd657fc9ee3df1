/-
  The data of a type, part by part, plainly: as a reader goes along them, and as the document cuts them.
-/
import Derived.Test.YtaikpgcmcmkdcaaKg
import Derived.Test.YtaikpgcmcmkdcaaKs
import Derived.Test.YtaikpgcmcmkdcaaKo
import Derived.Laws.OwnMore
import Derived.Outline
import Derived.Laws.Panics
import Derived.Deep.RegionLaw
import Derived.Deep.RegionHeld3
import Derived.BigQuiet
import Derived.Test.YtaikpgcmcmkdcaaKl
import Derived.Maps.Own
import Derived.Maps.OwnSet
import Derived.Defers
import Derived.Recover
import Derived.RegionTactic
import Derived.BigRegion
namespace Go.Proofs.Ytaikpgcmcmkdcaa
open Go.RowKit Go.Shelf
set_option linter.unusedVariables false
set_option maxRecDepth 100000

/-- What a part of data is. -/
inductive PK where
  | fix (n : Nat)
  | nam
  | txt
  | rst
deriving DecidableEq

/-- Of which parts the data of a type are. -/
def kinds (t : Int) : List PK :=
  if t = 1 then [.fix 4] else if t = 28 then [.fix 16] else if t = 2 ∨ t = 5 ∨ t = 12 then [.nam] else if t = 15 then [.fix 2, .nam] else if t = 6 then [.nam, .nam, .fix 20] else if t = 16 then [.txt] else [.rst]

/-- A piece: its bytes, and whether it is a name. -/
abbrev Pc := List UInt8 × Bool

/-- What reading one part comes to. -/
inductive PR where
  | ok (x : Pc) (q : Nat)
  | bad (e : Int) (a : Nat)

/-- What reading all parts comes to. -/
inductive RR where
  | ok (l : List Pc)
  | bad (e : Int) (a : Nat)

/-- The bytes from p up to q, if these are within the data. -/
def cutP (b : List UInt8) (s e p q : Nat) : PR := if e < q then .bad 4 s else .ok ((b.drop p).take (q - p), false) q

/-- Where the texts end that begin at a place; n: at most so many. -/
def txE (b : List UInt8) (e : Nat) : Nat → Nat → Option Nat
  | 0, _ => none
  | n + 1, p => if e < p + 1 then none else (let q := p + (1 + (b.getD p 0).toNat); if q < e then txE b e n q else some q)

/-- One part, from p on; s: where the data begin, e: where they end; F: how a name is read. -/
def stepP (F : Nat → Got) (b : List UInt8) (s e p : Nat) : PK → PR
  | .fix n => cutP b s e p (p + n)
  | .nam => if e < p + 1 then .bad 4 s else if (F p).2.2.1 ≠ 0 then .bad (F p).2.2.1 (F p).2.2.2 else if e < (F p).2.1 then .bad 4 s else .ok ((F p).1, true) (F p).2.1
  | .txt => match txE b e (e + 1) p with | none => .bad 4 s | some q => cutP b s e p q
  | .rst => cutP b s e p e

/-- All parts. -/
def goP (F : Nat → Got) (b : List UInt8) (s e : Nat) : List PK → Nat → List Pc → RR
  | [], p, acc => if p < e then .bad 4 s else .ok acc
  | k :: ks, p, acc => match stepP F b s e p k with | .ok x q => goP F b s e ks q (acc ++ [x]) | .bad c a => .bad c a

/-- A name that stands as its bytes. -/
def pln (b : List UInt8) (p : Nat) : Got := if (rda b p).2.2.1 ≠ 0 ∨ (rda b p).1 ≠ (b.drop p).take ((rda b p).2.1 - p) then ([], 0, 4, 0) else ((rda b p).1, (rda b p).2.1, 0, 0)

/-- The pieces of data, or why they are not those of the type. -/
def spl (t : Int) (d : List UInt8) : RR := if t < 0 ∨ 65535 < t then .bad 5 0 else if 65535 < d.length then .bad 3 0 else goP (pln d) d 0 d.length (kinds t) 0 []

def RR.code : RR → Int
  | .ok _ => 0
  | .bad e _ => e
def RR.pcs : RR → List Pc
  | .ok l => l
  | .bad _ _ => []
def RR.place : RR → Nat
  | .ok _ => 0
  | .bad _ a => a

/-- The data of pieces. -/
def joined (l : List Pc) : List UInt8 := (l.map (·.1)).flatten

/-- What reading data in a message tells. -/
def rdR (b : List UInt8) (a size t : Int) : RR :=
  if t < 0 ∨ 65535 < t ∨ size < 0 ∨ 65535 < size then .bad 2 0 else if a < 0 ∨ (b.length : Int) < a then .bad 5 0 else if (b.length : Int) < a + size then .bad 4 b.length
  else goP (fun p => rda b p) b a.toNat (a.toNat + size.toNat) (kinds t) a.toNat []

/-! ### as the document cuts them -/

/-- How far the labels go with which bytes begin, whatever they are: the place of a byte 0. -/
def frt (s : List UInt8) : Nat → Nat → Option Nat
  | 0, _ => none
  | n + 1, p => if h : p < s.length then (if s[p].toNat = 0 then some p else frt s n (p + (1 + s[p].toNat))) else none
def front (s : List UInt8) : Option Nat := match frt s (s.length + 1) 0 with | none => none | some p => if chk (s.take (p + 1)) = 0 then some (p + 1) else none

/-- Are bytes one text or more? -/
def txs (s : List UInt8) : Nat → Nat → Bool
  | 0, _ => false
  | n + 1, p => if h : p < s.length then txs s n (p + (1 + s[p].toNat)) else decide (p = s.length)
def texts (s : List UInt8) : Bool := decide (s ≠ []) && txs s (s.length + 1) 0

/-- How long a part is. -/
def lenP (s : List UInt8) : PK → Option Nat
  | .fix n => if n ≤ s.length then some n else none
  | .nam => front s
  | .txt => if texts s then some s.length else none
  | .rst => some s.length

/-- Is a part a name? -/
def PK.isNam : PK → Bool
  | .nam => true
  | _ => false

/-- The pieces, and what is left. -/
def cuts : List PK → List UInt8 → Option (List Pc × List UInt8)
  | [], s => some ([], s)
  | k :: ks, s => match lenP s k with | none => none | some n => (cuts ks (s.drop n)).map fun r => ((s.take n, k.isNam) :: r.1, r.2)

end Go.Proofs.Ytaikpgcmcmkdcaa

/-
  The document's packer in memory: its tails, where one stands.
-/
namespace Go.Proofs.Ytaikpgcmcmkdcaa
open Go.RowKit Go.Shelf
set_option linter.unusedVariables false
set_option maxRecDepth 100000

/-- Tails as cells. -/
def kc : List (List UInt8 × Nat) → List Value
  | [] => []
  | p :: r => .string (bs p.1) :: .int .i64 (p.2 : Int) :: kc r

theorem kc_len (K : List (List UInt8 × Nat)) : (kc K).length = K.length * 2 := by
  induction K with
  | nil => rfl
  | cons p r ih => simp [kc, ih]; omega
theorem kc_app (K K' : List (List UInt8 × Nat)) : kc (K ++ K') = kc K ++ kc K' := by
  induction K with
  | nil => rfl
  | cons p r ih => simp [kc, ih]
theorem kc_at : ∀ (K : List (List UInt8 × Nat)) (j : Nat) (h : j < K.length), (kc K)[j * 2]? = some (.string (bs K[j].1)) ∧ (kc K)[j * 2 + 1]? = some (.int .i64 (K[j].2 : Nat))
  | [], j, h => by simp at h
  | p :: r, 0, h => ⟨rfl, rfl⟩
  | p :: r, j + 1, h => by
    obtain ⟨h1, h2⟩ := kc_at r j (by simpa using h)
    rw [show (j + 1) * 2 = j * 2 + 1 + 1 by omega, kc]
    exact ⟨h1, h2⟩
theorem kc_one (K : List (List UInt8 × Nat)) : ∀ u ∈ kc K, u.oneCell' = true := by
  induction K with
  | nil => intro u hu; simp [kc] at hu
  | cons p r ih =>
    intro u hu
    rcases List.mem_cons.mp hu with rfl | hu
    · rfl
    · rcases List.mem_cons.mp hu with rfl | hu
      · rfl
      · exact ih u hu

/-- v is a row of tails of the call's own, in blocks from B on. -/
def OwnK (w : World) (B : Nat) (v : Value) (K : List (List UInt8 × Nat)) : Prop := w.ownsRow B 105 2 v K.length (kc K)

section
variable {w w' : World} {B : Nat} {v : Value} {K : List (List UInt8 × Nat)} {G : Nat → Prop}
theorem OwnK.nil (w : World) (B : Nat) : OwnK w B (.slice none 0 0) [] := World.ownsRow_nil _ _ _ _
theorem OwnK.lt (h : OwnK w B v K) : ∀ k, v.ownBlock = some k → B ≤ k ∧ k < w.heap.size := World.ownsRow.lt h
theorem OwnK.aside (h : OwnK w B v K) (ha : Aside G w w') (hG : ∀ b, v.ownBlock = some b → ¬ G b) : OwnK w' B v K := by
  have hlt := h.lt
  refine ⟨h.1, ?_⟩
  rcases h.2 with h2 | ⟨g, cap, cur, hv, hg, hh, r⟩
  · exact .inl h2
  · exact .inr ⟨g, cap, cur, hv, hg, (ha.block g (by subst hv; exact (hlt g rfl).2) (hG g (by rw [hv]; rfl))).trans hh, r⟩
theorem OwnK.below (h : OwnK w B v K) (hb : Below w.heap.size w w') : OwnK w' B v K := h.aside (G := fun _ => False) (Aside.of_all hb) fun _ _ h => h
theorem OwnK.shape (h : OwnK w B v K) : ∃ a c, v = .slice a K.length c := by
  rcases h.2 with ⟨rfl, h0⟩ | ⟨g, cap, cur, rfl, _⟩
  · exact ⟨none, 0, by rw [h0]⟩
  · exact ⟨_, cap, rfl⟩
theorem OwnK.at_ (h : OwnK w B v K) (j : Nat) (hj : j < K.length) : ∃ g c, v = .slice (some ⟨g, 0, none⟩) K.length c ∧ w.cell? ⟨g, j * 2, none⟩ = some (.string (bs K[j].1)) ∧ w.cell? ⟨g, j * 2 + 1, none⟩ = some (.int .i64 (K[j].2 : Nat)) := by
  have hc := fun g hg => World.ownsRow.cells h (g := g) hg
  rcases h.2 with ⟨rfl, h0⟩ | ⟨g, cap, cur, rfl, _⟩
  · omega
  · obtain ⟨h1, h2⟩ := kc_at K j hj
    have e1 := hc g rfl _ _ h1
    have e2 := hc g rfl _ _ h2
    rw [WideShapes.add_plain, Nat.zero_add] at e1 e2
    exact ⟨g, cap, rfl, e1, e2⟩
end

theorem info_tail : (Try.prog.info? 105).map (fun i => (i.zero, i.size, i.bytes)) = some (some (.agg #[.string ⟨#[]⟩, .int .i64 0]), 2, 24) := by kernel_rfl

/-- append of tails, that lie in a row. -/
theorem run_appK {w : World} (B : Nat) (v : Value) (K K' : List (List UInt8 × Nat)) (g c : Nat) (hown : OwnK w B v K) (hx : ∀ j u, (kc K')[j]? = some u → w.cell? ⟨g, j, none⟩ = some u) (hb : K.length + K'.length ≤ 1000000) (hB : B ≤ w.heap.size) :
    ∃ a' c' w', (Builtin.append_ #[34, 34] 34 #[v, .slice (some ⟨g, 0, none⟩) K'.length c]).run Try.prog w = .ok (.slice a' (K.length + K'.length) c') w' ∧ OwnK w' B (.slice a' (K.length + K'.length) c') (K ++ K') ∧ Aside (fun b => v.ownBlock = some b) w w' := by
  obtain ⟨i0, hi, hz0, hz1, hz2⟩ := info_parts info_tail
  obtain ⟨v', w', h1, h2, h3, _⟩ := run_append_own (P := Try.prog) w B 34 34 105 i0 _ 2 24 Try.underlying34 hi hz0 hz1 hz2 rfl (by decide) v K.length (kc K) hown ⟨g, 0, none⟩ K'.length c (kc K') (kc_len K')
    (fun j u hu => by rw [WideShapes.add_plain, Nat.zero_add]; exact hx j u hu) (kc_one K') (by unfold maxLen; omega) (by omega) hB
  have h4 : OwnK w' B v' (K ++ K') := by
    unfold OwnK
    rw [List.length_append, kc_app]
    exact h2
  obtain ⟨a', c', hv⟩ := h4.shape
  rw [List.length_append] at hv
  subst hv
  exact ⟨a', c', w', h1, h4, Aside.grown h3 fun _ h => h⟩

/-- append of no tails. -/
theorem run_appK0 {w : World} (B : Nat) (v : Value) (K : List (List UInt8 × Nat)) (hown : OwnK w B v K) :
    (Builtin.append_ #[34, 34] 34 #[v, .slice none 0 0]).run Try.prog w = .ok v w := by
  obtain ⟨i0, hi, hz0, hz1, hz2⟩ := info_parts info_tail
  exact run_append_owned_none (P := Try.prog) (w := w) B _ _ _ i0 2 Try.underlying34 hi v K.length (kc K) hown

/-- append of tails that the call made. -/
theorem run_appKs {w : World} (B B' : Nat) (v v2 : Value) (K K' : List (List UInt8 × Nat)) (hown : OwnK w B v K) (h2 : OwnK w B' v2 K') (hb : K.length + K'.length ≤ 1000000) (hB : B ≤ w.heap.size) :
    ∃ a' c' w', (Builtin.append_ #[34, 34] 34 #[v, v2]).run Try.prog w = .ok (.slice a' (K.length + K'.length) c') w' ∧ OwnK w' B (.slice a' (K.length + K'.length) c') (K ++ K') ∧ Aside (fun b => v.ownBlock = some b) w w' := by
  have hc := fun g hg => World.ownsRow.cells h2 (g := g) hg
  rcases h2.2 with ⟨rfl, h0⟩ | ⟨g, cap, cur, rfl, _⟩
  · have e : K' = [] := List.eq_nil_of_length_eq_zero h0
    subst e
    have h1 := run_appK0 B v K hown
    obtain ⟨a', c', rfl⟩ := hown.shape
    exact ⟨a', c', w, h1, by rw [List.append_nil]; exact hown, Aside.refl _ _⟩
  · exact run_appK B v K K' g cap hown (fun j u hu => by have := hc g rfl j u hu; rwa [WideShapes.add_plain, Nat.zero_add] at this) hb hB

/-- Rows of bytes and of tails lie in different blocks. -/
theorem apart_BK {w : World} {B B' : Nat} {v v' : Value} {l : List UInt8} {K : List (List UInt8 × Nat)} (h : OwnB w B v l) (h' : OwnK w B' v' K) (b : Nat) (h1 : v.ownBlock = some b) (h2 : v'.ownBlock = some b) : False := by
  rcases h with ⟨rfl, _⟩ | ⟨g, cap, fz, rfl, _, _, _, _, hg⟩
  · simp [Value.ownBlock] at h1
  · rcases h'.2 with ⟨rfl, _⟩ | ⟨g', cap', cur, rfl, _, hg', _⟩
    · simp [Value.ownBlock] at h2
    · simp [Value.ownBlock] at h1 h2
      subst h1; subst h2
      rw [hg] at hg'
      injection hg' with hg'
      injection hg' with _ h3 _
      exact absurd h3 (by decide)

/-- Block q is the document's packer: it knows the tails K, in the row v; its last name ended at e. -/
structure Rk (w : World) (B q : Nat) (v : Value) (K : List (List UInt8 × Nat)) (e : Nat) : Prop where
  row : w.cell? ⟨q, 0, none⟩ = some v
  fin : w.cell? ⟨q, 1, none⟩ = some (.int .i64 e)
  free : ∀ j, w.frozen? ⟨q, j, none⟩ = false
  own : OwnK w B v K
  lt : q < B
  size : B ≤ w.heap.size

theorem Rk.aside {w w' : World} {B q e : Nat} {v : Value} {K : List (List UInt8 × Nat)} {G : Nat → Prop} (h : Rk w B q v K e) (ha : Aside G w w') (hq : ¬ G q) (hG : ∀ b, v.ownBlock = some b → ¬ G b) : Rk w' B q v K e := by
  have hlt : q < w.heap.size := World.block_lt_of_cell? w _ h.row
  exact ⟨ha.cell_lt h.row hq, ha.cell_lt h.fin hq, fun j => (ha.frozen (p := ⟨q, j, none⟩) hlt hq).trans (h.free j), h.own.aside ha hG, h.lt, Nat.le_trans h.size ha.size⟩
theorem Rk.later {w w' : World} {B q e : Nat} {v : Value} {K : List (List UInt8 × Nat)} (h : Rk w B q v K e) (hb : Below w.heap.size w w') : Rk w' B q v K e := h.aside (G := fun _ => False) (Aside.of_all hb) (fun h => h) fun _ _ h => h

theorem plc_hit {K : List (List UInt8 × Nat)} {t : List UInt8} {k : Nat} (hk : k < K.length) (h : plc (K.take k) t = none) (e : K[k].1 = t) : plc K t = some K[k].2 := by
  obtain ⟨y, hy⟩ : ∃ y, K[k] = y := ⟨_, rfl⟩
  rw [hy] at e ⊢
  have : K = K.take k ++ ([y] ++ K.drop (k + 1)) := by
    conv => lhs; rw [← List.take_append_drop k K, List.drop_eq_getElem_cons hk, hy]
    rfl
  rw [this, plc_app, h, Option.none_or, plc_app]
  have h1 : plc [y] t = some y.2 := by
    have := plc_one y.1 t y.2
    rw [if_pos e] at this
    exact this
  rw [h1, Option.some_or]
theorem plc_miss {K : List (List UInt8 × Nat)} {t : List UInt8} {k : Nat} (hk : k < K.length) (h : plc (K.take k) t = none) (e : ¬ K[k].1 = t) : plc (K.take (k + 1)) t = none := by
  rw [List.take_add_one, List.getElem?_eq_getElem hk, Option.toList_some, plc_app, h, Option.none_or]
  have := plc_one K[k].1 t K[k].2
  rw [if_neg e] at this
  exact this

set_option maxHeartbeats 1000000 in
theorem place_any {w : World} {B q e : Nat} {v : Value} {K : List (List UInt8 × Nat)} (h : Rk w B q v K e) (hK : K.length ≤ 1000000) (t : List UInt8) :
    Calls Try.prog 66 #[.pointer (some ⟨q, 0, none⟩), .string (bs t)] w fun x w' => x = .returned (.int .i64 (match plc K t with | some x => (x : Int) | none => -1)) ∧ w = w' := by
  have HO := Lib.hid h.own
  have c1 := h.row
  obtain ⟨av, cv, rfl⟩ := h.own.shape
  obtain ⟨r, hr⟩ : ∃ r : Int, (match plc K t with | some x => (x : Int) | none => -1) = r := ⟨_, rfl⟩
  rw [hr]
  have HR := Lib.hid hr
  clear hr h
  go_enter Try.func66, Try.ntmps66
  go_wp2
  go_loopg [5] K.length (fun g v3 wr => ∃ k : Nat, k + g = K.length ∧ v3 = .int .i64 k ∧ Hid (plc (K.take k) t = none) ∧ w = wr)
  case atStart => exact ⟨0, by omega, rfl, rfl, rfl⟩
  case round =>
    obtain ⟨k, hk, rfl, HP, rfl⟩ := hrel
    by_cases hkl : k < K.length
    · obtain ⟨g, c, he, k0, k1⟩ := HO.out.at_ k hkl
      injection he with he1 he2 he3
      subst he1
      clear he2 he3
      by_cases heq : K[k].1 = t
      · have HE := Lib.hid (show r = (K[k].2 : Nat) by rw [← HR.out, plc_hit hkl HP.out heq])
        obtain ⟨z, hz⟩ : ∃ z, K[k].2 = z := ⟨_, rfl⟩
        rw [hz] at k1 HE
        rw [heq] at k0
        have ht : ((bs t).toList == (bs t).toList) = true := by simp
        clear hz HP heq
        go_wp2_with fail
        go_ret
        exact ⟨by rw [HE.out]; rfl, rfl⟩
      · have HM := Lib.hid (plc_miss hkl HP.out heq)
        obtain ⟨y, hy⟩ : ∃ y, K[k].1 = y := ⟨_, rfl⟩
        rw [hy] at k0 heq
        have ht : ((bs y).toList == (bs t).toList) = false := by rw [bs_toList, bs_toList]; simpa using heq
        clear hy HP heq
        go_wp2_with fail
        go_roundg (K.length - (k + 1))
        case measure => omega
        case rel => exact ⟨k + 1, by omega, by go_num, HM, rfl⟩
    · have HE := Lib.hid (show r = -1 by rw [← HR.out]; have := HP.out; rw [List.take_of_length_le (by omega)] at this; rw [this])
      clear HP
      have t1 : ¬ ((k : Int) < K.length) := by omega
      go_wp2_with fail
      go_ret
      exact ⟨by rw [HE.out]; rfl, rfl⟩
end Go.Proofs.Ytaikpgcmcmkdcaa

/-
  Pieces in memory: rows of them that the call made.
-/
namespace Go.Proofs.Ytaikpgcmcmkdcaa
open Go.RowKit Go.Shelf
set_option linter.unusedVariables false
set_option maxRecDepth 100000

/-- Pieces as cells. -/
def pcc : List Pc → List Value
  | [] => []
  | p :: r => .string (bs p.1) :: .bool p.2 :: pcc r

theorem pcc_len (K : List Pc) : (pcc K).length = K.length * 2 := by
  induction K with
  | nil => rfl
  | cons p r ih => simp [pcc, ih]; omega
theorem pcc_app (K K' : List Pc) : pcc (K ++ K') = pcc K ++ pcc K' := by
  induction K with
  | nil => rfl
  | cons p r ih => simp [pcc, ih]
theorem pcc_at : ∀ (K : List Pc) (j : Nat) (h : j < K.length), (pcc K)[j * 2]? = some (.string (bs K[j].1)) ∧ (pcc K)[j * 2 + 1]? = some (.bool K[j].2)
  | [], j, h => by simp at h
  | p :: r, 0, h => ⟨rfl, rfl⟩
  | p :: r, j + 1, h => by
    obtain ⟨h1, h2⟩ := pcc_at r j (by simpa using h)
    rw [show (j + 1) * 2 = j * 2 + 1 + 1 by omega, pcc]
    exact ⟨h1, h2⟩
theorem pcc_one (K : List Pc) : ∀ u ∈ pcc K, u.oneCell' = true := by
  induction K with
  | nil => intro u hu; simp [pcc] at hu
  | cons p r ih =>
    intro u hu
    rcases List.mem_cons.mp hu with rfl | hu
    · rfl
    · rcases List.mem_cons.mp hu with rfl | hu
      · rfl
      · exact ih u hu
theorem pcc_set : ∀ (K : List Pc) (j : Nat) (h : j < K.length) (y : List UInt8), (pcc K).set (j * 2) (.string (bs y)) = pcc (K.set j (y, K[j].2))
  | [], j, h, y => by simp at h
  | p :: r, 0, h, y => rfl
  | p :: r, j + 1, h, y => by
    have h1 := pcc_set r j (by simpa using h) y
    rw [show (j + 1) * 2 = j * 2 + 1 + 1 by omega]
    simp only [pcc, List.set_cons_succ, List.getElem_cons_succ]
    rw [h1]

/-- v is a row of pieces of the call's own, in blocks from B on. -/
def OwnP (w : World) (B : Nat) (v : Value) (K : List Pc) : Prop := w.ownsRow B 107 2 v K.length (pcc K)

section
variable {w w' : World} {B : Nat} {v : Value} {K : List Pc} {G : Nat → Prop}
theorem OwnP.nil (w : World) (B : Nat) : OwnP w B (.slice none 0 0) [] := World.ownsRow_nil _ _ _ _
theorem OwnP.lt (h : OwnP w B v K) : ∀ k, v.ownBlock = some k → B ≤ k ∧ k < w.heap.size := World.ownsRow.lt h
theorem OwnP.mono {B' : Nat} (h : OwnP w B v K) (hB : B' ≤ B) : OwnP w B' v K := by
  refine ⟨h.1, ?_⟩
  rcases h.2 with h2 | ⟨g, cap, cur, hv, hg, r⟩
  · exact .inl h2
  · exact .inr ⟨g, cap, cur, hv, Nat.le_trans hB hg, r⟩
theorem OwnP.aside (h : OwnP w B v K) (ha : Aside G w w') (hG : ∀ b, v.ownBlock = some b → ¬ G b) : OwnP w' B v K := by
  have hlt := h.lt
  refine ⟨h.1, ?_⟩
  rcases h.2 with h2 | ⟨g, cap, cur, hv, hg, hh, r⟩
  · exact .inl h2
  · exact .inr ⟨g, cap, cur, hv, hg, (ha.block g (by subst hv; exact (hlt g rfl).2) (hG g (by rw [hv]; rfl))).trans hh, r⟩
theorem OwnP.below (h : OwnP w B v K) (hb : Below w.heap.size w w') : OwnP w' B v K := h.aside (G := fun _ => False) (Aside.of_all hb) fun _ _ h => h
theorem OwnP.shape (h : OwnP w B v K) : ∃ a c, v = .slice a K.length c := by
  rcases h.2 with ⟨rfl, h0⟩ | ⟨g, cap, cur, rfl, _⟩
  · exact ⟨none, 0, by rw [h0]⟩
  · exact ⟨_, cap, rfl⟩
theorem OwnP.at_ (h : OwnP w B v K) (j : Nat) (hj : j < K.length) : ∃ g c, v = .slice (some ⟨g, 0, none⟩) K.length c ∧ w.cell? ⟨g, j * 2, none⟩ = some (.string (bs K[j].1)) ∧ w.cell? ⟨g, j * 2 + 1, none⟩ = some (.bool K[j].2) := by
  have hc := fun g hg => World.ownsRow.cells h (g := g) hg
  rcases h.2 with ⟨rfl, h0⟩ | ⟨g, cap, cur, rfl, _⟩
  · omega
  · obtain ⟨h1, h2⟩ := pcc_at K j hj
    have e1 := hc g rfl _ _ h1
    have e2 := hc g rfl _ _ h2
    rw [WideShapes.add_plain, Nat.zero_add] at e1 e2
    exact ⟨g, cap, rfl, e1, e2⟩
/-- A piece's bytes written over. -/
theorem OwnP.set {g c : Nat} (h : OwnP w B (.slice (some ⟨g, 0, none⟩) K.length c) K) (j : Nat) (hj : j < K.length) (y : List UInt8) :
    OwnP (w.setCell ⟨g, j * 2, none⟩ (.string (bs y))) B (.slice (some ⟨g, 0, none⟩) K.length c) (K.set j (y, K[j].2)) ∧ w.frozen? ⟨g, j * 2, none⟩ = false := by
  refine ⟨?_, World.ownsRow.frozenAt h _⟩
  have := (World.ownsRow.stored h (j * 2) (.string (bs y))).1
  rw [pcc_set K j hj y] at this
  unfold OwnP
  rw [List.length_set]
  exact this
end

theorem info_pc : (Try.prog.info? 107).map (fun i => (i.zero, i.size, i.bytes)) = some (some (.agg #[.string ⟨#[]⟩, .bool false]), 2, 24) := by kernel_rfl

/-- append of one piece. -/
theorem run_appP {w : World} (B : Nat) (v : Value) (K : List Pc) (x : Pc) (g c : Nat) (hown : OwnP w B v K) (h0 : w.cell? ⟨g, 0, none⟩ = some (.string (bs x.1))) (h1 : w.cell? ⟨g, 1, none⟩ = some (.bool x.2)) (hb : K.length + 1 ≤ 1000000) (hB : B ≤ w.heap.size) :
    ∃ a' c' w', (Builtin.append_ #[88, 88] 88 #[v, .slice (some ⟨g, 0, none⟩) 1 c]).run Try.prog w = .ok (.slice a' (K.length + 1) c') w' ∧ OwnP w' B (.slice a' (K.length + 1) c') (K ++ [x]) ∧ Aside (fun b => v.ownBlock = some b) w w' := by
  obtain ⟨i0, hi, hz0, hz1, hz2⟩ := info_parts info_pc
  obtain ⟨v', w', r1, r2, r3, _⟩ := run_append_own (P := Try.prog) w B 88 88 107 i0 _ 2 24 Try.underlying88 hi hz0 hz1 hz2 rfl (by decide) v K.length (pcc K) hown ⟨g, 0, none⟩ 1 c (pcc [x]) (pcc_len [x])
    (fun j u hu => by
      rw [WideShapes.add_plain, Nat.zero_add]
      match j, hu with
      | 0, hu => simp [pcc] at hu; rw [h0, hu]
      | 1, hu => simp [pcc] at hu; rw [h1, hu]
      | j + 2, hu => simp [pcc] at hu) (pcc_one [x]) (by unfold maxLen; omega) (by omega) hB
  have h4 : OwnP w' B v' (K ++ [x]) := by
    unfold OwnP
    rw [List.length_append, pcc_app]
    exact r2
  obtain ⟨a', c', hv⟩ := h4.shape
  rw [List.length_append] at hv
  subst hv
  exact ⟨a', c', w', r1, h4, Aside.grown r3 fun _ h => h⟩
end Go.Proofs.Ytaikpgcmcmkdcaa

/-
  A reader of data in memory: fail, reach.
-/
namespace Go.Proofs.Ytaikpgcmcmkdcaa
open Go.RowKit Go.Shelf
set_option linter.unusedVariables false
set_option linter.unusedSimpArgs false
set_option maxRecDepth 100000

/-- Block r is a reader: of which bytes, where the data begin, where one stands, where they end, how names are read, the pieces so far. -/
structure Rr (w : World) (B r : Nat) (vb vf : Value) (s p e : Nat) (acc : List Pc) : Prop where
  c0 : w.cell? ⟨r, 0, none⟩ = some vb
  c1 : w.cell? ⟨r, 1, none⟩ = some (.int .i64 s)
  c2 : w.cell? ⟨r, 2, none⟩ = some (.int .i64 p)
  c3 : w.cell? ⟨r, 3, none⟩ = some (.int .i64 e)
  c4 : w.cell? ⟨r, 4, none⟩ = some vf
  c5 : ∃ vp, w.cell? ⟨r, 5, none⟩ = some vp ∧ OwnP w B vp acc
  free : ∀ j, w.frozen? ⟨r, j, none⟩ = false
  lt : r < B
  size : B ≤ w.heap.size

/-- What a reader's parts turn: its own block, and what is new. -/
def RG (B r : Nat) (b : Nat) : Prop := b = r ∨ B ≤ b

section
variable {w w' : World} {B r s p e : Nat} {vb vf : Value} {acc : List Pc}
theorem Rr.rlt (h : Rr w B r vb vf s p e acc) : r < w.heap.size := Nat.lt_of_lt_of_le h.lt h.size
theorem Rr.later (h : Rr w B r vb vf s p e acc) (hb : Below w.heap.size w w') : Rr w' B r vb vf s p e acc := by
  obtain ⟨vp, h5, h6⟩ := h.c5
  exact ⟨cell_later hb h.c0, cell_later hb h.c1, cell_later hb h.c2, cell_later hb h.c3, cell_later hb h.c4, ⟨vp, cell_later hb h5, h6.below hb⟩, fun j => (hb.frozen (p := ⟨r, j, none⟩) h.rlt).trans (h.free j), h.lt, Nat.le_trans h.size hb.size⟩
end

/-- What a part that does not fit is panicked with. -/
def mis (e : Int) (a : Nat) : List PanicEntry := [{ v := .iface 137 (.agg #[.int .i64 e, .int .i64 a]), recovered := false }]

set_option maxHeartbeats 400000 in
theorem rfail_any {w : World} {B r s p e : Nat} {vb vf : Value} {acc : List Pc} (h : Rr w B r vb vf s p e acc) : Calls Try.prog 97 #[.pointer (some ⟨r, 0, none⟩)] w fun en w' => en = .panicked (mis 4 s) ∧ w' = w := by
  have h1 := h.c1
  go_enter Try.func97, Try.ntmps97
  go_wp2
  exact ⟨rfl, rfl, rfl⟩

set_option maxHeartbeats 400000 in
theorem reach_no {w : World} {B r s p e : Nat} {vb vf : Value} {acc : List Pc} (h : Rr w B r vb vf s p e acc) (q : Nat) (hq : e < q) : Calls Try.prog 112 #[.pointer (some ⟨r, 0, none⟩), .int .i64 q] w fun en w' => en = .panicked (mis 4 s) ∧ w' = w := by
  have HF := Lib.hid (rfail_any h)
  have h3 := h.c3
  have t1 : decide ((e : Int) < q) = true := by simp; omega
  clear h
  go_enter Try.func112, Try.ntmps112
  go_wp2_with fail
  refine HF.out.mono ?_; rintro en w1 ⟨rfl, rfl⟩
  exact ⟨rfl, rfl, rfl⟩

set_option maxHeartbeats 400000 in
theorem reach_yes {w : World} {B r s p e : Nat} {vb vf : Value} {acc : List Pc} (h : Rr w B r vb vf s p e acc) (q : Nat) (hq : ¬ e < q) : Calls Try.prog 112 #[.pointer (some ⟨r, 0, none⟩), .int .i64 q] w fun en w' => en = .returned (.tuple #[]) ∧ w = w' := by
  have h3 := h.c3
  have t1 : decide ((e : Int) < q) = false := by simp; omega
  clear h
  go_enter Try.func112, Try.ntmps112
  go_wp2_with fail
  go_end0
  exact ⟨rfl, rfl⟩
end Go.Proofs.Ytaikpgcmcmkdcaa

/-
  A reader of data in memory: add.
-/
namespace Go.Proofs.Ytaikpgcmcmkdcaa
open Go.RowKit Go.Shelf
set_option linter.unusedVariables false
set_option linter.unusedSimpArgs false
set_option maxRecDepth 100000

/-- A piece is kept, and one goes on. -/
theorem Rr.added {w W : World} {B r s p e : Nat} {vb vf : Value} {acc : List Pc} (h : Rr w B r vb vf s p e acc) (hW : Below w.heap.size w W) (x : Pc) (g : Nat) (h0 : W.cell? ⟨g, 0, none⟩ = some (.string (bs x.1))) (h1 : W.cell? ⟨g, 1, none⟩ = some (.bool x.2)) (hl : acc.length + 1 ≤ 1000000) (q : Nat) :
    ∃ vp a c W2, W.cell? ⟨r, 5, none⟩ = some vp ∧ (Builtin.append_ #[88, 88] 88 #[vp, .slice (some ⟨g, 0, none⟩) 1 1]).run Try.prog W = .ok (.slice a (acc.length + 1) c) W2 ∧
      W2.cell? ⟨r, 5, none⟩ = some vp ∧ (∀ j, W2.frozen? ⟨r, j, none⟩ = false) ∧ W2.cell? ⟨r, 2, none⟩ = some (.int .i64 p) ∧
      Rr ((W2.setCell ⟨r, 5, none⟩ (.slice a (acc.length + 1) c)).setCell ⟨r, 2, none⟩ (.int .i64 q)) B r vb vf s q e (acc ++ [x]) ∧ Aside (RG B r) w ((W2.setCell ⟨r, 5, none⟩ (.slice a (acc.length + 1) c)).setCell ⟨r, 2, none⟩ (.int .i64 q)) := by
  have hR := h.later hW
  obtain ⟨vp, h5, h6⟩ := hR.c5
  obtain ⟨a, c, W2, hr, ho, ha⟩ := run_appP (w := W) B vp acc x g 1 h6 h0 h1 hl hR.size
  have hlt := hR.lt
  have hrG : ¬ vp.ownBlock = some r := fun hv => by have := (h6.lt r hv).1; omega
  have g0 := ha.cell_lt hR.c0 hrG
  have g1 := ha.cell_lt hR.c1 hrG
  have g2 := ha.cell_lt hR.c2 hrG
  have g3 := ha.cell_lt hR.c3 hrG
  have g4 := ha.cell_lt hR.c4 hrG
  have g5 := ha.cell_lt h5 hrG
  have gf : ∀ j, W2.frozen? ⟨r, j, none⟩ = false := fun j => (ha.frozen (p := ⟨r, j, none⟩) hR.rlt hrG).trans (hR.free j)
  have s1 : Aside (fun b => b = r) W2 (W2.setCell ⟨r, 5, none⟩ (.slice a (acc.length + 1) c)) := Aside.setCell _ _ rfl
  have s2 : Aside (fun b => b = r) (W2.setCell ⟨r, 5, none⟩ (.slice a (acc.length + 1) c)) ((W2.setCell ⟨r, 5, none⟩ (.slice a (acc.length + 1) c)).setCell ⟨r, 2, none⟩ (.int .i64 q)) := Aside.setCell _ _ rfl
  have hs := s1.trans s2
  refine ⟨vp, a, c, W2, h5, hr, g5, gf, g2, ⟨?_, ?_, ?_, ?_, ?_, ⟨.slice a (acc.length + 1) c, ?_, ?_⟩, fun j => by rw [World.frozen?_setCell, World.frozen?_setCell]; exact gf j, hlt, Nat.le_trans hR.size (Nat.le_trans ha.size hs.size)⟩, ?_⟩
  · rw [World.cell?_setCell_other _ _ _ _ (by simp), World.cell?_setCell_other _ _ _ _ (by simp)]; exact g0
  · rw [World.cell?_setCell_other _ _ _ _ (by simp), World.cell?_setCell_other _ _ _ _ (by simp)]; exact g1
  · exact World.cell?_setCell_same _ _ _ (by rw [World.cell?_setCell_other _ _ _ _ (by simp)]; exact g2)
  · rw [World.cell?_setCell_other _ _ _ _ (by simp), World.cell?_setCell_other _ _ _ _ (by simp)]; exact g3
  · rw [World.cell?_setCell_other _ _ _ _ (by simp), World.cell?_setCell_other _ _ _ _ (by simp)]; exact g4
  · rw [World.cell?_setCell_other _ _ _ _ (by simp)]; exact World.cell?_setCell_same _ _ _ g5
  · exact ho.aside hs fun b hb e => by have := (ho.lt b hb).1; omega
  · have hA : Aside (RG B r) w W := Aside.of_all hW
    exact (hA.trans (ha.mono fun b _ hb => .inr (h6.lt b hb).1)).trans (hs.mono fun b _ hb => .inl hb)

/-- A part that was read. -/
def Gone (w : World) (B r : Nat) (vb vf : Value) (s e : Nat) (q : Nat) (acc : List Pc) (en : Ending) (w' : World) : Prop := en = .returned (.tuple #[]) ∧ Rr w' B r vb vf s q e acc ∧ Aside (RG B r) w w'
/-- A part that does not fit. -/
def Lost (w : World) (B r : Nat) (c : Int) (a : Nat) (en : Ending) (w' : World) : Prop := en = .panicked (mis c a) ∧ Aside (RG B r) w w'

/-- An append that runs so, as one step of a region that draws its order. -/
theorem step_app_run {ops : Array Oper} {o : Oper} {a : Act} {w w' : World} {v v' xv : Value} {K : Act → World → Prop} {Q : Exit → Act → World → Prop} {E : Prop} (hgd : o.guard = none) (s x : Operand) (t u : TypeId)
    (ho : o.op = .call { callee := .builtin .append, args := #[s, x], argTypes := #[t, u] }) (hs : a.eval s = v) (hx : a.eval x = xv) (hrun : (Builtin.append_ #[t, u] o.type #[v, xv]).run Try.prog w = .ok v' w') (h : K (a.put o.dst v') w') :
    if Region.wanted o (yielded ops a.tmps) = true then Oper.wp Try.prog o a w K Q else E := by
  rw [if_pos (by simp [Region.wanted, hgd])]
  unfold Oper.wp
  simp [execOp, ho, resolve, invoke, builtin, hs, hx, hrun, Result.andThen]
  exact h

set_option maxHeartbeats 2000000 in
theorem add_any {w : World} {B r s p e : Nat} {vb vf : Value} {acc : List Pc} (h : Rr w B r vb vf s p e acc) (x : Pc) (q : Nat) (hl : acc.length + 1 ≤ 1000000) :
    Calls Try.prog 113 #[.pointer (some ⟨r, 0, none⟩), .agg #[.string (bs x.1), .bool x.2], .int .i64 q] w (Gone w B r vb vf s e q (acc ++ [x])) := by
  have HA := Lib.hid (fun W hW g h0 h1 => h.added (W := W) hW x g h0 h1 hl q)
  have hrl := h.rlt
  obtain ⟨vp, h5, _⟩ := h.c5
  obtain ⟨x1, x2⟩ := x
  obtain ⟨vp', a2, c2, W2, q5, hr, k5, kf, k2, hR, hA⟩ := HA.out (((w.alloc (.cells #[.string (bs x1), .bool x2] 107)).drew).alloc (.cells #[.string (bs x1), .bool x2] 107)) ((((Below.refl _ w).alloc (Nat.le_refl _) _).drew).alloc (by simp [World.drew]) _) (w.heap.size + 1) (by simp [go_sem]) (by simp [go_sem])
  have e : vp' = vp := by
    have := cell_later ((((Below.refl _ w).alloc (Nat.le_refl _) (.cells #[.string (bs x1), .bool x2] 107)).drew).alloc (by simp [World.drew]) (.cells #[.string (bs x1), .bool x2] 107)) h5
    rw [this] at q5
    injection q5 with q5
    exact q5.symm
  subst e
  have HRUN := Lib.hid hr
  have HFIN := Lib.hid (And.intro hR hA)
  have kf5 := kf 5
  have kf2 := kf 2
  have k2b : (W2.setCell ⟨r, 5, none⟩ (.slice a2 (acc.length + 1) c2)).cell? ⟨r, 2, none⟩ = some (.int .i64 p) := by rw [World.cell?_setCell_other _ _ _ _ (by simp)]; exact k2
  clear HA hr hR hA q5 h kf
  go_enter Try.func113, Try.ntmps113
  go_wp2_with fail
  go_region_law (refine step_app_run rfl (.tmp 10) (.tmp 12) 88 88 rfl rfl rfl HRUN.out ?_)
  all_goals
    try go_wp2_with fail
    go_end0
    exact ⟨rfl, HFIN.out⟩
end Go.Proofs.Ytaikpgcmcmkdcaa

/-
  A reader of data in memory: take, rest, fixed.
-/
namespace Go.Proofs.Ytaikpgcmcmkdcaa
open Go.RowKit Go.Shelf
set_option linter.unusedVariables false
set_option linter.unusedSimpArgs false
set_option maxRecDepth 100000

/-- The text of a slice of bytes. -/
theorem conv_back {w : World} {lo hi : Nat} {v : Value} {b : List UInt8} (h : Sl w lo hi v (iz b)) : (convert 43 9 v).run Try.prog w = .ok (.string (bs b)) w := by
  obtain ⟨a, c, rfl, hc, hn, hp⟩ := h
  rw [iz_len] at hp ⊢
  by_cases h0 : 0 < b.length
  · obtain ⟨g, off, rfl, _, _, hx⟩ := hp h0
    exact run_convert_bytes_back (P := Try.prog) w 43 9 5 ⟨g, off, none⟩ c b Try.underlying43 Try.underlying5 Try.underlying9 (fun j hj => by
      rw [WideShapes.add_plain, hx j hj, iz_get b j hj])
  · have hl : b = [] := List.eq_nil_of_length_eq_zero (by omega)
    subst hl
    rcases a with _ | ad
    · rw [List.length_nil, run_convert_bytes_nil w 43 5 Try.underlying43 Try.underlying5 _ c 9 Try.underlying9]; rfl
    · rw [run_convert_bytes_string w 43 9 5 _ _ c Try.underlying43 Try.underlying5 Try.underlying9, run_bytesToString w ad _ c [] (by simpa using run_loadCells_list (P := Try.prog) w ad [] (by simp))]
      rfl

/-- A slice's bytes, from one place up to another one. -/
theorem cut_sl {w : World} {lo hi : Nat} {v : Value} {b : List UInt8} (h : Sl w lo hi v (iz b)) (p q : Nat) (hpq : p ≤ q) (hq : q ≤ b.length) :
    ∃ sv, (∀ wx, (Instr.slice 43 v (some (.int .i64 p)) (some (.int .i64 q)) none).run Try.prog wx = .ok sv wx) ∧ Sl w lo hi sv (iz ((b.drop p).take (q - p))) := by
  have hs := h
  obtain ⟨a, c, rfl, _⟩ := h
  obtain ⟨sv, h1, h2⟩ := slice_cut (p := p) (m := q - p) hs (by rw [iz_len]; omega)
  rw [iz_cut] at h2
  refine ⟨sv, fun wx => ?_, h2⟩
  have := h1 wx
  rwa [show ((p : Int) + ((q - p : Nat) : Int)) = (q : Int) by omega] at this

/-- What a step of the plain reader is in memory. -/
def StepPost (w : World) (B r : Nat) (vb vf : Value) (s e : Nat) (acc : List Pc) : PR → Ending → World → Prop
  | .ok x q => Gone w B r vb vf s e q (acc ++ [x])
  | .bad c a => Lost w B r c a

set_option maxHeartbeats 2000000 in
theorem take_any {w : World} {B r s p e : Nat} {vb vf : Value} {acc : List Pc} {b : List UInt8} {lo hi : Nat} (h : Rr w B r vb vf s p e acc) (hb : Sl w lo hi vb (iz b)) (he : e ≤ b.length) (q : Nat) (hpq : p ≤ q) (hl : acc.length + 1 ≤ 1000000) :
    Calls Try.prog 108 #[.pointer (some ⟨r, 0, none⟩), .int .i64 q] w (StepPost w B r vb vf s e acc (cutP b s e p q)) := by
  by_cases hq : e < q
  · have e1 : cutP b s e p q = .bad 4 s := by unfold cutP; rw [if_pos hq]
    rw [e1]
    have HR := Lib.hid (reach_no h q hq)
    go_enter Try.func108, Try.ntmps108
    go_wp2_with fail
    refine HR.out.mono ?_; rintro en w1 ⟨rfl, rfl⟩
    exact ⟨rfl, rfl, Aside.refl _ _⟩
  · have e1 : cutP b s e p q = .ok ((b.drop p).take (q - p), false) q := by unfold cutP; rw [if_neg hq]
    rw [e1]
    have HR := Lib.hid (reach_yes h q hq)
    obtain ⟨sv, hcut, hsl⟩ := cut_sl hb p q hpq (by omega)
    have hcv := conv_back (w := w.drew) (hsl.keep (w' := w.drew) fun _ _ _ _ => rfl)
    obtain ⟨x, hx⟩ : ∃ x, (b.drop p).take (q - p) = x := ⟨_, rfl⟩
    rw [hx] at hcv ⊢
    have HA := Lib.hid (show Calls Try.prog 113 #[.pointer (some ⟨r, 0, none⟩), .agg #[.string (bs x), .bool false], .int .i64 q] w.drew (Gone w.drew B r vb vf s e q (acc ++ [(x, false)])) from add_any (h.later (Below.refl _ w).drew) (x, false) q hl)
    have c0 := h.c0
    have c2 := h.c2
    clear hx hsl e1 hb h
    go_enter Try.func108, Try.ntmps108
    go_wp2_with fail
    refine HR.out.mono ?_; rintro en w1 ⟨rfl, rfl⟩
    go_wp2_with fail
    go_region_law (go_simp; go_at_call 113; refine HA.out.mono ?_; rintro en w2 ⟨rfl, hr2, ha2⟩; have HF := Lib.hid (And.intro hr2 ha2); clear hr2 ha2)
    all_goals
      try go_wp2_with fail
      go_end0
      exact ⟨rfl, HF.out.1, HF.out.2.of_drew⟩
end Go.Proofs.Ytaikpgcmcmkdcaa

/-
  A reader of data in memory: rest, fixed, name, texts.
-/
namespace Go.Proofs.Ytaikpgcmcmkdcaa
open Go.RowKit Go.Shelf
set_option linter.unusedVariables false
set_option linter.unusedSimpArgs false
set_option maxRecDepth 100000

set_option maxHeartbeats 1000000 in
theorem restR_any {w : World} {B r s p e : Nat} {vb vf : Value} {acc : List Pc} {b : List UInt8} {lo hi : Nat} {F : Nat → Got} (h : Rr w B r vb vf s p e acc) (hb : Sl w lo hi vb (iz b)) (he : e ≤ b.length) (hpe : p ≤ e) (hl : acc.length + 1 ≤ 1000000) :
    Calls Try.prog 96 #[.pointer (some ⟨r, 0, none⟩)] w (StepPost w B r vb vf s e acc (stepP F b s e p .rst)) := by
  have HT := Lib.hid (take_any h hb he e hpe hl)
  have c3 := h.c3
  simp only [stepP]
  unfold cutP at HT ⊢
  rw [if_neg (by omega)] at HT ⊢
  clear h hb
  go_enter Try.func96, Try.ntmps96
  go_wp2_with fail
  refine HT.out.mono ?_; rintro en w1 ⟨rfl, hr1, ha1⟩
  have HF := Lib.hid (And.intro hr1 ha1)
  clear hr1 ha1
  go_wp2_with fail
  go_end0
  exact ⟨rfl, HF.out⟩

set_option maxHeartbeats 1000000 in
theorem fixed_any (n : Int) (w : World) : Calls Try.prog 105 #[.int .i64 n] w fun e w' => e = .returned (.func (.func 111) #[] #[.pointer (some ⟨w.heap.size, 0, none⟩)]) ∧ w' = w.alloc (.cells #[.int .i64 n] 3) := by
  have hmf : ∀ (fn : Fn) (first cap : Array Value) (w : World), (Instr.makeFunc fn first cap).run Try.prog w = .ok (.func fn first cap) w := fun _ _ _ _ => rfl
  go_enter Try.func105, Try.ntmps105
  go_wp2
  go_ret
  exact ⟨rfl, rfl⟩

set_option maxHeartbeats 2000000 in
theorem fixedR_any {w : World} {B r s p e n g : Nat} {vb vf : Value} {acc : List Pc} {b : List UInt8} {lo hi : Nat} {F : Nat → Got} (h : Rr w B r vb vf s p e acc) (hb : Sl w lo hi vb (iz b)) (he : e ≤ b.length) (hpe : p ≤ e) (hn : n ≤ 1000000) (hbl : b.length ≤ 1000000) (hg : w.cell? ⟨g, 0, none⟩ = some (.int .i64 n)) (hl : acc.length + 1 ≤ 1000000) :
    Calls Try.prog 111 #[.pointer (some ⟨r, 0, none⟩), .pointer (some ⟨g, 0, none⟩)] w (StepPost w B r vb vf s e acc (stepP F b s e p (.fix n))) := by
  have HT0 := take_any (h.later (Below.refl _ w).drew) (hb.keep (w' := w.drew) fun _ _ _ _ => rfl) he (p + n) (by omega) hl
  have c2 := h.c2
  have es : stepP F b s e p (.fix n) = cutP b s e p (p + n) := rfl
  rw [es]
  have hw : IntKind.i64.wrap ((p : Int) + n) = ((p + n : Nat) : Int) := by rw [IntWalk.i64_in _ (by omega)]; push_cast; rfl
  obtain ⟨q, hpq⟩ : ∃ q, p + n = q := ⟨_, rfl⟩
  rw [hpq] at HT0 hw ⊢
  clear es hpq
  by_cases hq : e < q
  · have e1 : cutP b s e p q = .bad 4 s := by unfold cutP; rw [if_pos hq]
    rw [e1] at HT0 ⊢
    have HT := Lib.hid (show Calls Try.prog 108 #[.pointer (some ⟨r, 0, none⟩), .int .i64 q] w.drew (Lost w.drew B r 4 s) from HT0)
    clear h hb HT0 e1 hq
    go_enter Try.func111, Try.ntmps111
    go_wp2_with fail
    refine wp_region_any (by kernel_rfl) ?_
    change wpAny _ _ _ _ _ _ _ (World.drew _)
    refine wpAny_take (i := 0) (v := ?_) rfl (by kernel_rfl) (by kernel_rfl) (by kernel_rfl) (fun _ _ _ h => h) (Or.inl ⟨by rfl, ?_⟩) ?_
    rotate_left 1
    · intro w; go_simp; try (with_reducible rfl)
    refine wpAny_take (i := 1) (v := ?_) rfl (by kernel_rfl) (by kernel_rfl) (by kernel_rfl) (fun _ _ _ h => h) (Or.inl ⟨by rfl, ?_⟩) ?_
    rotate_left 1
    · intro w; go_simp; try (with_reducible rfl)
    refine wpAny_take (i := 2) (v := ?_) rfl (by kernel_rfl) (by kernel_rfl) (by kernel_rfl) (fun _ _ _ h => h) (Or.inl ⟨by rfl, ?_⟩) ?_
    rotate_left 1
    · intro w; go_simp; try (with_reducible rfl)
    refine wpAny_take (i := 3) (v := ?_) rfl (by kernel_rfl) (by kernel_rfl) (by kernel_rfl) (fun _ _ _ h => h) (Or.inl ⟨by rfl, ?_⟩) ?_
    rotate_left 1
    · intro w; go_simp; try (with_reducible rfl)
    refine wpAny_ready (rs := [4, 5]) (by kernel_rfl) (by simp) ?_
    refine AllReady.cons rfl (fun K hK => ?_) (AllReady.cons rfl (fun K hK => ?_) AllReady.nil)
    · go_simp
      refine hK _ _ ?_
      clear hK K
      refine wpAny_ready (rs := [5]) (by kernel_rfl) (by simp) ?_
      refine AllReady.cons rfl (fun K hK => ?_) AllReady.nil
      go_simp
      refine hK _ _ ?_
      clear hK K
      refine wpAny_take (i := 6) (v := ?_) rfl (by kernel_rfl) (by kernel_rfl) (by kernel_rfl) (fun _ _ _ h => h) (Or.inl ⟨by rfl, ?_⟩) ?_
      rotate_left 1
      · intro w; go_simp; try (with_reducible rfl)
      refine wpAny_ready (rs := [7]) (by kernel_rfl) (by simp) ?_
      refine AllReady.cons rfl (fun K hK => ?_) AllReady.nil
      go_simp
      refine HT.out.mono ?_
      rintro en w2 ⟨rfl, ha2⟩
      exact ⟨rfl, rfl, ha2.of_drew⟩
    · go_simp
      refine hK _ _ ?_
      clear hK K
      refine wpAny_ready (rs := [4]) (by kernel_rfl) (by simp) ?_
      refine AllReady.cons rfl (fun K hK => ?_) AllReady.nil
      go_simp
      refine hK _ _ ?_
      clear hK K
      refine wpAny_take (i := 6) (v := ?_) rfl (by kernel_rfl) (by kernel_rfl) (by kernel_rfl) (fun _ _ _ h => h) (Or.inl ⟨by rfl, ?_⟩) ?_
      rotate_left 1
      · intro w; go_simp; try (with_reducible rfl)
      refine wpAny_ready (rs := [7]) (by kernel_rfl) (by simp) ?_
      refine AllReady.cons rfl (fun K hK => ?_) AllReady.nil
      go_simp
      refine HT.out.mono ?_
      rintro en w2 ⟨rfl, ha2⟩
      exact ⟨rfl, rfl, ha2.of_drew⟩
  · obtain ⟨x, hx⟩ : ∃ x, cutP b s e p q = .ok x q := ⟨_, by unfold cutP; rw [if_neg hq]⟩
    rw [hx] at HT0 ⊢
    have HT := Lib.hid (show Calls Try.prog 108 #[.pointer (some ⟨r, 0, none⟩), .int .i64 q] w.drew (Gone w.drew B r vb vf s e q (acc ++ [x])) from HT0)
    clear h hb HT0 hx hq
    go_enter Try.func111, Try.ntmps111
    go_wp2_with fail
    go_region_law (go_simp; go_at_call 108; refine HT.out.mono ?_; rintro en w2 ⟨rfl, hr2, ha2⟩; have HF := Lib.hid (And.intro hr2 ha2); clear hr2 ha2)
    all_goals
      try go_wp2_with fail
      go_end0
      exact ⟨rfl, HF.out.1, HF.out.2.of_drew⟩
end Go.Proofs.Ytaikpgcmcmkdcaa

/-
  A reader of data in memory: name.
-/
namespace Go.Proofs.Ytaikpgcmcmkdcaa
open Go.RowKit Go.Shelf
set_option linter.unusedVariables false
set_option linter.unusedSimpArgs false
set_option maxRecDepth 100000

/-- How names are read: F tells it of the function value vf, wherever a reader goes from w on. -/
def FindOk (w : World) (B r f : Nat) (vb : Value) (F : Nat → Got) : Prop := ∀ wx, Aside (RG B r) w wx → ∀ p : Nat, Calls Try.prog f #[vb, .int .i64 p] wx (Tells wx (gotV (F p)))

theorem FindOk.later {w w' : World} {B r f : Nat} {vb : Value} {F : Nat → Got} (h : FindOk w B r f vb F) (ha : Aside (RG B r) w w') : FindOk w' B r f vb F := fun wx hx p => h wx (ha.trans hx) p

/-- What was made ahead of a call is as it was, behind it. -/
theorem aft_alloc {w w2 : World} (hb : Below (w.drew.alloc (.cells #[.int .i64 0, .int .i64 0] 54)).heap.size (w.drew.alloc (.cells #[.int .i64 0, .int .i64 0] 54)) w2) :
    w2.cell? ⟨w.heap.size, 0, none⟩ = some (.int .i64 0) ∧ w2.cell? ⟨w.heap.size, 1, none⟩ = some (.int .i64 0) ∧ w2.frozen? ⟨w.heap.size, 0, none⟩ = false ∧ w2.frozen? ⟨w.heap.size, 1, none⟩ = false := by
  have hlt : w.heap.size < (w.drew.alloc (.cells #[.int .i64 0, .int .i64 0] 54)).heap.size := by rw [World.size_alloc]; exact Nat.lt_succ_self _
  refine ⟨(hb.cell (p := ⟨w.heap.size, 0, none⟩) hlt).trans (by simp [go_sem]), (hb.cell (p := ⟨w.heap.size, 1, none⟩) hlt).trans (by simp [go_sem]), (hb.frozen (p := ⟨w.heap.size, 0, none⟩) hlt).trans (by simp [go_sem]), (hb.frozen (p := ⟨w.heap.size, 1, none⟩) hlt).trans (by simp [go_sem])⟩

theorem bel_set2 {w w2 : World} {g : Nat} (hb : Below w.heap.size w w2) (hg : w.heap.size ≤ g) (x y : Value) : Below w.heap.size w ((w2.setCell ⟨g, 0, none⟩ x).setCell ⟨g, 1, none⟩ y) :=
  (hb.setCell (p := ⟨g, 0, none⟩) hg x).setCell (p := ⟨g, 1, none⟩) hg y

set_option maxHeartbeats 4000000 in
theorem nameR_read {w : World} {B r s p e : Nat} {vb : Value} {acc : List Pc} {b : List UInt8} {F : Nat → Got} (h : Rr w B r vb (.func (.func 70) #[] #[]) s p e acc) (hF : FindOk w B r 70 vb F) (hp : p ≤ 1000000) (hl : acc.length + 1 ≤ 1000000) :
    Calls Try.prog 106 #[.pointer (some ⟨r, 0, none⟩)] w (StepPost w B r vb (.func (.func 70) #[] #[]) s e acc (stepP F b s e p .nam)) := by
  have c2 := h.c2
  have hw : IntKind.i64.wrap ((p : Int) + 1) = ((p + 1 : Nat) : Int) := by rw [IntWalk.i64_in _ (by omega)]; push_cast; rfl
  have hP := Lib.hid (show stepP F b s e p .nam = if e < p + 1 then .bad 4 s else if (F p).2.2.1 ≠ 0 then .bad (F p).2.2.1 (F p).2.2.2 else if e < (F p).2.1 then .bad 4 s else .ok ((F p).1, true) (F p).2.1 from rfl)
  by_cases hq : e < p + 1
  · have e1 := hP.out
    rw [if_pos hq] at e1
    rw [e1]
    have HR := Lib.hid (reach_no h (p + 1) hq)
    push_cast at HR
    clear h hq e1 hP hw
    go_enter Try.func106, Try.ntmps106
    go_wp2_with fail
    refine HR.out.mono ?_; rintro en w1 ⟨rfl, rfl⟩
    exact ⟨rfl, rfl, Aside.refl _ _⟩
  · have HR := Lib.hid (reach_yes h (p + 1) hq)
    have HF := Lib.hid (fun wx (hb : Below w.heap.size w wx) => hF wx (Aside.of_all hb) p)
    have HH := Lib.hid h
    have e1 := hP.out
    rw [if_neg hq] at e1
    rw [e1]
    push_cast at HR
    obtain ⟨N, hN⟩ : ∃ N, (F p).1 = N := ⟨_, rfl⟩
    obtain ⟨E, hE⟩ : ∃ E, (F p).2.1 = E := ⟨_, rfl⟩
    obtain ⟨C, hC⟩ : ∃ C, (F p).2.2.1 = C := ⟨_, rfl⟩
    obtain ⟨A, hA⟩ : ∃ A, (F p).2.2.2 = A := ⟨_, rfl⟩
    unfold gotV at HF
    rw [hN, hE, hC, hA] at HF
    rw [hN, hE, hC, hA]
    have c0 := h.c0
    have c4 := h.c4
    obtain ⟨X, hX⟩ : ∃ X, (if C ≠ 0 then PR.bad C A else if e < E then PR.bad 4 s else PR.ok (N, true) E) = X := ⟨_, rfl⟩
    rw [hX]
    have HX := Lib.hid hX
    clear h hq e1 hP hw hF hN hE hC hA hX
    go_enter Try.func106, Try.ntmps106
    go_wp2_with fail
    refine HR.out.mono ?_; rintro en w1 ⟨rfl, rfl⟩
    go_wp2_with fail
    have HK := Lib.hid (fun wx (hb : Below w.heap.size w wx) => show wx.cell? ⟨r, 0, none⟩ = some vb ∧ wx.cell? ⟨r, 2, none⟩ = some (.int .i64 p) ∧ wx.cell? ⟨r, 4, none⟩ = some (.func (.func 70) #[] #[]) from ⟨cell_later hb c0, cell_later hb c2, cell_later hb c4⟩)
    have hrl := HH.out.rlt
    go_region_held3 (fun wx => wx.cell? ⟨r, 0, none⟩ = some vb ∧ wx.cell? ⟨r, 2, none⟩ = some (.int .i64 p) ∧ wx.cell? ⟨r, 4, none⟩ = some (.func (.func 70) #[] #[])) (first | exact HK.out _ (Below.refl _ w).drew | exact HK.out _ (((Below.refl _ w).drew).alloc (Nat.le_refl _) _) | exact HK.out _ HBW.out | exact HK.out _ (bel_alloc HBW.out _) | exact HK.out _ (bel_set2 HBW.out (Nat.le_refl _) _ _) | exact HK.out _ (bel_set2 (bel_alloc HBW.out _) HBW.out.size _ _)) (first | (go_at_call 70; refine (HF.out _ (by first | exact (Below.refl _ w).drew | exact ((Below.refl _ w).drew).alloc (Nat.le_refl _) _)).mono ?_; rintro en w2 ⟨rfl, hb2⟩; have HBW : Hid (Below w.heap.size w w2) := (by first | exact bel_call (Below.refl _ w).drew hb2 | exact bel_call (((Below.refl _ w).drew).alloc (Nat.le_refl _) _) hb2); try (obtain ⟨k0, k1, kf0, kf1⟩ := aft_alloc hb2); clear hb2))
    · have HB3 : Hid (Below w.heap.size w (w2.alloc (.cells #[.int .i64 C, .int .i64 A] 54))) := bel_alloc HBW.out _
      have HR3 := Lib.hid (HH.out.later HB3.out)
      by_cases hC : C = 0
      · subst hC
        by_cases hEe : e < E
        · obtain rfl : X = .bad 4 s := by rw [← HX.out, if_neg (by simp), if_pos hEe]
          have HRn := Lib.hid (reach_no HR3.out E hEe)
          clear HX HF HK c0 c2 c4
          go_wp2_with fail
          refine HRn.out.mono ?_; rintro en w4 ⟨rfl, rfl⟩
          exact ⟨rfl, rfl, Aside.of_all HB3.out⟩
        · obtain rfl : X = .ok (N, true) E := by rw [← HX.out, if_neg (by simp), if_neg hEe]
          have HRy := Lib.hid (reach_yes HR3.out E hEe)
          have HAd := Lib.hid (show Calls Try.prog 113 #[.pointer (some ⟨r, 0, none⟩), .agg #[.string (bs N), .bool true], .int .i64 E] _ _ from add_any HR3.out (N, true) E hl)
          clear HX HF HK c0 c2 c4
          go_wp2_with fail
          refine HRy.out.mono ?_; rintro en w4 ⟨rfl, rfl⟩
          go_wp2_with fail
          refine HAd.out.mono ?_; rintro en w4 ⟨rfl, hr4, ha4⟩
          have HFin := Lib.hid (And.intro hr4 ((Aside.of_all HB3.out).trans ha4))
          clear hr4 ha4
          go_wp2_with fail
          go_end0
          exact ⟨rfl, HFin.out⟩
      · obtain rfl : X = .bad C A := by rw [← HX.out, if_pos hC]
        have tC : (C != 0) = true := by simpa using hC
        clear HX HF HK c0 c2 c4
        go_wp2_with fail
        exact ⟨rfl, rfl, Aside.of_all HB3.out⟩
    · have HB3 : Hid (Below w.heap.size w ((w2.setCell ⟨w.heap.size, 0, none⟩ (.int .i64 C)).setCell ⟨w.heap.size, 1, none⟩ (.int .i64 A))) := bel_set2 HBW.out (Nat.le_refl _) _ _
      have HR3 := Lib.hid (HH.out.later HB3.out)
      by_cases hC : C = 0
      · subst hC
        by_cases hEe : e < E
        · obtain rfl : X = .bad 4 s := by rw [← HX.out, if_neg (by simp), if_pos hEe]
          have HRn := Lib.hid (reach_no HR3.out E hEe)
          clear HX HF HK c0 c2 c4
          go_wp2_with fail
          refine HRn.out.mono ?_; rintro en w4 ⟨rfl, rfl⟩
          exact ⟨rfl, rfl, Aside.of_all HB3.out⟩
        · obtain rfl : X = .ok (N, true) E := by rw [← HX.out, if_neg (by simp), if_neg hEe]
          have HRy := Lib.hid (reach_yes HR3.out E hEe)
          have HAd := Lib.hid (show Calls Try.prog 113 #[.pointer (some ⟨r, 0, none⟩), .agg #[.string (bs N), .bool true], .int .i64 E] _ _ from add_any HR3.out (N, true) E hl)
          clear HX HF HK c0 c2 c4
          go_wp2_with fail
          refine HRy.out.mono ?_; rintro en w4 ⟨rfl, rfl⟩
          go_wp2_with fail
          refine HAd.out.mono ?_; rintro en w4 ⟨rfl, hr4, ha4⟩
          have HFin := Lib.hid (And.intro hr4 ((Aside.of_all HB3.out).trans ha4))
          clear hr4 ha4
          go_wp2_with fail
          go_end0
          exact ⟨rfl, HFin.out⟩
      · obtain rfl : X = .bad C A := by rw [← HX.out, if_pos hC]
        have tC : (C != 0) = true := by simpa using hC
        clear HX HF HK c0 c2 c4
        go_wp2_with fail
        exact ⟨rfl, rfl, Aside.of_all HB3.out⟩

set_option maxHeartbeats 4000000 in
theorem nameR_plain {w : World} {B r s p e : Nat} {vb : Value} {acc : List Pc} {b : List UInt8} {F : Nat → Got} (h : Rr w B r vb (.func (.func 79) #[] #[]) s p e acc) (hF : FindOk w B r 79 vb F) (hp : p ≤ 1000000) (hl : acc.length + 1 ≤ 1000000) :
    Calls Try.prog 106 #[.pointer (some ⟨r, 0, none⟩)] w (StepPost w B r vb (.func (.func 79) #[] #[]) s e acc (stepP F b s e p .nam)) := by
  have c2 := h.c2
  have hw : IntKind.i64.wrap ((p : Int) + 1) = ((p + 1 : Nat) : Int) := by rw [IntWalk.i64_in _ (by omega)]; push_cast; rfl
  have hP := Lib.hid (show stepP F b s e p .nam = if e < p + 1 then .bad 4 s else if (F p).2.2.1 ≠ 0 then .bad (F p).2.2.1 (F p).2.2.2 else if e < (F p).2.1 then .bad 4 s else .ok ((F p).1, true) (F p).2.1 from rfl)
  by_cases hq : e < p + 1
  · have e1 := hP.out
    rw [if_pos hq] at e1
    rw [e1]
    have HR := Lib.hid (reach_no h (p + 1) hq)
    push_cast at HR
    clear h hq e1 hP hw
    go_enter Try.func106, Try.ntmps106
    go_wp2_with fail
    refine HR.out.mono ?_; rintro en w1 ⟨rfl, rfl⟩
    exact ⟨rfl, rfl, Aside.refl _ _⟩
  · have HR := Lib.hid (reach_yes h (p + 1) hq)
    have HF := Lib.hid (fun wx (hb : Below w.heap.size w wx) => hF wx (Aside.of_all hb) p)
    have HH := Lib.hid h
    have e1 := hP.out
    rw [if_neg hq] at e1
    rw [e1]
    push_cast at HR
    obtain ⟨N, hN⟩ : ∃ N, (F p).1 = N := ⟨_, rfl⟩
    obtain ⟨E, hE⟩ : ∃ E, (F p).2.1 = E := ⟨_, rfl⟩
    obtain ⟨C, hC⟩ : ∃ C, (F p).2.2.1 = C := ⟨_, rfl⟩
    obtain ⟨A, hA⟩ : ∃ A, (F p).2.2.2 = A := ⟨_, rfl⟩
    unfold gotV at HF
    rw [hN, hE, hC, hA] at HF
    rw [hN, hE, hC, hA]
    have c0 := h.c0
    have c4 := h.c4
    obtain ⟨X, hX⟩ : ∃ X, (if C ≠ 0 then PR.bad C A else if e < E then PR.bad 4 s else PR.ok (N, true) E) = X := ⟨_, rfl⟩
    rw [hX]
    have HX := Lib.hid hX
    clear h hq e1 hP hw hF hN hE hC hA hX
    go_enter Try.func106, Try.ntmps106
    go_wp2_with fail
    refine HR.out.mono ?_; rintro en w1 ⟨rfl, rfl⟩
    go_wp2_with fail
    have HK := Lib.hid (fun wx (hb : Below w.heap.size w wx) => show wx.cell? ⟨r, 0, none⟩ = some vb ∧ wx.cell? ⟨r, 2, none⟩ = some (.int .i64 p) ∧ wx.cell? ⟨r, 4, none⟩ = some (.func (.func 79) #[] #[]) from ⟨cell_later hb c0, cell_later hb c2, cell_later hb c4⟩)
    have hrl := HH.out.rlt
    go_region_held3 (fun wx => wx.cell? ⟨r, 0, none⟩ = some vb ∧ wx.cell? ⟨r, 2, none⟩ = some (.int .i64 p) ∧ wx.cell? ⟨r, 4, none⟩ = some (.func (.func 79) #[] #[])) (first | exact HK.out _ (Below.refl _ w).drew | exact HK.out _ (((Below.refl _ w).drew).alloc (Nat.le_refl _) _) | exact HK.out _ HBW.out | exact HK.out _ (bel_alloc HBW.out _) | exact HK.out _ (bel_set2 HBW.out (Nat.le_refl _) _ _) | exact HK.out _ (bel_set2 (bel_alloc HBW.out _) HBW.out.size _ _)) (first | (go_at_call 79; refine (HF.out _ (by first | exact (Below.refl _ w).drew | exact ((Below.refl _ w).drew).alloc (Nat.le_refl _) _)).mono ?_; rintro en w2 ⟨rfl, hb2⟩; have HBW : Hid (Below w.heap.size w w2) := (by first | exact bel_call (Below.refl _ w).drew hb2 | exact bel_call (((Below.refl _ w).drew).alloc (Nat.le_refl _) _) hb2); try (obtain ⟨k0, k1, kf0, kf1⟩ := aft_alloc hb2); clear hb2))
    · have HB3 : Hid (Below w.heap.size w (w2.alloc (.cells #[.int .i64 C, .int .i64 A] 54))) := bel_alloc HBW.out _
      have HR3 := Lib.hid (HH.out.later HB3.out)
      by_cases hC : C = 0
      · subst hC
        by_cases hEe : e < E
        · obtain rfl : X = .bad 4 s := by rw [← HX.out, if_neg (by simp), if_pos hEe]
          have HRn := Lib.hid (reach_no HR3.out E hEe)
          clear HX HF HK c0 c2 c4
          go_wp2_with fail
          refine HRn.out.mono ?_; rintro en w4 ⟨rfl, rfl⟩
          exact ⟨rfl, rfl, Aside.of_all HB3.out⟩
        · obtain rfl : X = .ok (N, true) E := by rw [← HX.out, if_neg (by simp), if_neg hEe]
          have HRy := Lib.hid (reach_yes HR3.out E hEe)
          have HAd := Lib.hid (show Calls Try.prog 113 #[.pointer (some ⟨r, 0, none⟩), .agg #[.string (bs N), .bool true], .int .i64 E] _ _ from add_any HR3.out (N, true) E hl)
          clear HX HF HK c0 c2 c4
          go_wp2_with fail
          refine HRy.out.mono ?_; rintro en w4 ⟨rfl, rfl⟩
          go_wp2_with fail
          refine HAd.out.mono ?_; rintro en w4 ⟨rfl, hr4, ha4⟩
          have HFin := Lib.hid (And.intro hr4 ((Aside.of_all HB3.out).trans ha4))
          clear hr4 ha4
          go_wp2_with fail
          go_end0
          exact ⟨rfl, HFin.out⟩
      · obtain rfl : X = .bad C A := by rw [← HX.out, if_pos hC]
        have tC : (C != 0) = true := by simpa using hC
        clear HX HF HK c0 c2 c4
        go_wp2_with fail
        exact ⟨rfl, rfl, Aside.of_all HB3.out⟩
    · have HB3 : Hid (Below w.heap.size w ((w2.setCell ⟨w.heap.size, 0, none⟩ (.int .i64 C)).setCell ⟨w.heap.size, 1, none⟩ (.int .i64 A))) := bel_set2 HBW.out (Nat.le_refl _) _ _
      have HR3 := Lib.hid (HH.out.later HB3.out)
      by_cases hC : C = 0
      · subst hC
        by_cases hEe : e < E
        · obtain rfl : X = .bad 4 s := by rw [← HX.out, if_neg (by simp), if_pos hEe]
          have HRn := Lib.hid (reach_no HR3.out E hEe)
          clear HX HF HK c0 c2 c4
          go_wp2_with fail
          refine HRn.out.mono ?_; rintro en w4 ⟨rfl, rfl⟩
          exact ⟨rfl, rfl, Aside.of_all HB3.out⟩
        · obtain rfl : X = .ok (N, true) E := by rw [← HX.out, if_neg (by simp), if_neg hEe]
          have HRy := Lib.hid (reach_yes HR3.out E hEe)
          have HAd := Lib.hid (show Calls Try.prog 113 #[.pointer (some ⟨r, 0, none⟩), .agg #[.string (bs N), .bool true], .int .i64 E] _ _ from add_any HR3.out (N, true) E hl)
          clear HX HF HK c0 c2 c4
          go_wp2_with fail
          refine HRy.out.mono ?_; rintro en w4 ⟨rfl, rfl⟩
          go_wp2_with fail
          refine HAd.out.mono ?_; rintro en w4 ⟨rfl, hr4, ha4⟩
          have HFin := Lib.hid (And.intro hr4 ((Aside.of_all HB3.out).trans ha4))
          clear hr4 ha4
          go_wp2_with fail
          go_end0
          exact ⟨rfl, HFin.out⟩
      · obtain rfl : X = .bad C A := by rw [← HX.out, if_pos hC]
        have tC : (C != 0) = true := by simpa using hC
        clear HX HF HK c0 c2 c4
        go_wp2_with fail
        exact ⟨rfl, rfl, Aside.of_all HB3.out⟩
end Go.Proofs.Ytaikpgcmcmkdcaa

/-
  A reader of data in memory: texts.
-/
namespace Go.Proofs.Ytaikpgcmcmkdcaa
open Go.RowKit Go.Shelf
set_option linter.unusedVariables false
set_option linter.unusedSimpArgs false
set_option maxRecDepth 100000

theorem txE_stop {b : List UInt8} {e n q : Nat} (h : e < q + 1) : txE b e n q = none := by
  cases n with
  | zero => rfl
  | succ n => rw [txE, if_pos h]

def txR (b : List UInt8) (s e p : Nat) : Option Nat → PR
  | none => .bad 4 s
  | some q => cutP b s e p q
theorem txR_step (F : Nat → Got) (b : List UInt8) (s e p : Nat) : stepP F b s e p .txt = txR b s e p (txE b e (e + 1) p) := by
  simp only [stepP]
  cases txE b e (e + 1) p <;> rfl

set_option maxHeartbeats 4000000 in
theorem textsR_any {w : World} {B r s p e : Nat} {vb vf : Value} {acc : List Pc} {b : List UInt8} {lo hi : Nat} {F : Nat → Got} (h : Rr w B r vb vf s p e acc) (hb : Sl w lo hi vb (iz b)) (he : e ≤ b.length) (hpe : p ≤ e) (hbl : b.length ≤ 1000000) (hl : acc.length + 1 ≤ 1000000) :
    Calls Try.prog 107 #[.pointer (some ⟨r, 0, none⟩)] w (StepPost w B r vb vf s e acc (stepP F b s e p .txt)) := by
  have HTk := Lib.hid (fun q hpq => take_any h hb he q hpq hl)
  have HRn := Lib.hid (fun q hq => reach_no h q hq)
  have HRy := Lib.hid (fun q hq => reach_yes h q hq)
  have c0 := h.c0
  have c2 := h.c2
  have c3 := h.c3
  have HS := Lib.hid hb
  obtain ⟨Y, hY⟩ : ∃ Y, txE b e (e + 1) p = Y := ⟨_, rfl⟩
  obtain ⟨X, hX⟩ : ∃ X, stepP F b s e p .txt = X := ⟨_, rfl⟩
  have HX := Lib.hid (show X = txR b s e p Y by rw [← hX, ← hY]; exact txR_step F b s e p)
  have HY := Lib.hid hY
  rw [hX]
  obtain ⟨av, cv, rfl, _⟩ := hb
  rw [iz_len] at c0 HTk ⊢
  simp only [iz_len] at HS
  clear hX hY h
  go_enter Try.func107, Try.ntmps107
  go_wp2_with fail
  go_loopg [2, 3] (e + 1 - p + 1) (fun g v2 v3 wr => ∃ (q : Nat) (m : Bool), v2 = .int .i64 q ∧ v3 = .bool m ∧ p ≤ q ∧ w = wr ∧ ((m = true ∧ q ≤ e ∧ g = e + 1 - q + 1 ∧ ∃ n, e < q + n ∧ Hid (txE b e n q = Y)) ∨ (m = false ∧ g = 0 ∧ Hid (Y = some q))))
  case atStart => exact ⟨p, true, rfl, rfl, Nat.le_refl _, rfl, .inl ⟨rfl, hpe, by omega, e + 1, by omega, HY⟩⟩
  case round =>
    obtain ⟨q, m, rfl, rfl, hpq, rfl, ⟨rfl, hqe, hg, n, hn, HT⟩ | ⟨rfl, hg, HT⟩⟩ := hrel
    · have hw1 : IntKind.i64.wrap ((q : Int) + 1) = ((q + 1 : Nat) : Int) := by rw [IntWalk.i64_in _ (by omega)]; push_cast; rfl
      by_cases hlt : e < q + 1
      · have hYn : Y = none := by rw [← HT.out]; exact txE_stop hlt
        subst hYn
        have hXn : X = .bad 4 s := HX.out
        subst hXn
        have HR := Lib.hid (HRn.out (q + 1) hlt)
        push_cast at HR
        go_wp2_with fail
        refine HR.out.mono ?_; rintro en w1 ⟨rfl, rfl⟩
        exact ⟨rfl, rfl, Aside.refl _ _⟩
      · have HR := Lib.hid (HRy.out (q + 1) hlt)
        push_cast at HR
        obtain ⟨g0, off, c', he0, hg0, hcell⟩ := HS.out.spot q (by rw [iz_len]; omega)
        rw [iz_len] at he0
        injection he0 with he1 he2 he3
        subst he1
        subst he3
        clear he2
        rw [iz_get b q (by omega)] at hcell
        have hgd : b.getD q 0 = b[q] := by rw [List.getD, List.getElem?_eq_getElem (by omega)]; rfl
        obtain ⟨k, rfl⟩ : ∃ k, n = k + 1 := ⟨n - 1, by omega⟩
        have hst := HT.out
        rw [txE, if_neg (by omega), hgd] at hst
        have hc8 : b[q].toNat < 256 := b[q].toNat_lt
        obtain ⟨z, hz⟩ : ∃ z, b[q].toNat = z := ⟨_, rfl⟩
        rw [hz] at hst hcell hc8
        simp only at hst
        have hqb : q < b.length := by omega
        clear hz hgd HT
        by_cases hmore : q + (1 + z) < e
        · rw [if_pos hmore] at hst
          have HST := Lib.hid hst
          have t1 : decide ((q : Int) + (1 + z) < e) = true := by simp; omega
          clear hst
          go_wp2_with fail
          refine HR.out.mono ?_; rintro en w1 ⟨rfl, rfl⟩
          go_wp2_with fail
          go_roundg (e + 1 - (q + (1 + z)) + 1)
          case measure => omega
          case rel => exact ⟨q + (1 + z), true, by go_num, rfl, by omega, rfl, .inl ⟨rfl, by omega, rfl, k, by omega, HST⟩⟩
        · rw [if_neg hmore] at hst
          have HST := Lib.hid hst.symm
          have t1 : decide ((q : Int) + (1 + z) < e) = false := by simp; omega
          clear hst
          go_wp2_with fail
          refine HR.out.mono ?_; rintro en w1 ⟨rfl, rfl⟩
          go_wp2_with fail
          go_roundg 0
          case measure => omega
          case rel => exact ⟨q + (1 + z), false, by go_num, rfl, by omega, rfl, .inr ⟨rfl, rfl, HST⟩⟩
    · have HC := Lib.hid (HTk.out q hpq)
      have hXq : X = cutP b s e p q := by have := HX.out; rw [HT.out] at this; exact this
      rw [← hXq] at HC
      clear hXq
      rcases X with ⟨x, qq⟩ | ⟨cc, aa⟩
      · have HCC := Lib.hid (show Calls Try.prog 108 #[.pointer (some ⟨r, 0, none⟩), .int .i64 q] w (Gone w B r (.slice av b.length cv) vf s e qq (acc ++ [x])) from HC.out)
        go_wp2_with fail
        refine HCC.out.mono ?_; rintro en w2 ⟨rfl, hr2, ha2⟩
        have HF := Lib.hid (And.intro hr2 ha2)
        clear hr2 ha2
        go_wp2_with fail
        go_end0
        exact ⟨rfl, HF.out⟩
      · have HCC := Lib.hid (show Calls Try.prog 108 #[.pointer (some ⟨r, 0, none⟩), .int .i64 q] w (Lost w B r cc aa) from HC.out)
        go_wp2_with fail
        refine HCC.out.mono ?_; rintro en w2 ⟨rfl, ha2⟩
        exact ⟨rfl, rfl, ha2⟩
end Go.Proofs.Ytaikpgcmcmkdcaa

/-
  The map of parts, in memory; parts.
-/
namespace Go.Proofs.Ytaikpgcmcmkdcaa
open Go.RowKit Go.Shelf
set_option linter.unusedVariables false
set_option linter.unusedSimpArgs false
set_option maxRecDepth 100000

theorem keyedI_ : Maps.Keyed Try.prog 3 := Maps.int_keyed Try.underlying3

/-- A value reads as itself. -/
def heldR (v : Value) : Option (DataW Value × List MemPlace) := some (.held v, [])

def vof (rows : List (Int × Value)) (t : Int) : Option Value := (rows.find? (fun p => p.1 == t)).map (·.2)
theorem vof_snoc (rows : List (Int × Value)) (k : Int) (v : Value) (t : Int) : vof (rows ++ [(k, v)]) t = (vof rows t).or (if k = t then some v else none) := by
  unfold vof
  rw [List.find?_append]
  obtain ⟨y, hy⟩ : ∃ y, rows.find? (fun p => p.1 == t) = y := ⟨_, rfl⟩
  rw [hy]
  cases y with
  | none => by_cases h : k = t <;> simp [h]
  | some x => rfl

/-- The map's datum tells these rows. -/
def RepM (D : DataW Value) (rows : List (Int × Value)) : Prop :=
  Maps.IsMap D ∧ ∀ t : Int, Maps.has D (.int .i64 t) = (vof rows t).isSome ∧ (∀ v, vof rows t = some v → ∀ z, D.atKey (.int .i64 t) z = .held v)

/-- Block bm is a map of these rows. -/
def Pm (w : World) (bm : Nat) (rows : List (Int × Value)) : Prop := ∃ D : DataW Value, w.ownsMap Try.prog 3 heldR bm rows.length D ∧ RepM D rows

theorem repM_put {D : DataW Value} {rows : List (Int × Value)} (h : RepM D rows) {k : Int} (hk : vof rows k = none) (v : Value) : RepM (D.put (.int .i64 k) (.held v)) (rows ++ [(k, v)]) := by
  refine ⟨h.1.put _ _, fun t => ?_⟩
  rw [vof_snoc]
  by_cases e : k = t
  · subst e
    rw [hk, if_pos rfl]
    refine ⟨by rw [Maps.has_put_same h.1 (by trivial)]; rfl, fun y hy z => ?_⟩
    have : v = y := by simpa using hy
    subst this
    exact Maps.atKey_put_same h.1 (by trivial) _ _
  · rw [if_neg e, Option.or_none]
    have hne : (Lit.int .i64 t) ≠ Lit.int .i64 k := fun h => e (by injection h with _ h; exact h.symm)
    refine ⟨by rw [Maps.has_put_other hne]; exact (h.2 t).1, fun y hy z => ?_⟩
    rw [Maps.atKey_put_other hne]
    exact (h.2 t).2 y hy z

theorem Pm.made (w : World) : Pm (w.alloc (.map #[] 0)) w.heap.size [] := ⟨.map [], World.ownsMap_made w Try.prog 3 heldR, Maps.isMap_empty, fun t => ⟨rfl, fun v h => by simp [vof] at h⟩⟩
theorem Pm.lt {w : World} {bm : Nat} {rows : List (Int × Value)} (h : Pm w bm rows) : bm < w.heap.size := let ⟨_, h, _⟩ := h; h.lt
theorem Pm.aside {G : Nat → Prop} {w w' : World} {bm : Nat} {rows : List (Int × Value)} (h : Pm w bm rows) (ha : Aside G w w') (hG : ¬ G bm) : Pm w' bm rows := by
  have hlt := h.lt
  obtain ⟨D, ⟨es, clock, hb, r⟩, hR⟩ := h
  exact ⟨D, ⟨es, clock, (ha.block bm hlt hG).trans hb, r⟩, hR⟩
theorem Pm.later {w w' : World} {bm : Nat} {rows : List (Int × Value)} (h : Pm w bm rows) (hb : Below w.heap.size w w') : Pm w' bm rows := h.aside (G := fun _ => False) (Aside.of_all hb) (fun h => h)

theorem Pm.store {w : World} {bm : Nat} {rows : List (Int × Value)} (h : Pm w bm rows) (k : Int) (hk : vof rows k = none) (hw : (Lit.int .i64 k).wf = true) (hl : rows.length ≤ 1000) (v : Value) :
    ∃ w', (Instr.mapUpdate 141 (.map (some bm)) (.int .i64 k) v).run Try.prog w = .ok () w' ∧ Pm w' bm (rows ++ [(k, v)]) ∧ Aside (fun b => b = bm) w w' := by
  obtain ⟨D, hM, hR⟩ := h
  obtain ⟨w', h1, h2, h3⟩ := hM.update keyedI_ Try.underlying141 (by unfold maxLen; omega) (kl := .int .i64 k) (d := .held v) (ps := []) (Maps.keyOf_int_mk Try.underlying3 hw) rfl
  exact ⟨w', h1, ⟨_, by rw [List.length_append]; exact h2, repM_put hR hk v⟩, Aside.grown h3 fun b hb => by injection hb with hb; exact hb.symm⟩

theorem zero_parts (w : World) : (zeroValue 139).run Try.prog w = .ok (.slice none 0 0) w := by kernel_rfl

theorem Pm.look {w : World} {bm : Nat} {rows : List (Int × Value)} (h : Pm w bm rows) (t : Int) (hw : (Lit.int .i64 t).wf = true) :
    (Instr.lookup 141 (.map (some bm)) (.int .i64 t) true).run Try.prog w = .ok (.tuple #[(vof rows t).getD (.slice none 0 0), .bool (vof rows t).isSome]) w := by
  obtain ⟨D, hM, hR⟩ := h
  obtain ⟨v, ps, hrun, hv⟩ := hM.look_ok keyedI_ Try.underlying141 (zero_parts w) (zd := .held (.slice none 0 0)) (zp := []) rfl (Maps.keyOf_int_mk Try.underlying3 hw)
  rw [(hR.2 t).1] at hrun
  rw [hrun]
  have hv2 : DataW.held v = D.atKey (.int .i64 t) (.held (.slice none 0 0)) := by
    unfold heldR at hv
    injection hv with hv
    injection hv with hv _
  have : v = (vof rows t).getD (.slice none 0 0) := by
    rcases hp : vof rows t with _ | x
    · have h3 := (hR.2 t).1
      rw [hp] at h3
      rw [Maps.atKey_of_not_has h3] at hv2
      injection hv2
    · rw [(hR.2 t).2 x hp] at hv2
      injection hv2
  rw [this]

/-- The function value of a part, in memory; m: the map's block. -/
def PV (W : World) (m : Nat) : PK → Value → Prop
  | .fix n, v => ∃ b, b ≠ m ∧ v = .func (.func 111) #[] #[.pointer (some ⟨b, 0, none⟩)] ∧ W.cell? ⟨b, 0, none⟩ = some (.int .i64 n)
  | .nam, v => v = .func (.func 106) #[] #[]
  | .txt, v => v = .func (.func 107) #[] #[]
  | .rst, v => v = .func (.func 96) #[] #[]

/-- A row of parts, in memory. -/
def RowK (W : World) (m : Nat) (v : Value) (ks : List PK) : Prop := ∃ g c, g ≠ m ∧ v = .slice (some ⟨g, 0, none⟩) ks.length c ∧ ∀ j (h : j < ks.length), ∃ u, W.cell? ⟨g, j, none⟩ = some u ∧ PV W m ks[j] u

theorem PV.aside {W W' : World} {m : Nat} {k : PK} {v : Value} {G : Nat → Prop} (h : PV W m k v) (ha : Aside G W W') (hG : ∀ b, b < W.heap.size → G b → b = m) : PV W' m k v := by
  cases k with
  | fix n =>
    obtain ⟨b, h1, h2, h3⟩ := h
    exact ⟨b, h1, h2, ha.cell_lt h3 fun hg => h1 (hG b (World.block_lt_of_cell? W _ h3) hg)⟩
  | nam => exact h
  | txt => exact h
  | rst => exact h
theorem RowK.aside {W W' : World} {m : Nat} {v : Value} {ks : List PK} {G : Nat → Prop} (h : RowK W m v ks) (ha : Aside G W W') (hG : ∀ b, b < W.heap.size → G b → b = m) : RowK W' m v ks := by
  obtain ⟨g, c, h1, h2, h3⟩ := h
  refine ⟨g, c, h1, h2, fun j hj => ?_⟩
  obtain ⟨u, h4, h5⟩ := h3 j hj
  exact ⟨u, ha.cell_lt h4 fun hg => h1 (hG g (World.block_lt_of_cell? W _ h4) hg), h5.aside ha hG⟩
theorem RowK.later {W W' : World} {m : Nat} {v : Value} {ks : List PK} (h : RowK W m v ks) (hb : Below W.heap.size W W') : RowK W' m v ks := h.aside (G := fun _ => False) (Aside.of_all hb) fun _ _ h => h.elim

/-- The map as it grows. -/
structure PMs (w W : World) (m : Nat) (rows : List (Int × Value)) : Prop where
  map : Pm W m rows
  row : ∀ p ∈ rows, RowK W m p.2 (kinds p.1)
  bel : Below w.heap.size w W
  old : w.heap.size ≤ m

theorem PMs.later {w W W' : World} {m : Nat} {rows : List (Int × Value)} (h : PMs w W m rows) (hb : Below W.heap.size W W') : PMs w W' m rows :=
  ⟨h.map.later hb, fun p hp => (h.row p hp).later hb, bel_call h.bel hb, h.old⟩

theorem PMs.step {w W W1 : World} {m : Nat} {rows : List (Int × Value)} (h : PMs w W m rows) (hb : Below W.heap.size W W1) (t : Int) (v : Value) (hrow : RowK W1 m v (kinds t)) (hn : vof rows t = none) (hw : (Lit.int .i64 t).wf = true) (hl : rows.length ≤ 1000) :
    ∃ W2, (Instr.mapUpdate 141 (.map (some m)) (.int .i64 t) v).run Try.prog W1 = .ok () W2 ∧ PMs w W2 m (rows ++ [(t, v)]) := by
  have h1 := h.later hb
  obtain ⟨W2, r1, r2, r3⟩ := h1.map.store t hn hw hl v
  refine ⟨W2, r1, r2, fun p hp => ?_, below_aside h1.bel r3 fun b hb => ⟨Nat.lt_of_lt_of_le hb h1.bel.size, by have := h1.old; omega⟩, h1.old⟩
  rcases List.mem_append.mp hp with hp | hp
  · exact (h1.row p hp).aside r3 fun _ _ h => h
  · obtain rfl := List.mem_singleton.mp hp
    exact hrow.aside r3 fun _ _ h => h

/-- What parts leaves: a map in which each type's parts are found. -/
def PartsPost (w : World) (e : Ending) (w' : World) : Prop :=
  ∃ m, e = .returned (.map (some m)) ∧ Below w.heap.size w w' ∧ ∀ t : Int, (Lit.int .i64 t).wf = true →
    (kinds t = [.rst] ∧ (Instr.lookup 141 (.map (some m)) (.int .i64 t) true).run Try.prog w' = .ok (.tuple #[.slice none 0 0, .bool false]) w') ∨
    (∃ v, RowK w' m v (kinds t) ∧ (Instr.lookup 141 (.map (some m)) (.int .i64 t) true).run Try.prog w' = .ok (.tuple #[v, .bool true]) w')

theorem parts_fin {w W : World} {m : Nat} {rows : List (Int × Value)} (h : PMs w W m rows) (hk : rows.map (·.1) = [1, 28, 2, 5, 12, 15, 6, 16]) : PartsPost w (.returned (.map (some m))) W := by
  refine ⟨m, rfl, h.bel, fun t hw => ?_⟩
  have hl := h.map.look t hw
  rcases hv : vof rows t with _ | v
  · rw [hv] at hl
    refine .inl ⟨?_, hl⟩
    have hno : ∀ x ∈ rows.map (·.1), x ≠ t := by
      intro x hx e
      subst e
      obtain ⟨p, hp, rfl⟩ := List.mem_map.mp hx
      unfold vof at hv
      have := List.find?_eq_none.mp (Option.map_eq_none_iff.mp hv) p hp
      simp at this
    rw [hk] at hno
    have a1 := hno 1 (by simp)
    have a2 := hno 28 (by simp)
    have a3 := hno 2 (by simp)
    have a4 := hno 5 (by simp)
    have a5 := hno 12 (by simp)
    have a6 := hno 15 (by simp)
    have a7 := hno 6 (by simp)
    have a8 := hno 16 (by simp)
    unfold kinds
    rw [if_neg (fun e => a1 e.symm), if_neg (fun e => a2 e.symm), if_neg (by rintro (e | e | e) <;> simp_all), if_neg (fun e => a6 e.symm), if_neg (fun e => a7 e.symm), if_neg (fun e => a8 e.symm)]
  · rw [hv] at hl
    refine .inr ⟨v, ?_, hl⟩
    unfold vof at hv
    obtain ⟨p, hp, rfl⟩ := Option.map_eq_some_iff.mp hv
    have h1 := List.mem_of_find?_eq_some hp
    have h2 := List.find?_some hp
    have h3 : p.1 = t := by simpa using h2
    rw [← h3]
    exact h.row p h1
end Go.Proofs.Ytaikpgcmcmkdcaa

/-
  parts: walked.
-/
namespace Go.Proofs.Ytaikpgcmcmkdcaa
open Go.RowKit Go.Shelf
set_option linter.unusedVariables false
set_option linter.unusedSimpArgs false
set_option maxRecDepth 100000

theorem row_f4 {W : World} {m : Nat} (hm : m < W.heap.size) : RowK ((W.alloc (.cells #[.int .i64 4] 3)).alloc (.cells #[.func (.func 111) #[] #[.pointer (some ⟨W.heap.size, 0, none⟩)]] 145)) m (.slice (some ⟨W.heap.size + 1, 0, none⟩) 1 1) [.fix 4] ∧ Below W.heap.size W ((W.alloc (.cells #[.int .i64 4] 3)).alloc (.cells #[.func (.func 111) #[] #[.pointer (some ⟨W.heap.size, 0, none⟩)]] 145)) := by
  refine ⟨⟨W.heap.size + 1, 1, by omega, rfl, fun j hj => ?_⟩, ((Below.refl _ _).alloc (Nat.le_refl _) _).alloc (by simp) _⟩
  match j, hj with
  | 0, _ => exact ⟨_, by simp [go_sem], ⟨W.heap.size, by omega, rfl, by simp [go_sem]⟩⟩
  | j + 1, hj => simp only [List.length_cons, List.length_nil] at hj; omega

theorem row_f16 {W : World} {m : Nat} (hm : m < W.heap.size) : RowK ((W.alloc (.cells #[.int .i64 16] 3)).alloc (.cells #[.func (.func 111) #[] #[.pointer (some ⟨W.heap.size, 0, none⟩)]] 145)) m (.slice (some ⟨W.heap.size + 1, 0, none⟩) 1 1) [.fix 16] ∧ Below W.heap.size W ((W.alloc (.cells #[.int .i64 16] 3)).alloc (.cells #[.func (.func 111) #[] #[.pointer (some ⟨W.heap.size, 0, none⟩)]] 145)) := by
  refine ⟨⟨W.heap.size + 1, 1, by omega, rfl, fun j hj => ?_⟩, ((Below.refl _ _).alloc (Nat.le_refl _) _).alloc (by simp) _⟩
  match j, hj with
  | 0, _ => exact ⟨_, by simp [go_sem], ⟨W.heap.size, by omega, rfl, by simp [go_sem]⟩⟩
  | j + 1, hj => simp only [List.length_cons, List.length_nil] at hj; omega

theorem row_n {W : World} {m : Nat} (hm : m < W.heap.size) : RowK (W.alloc (.cells #[.func (.func 106) #[] #[]] 145)) m (.slice (some ⟨W.heap.size, 0, none⟩) 1 1) [.nam] ∧ Below W.heap.size W (W.alloc (.cells #[.func (.func 106) #[] #[]] 145)) := by
  refine ⟨⟨W.heap.size, 1, by omega, rfl, fun j hj => ?_⟩, (Below.refl _ _).alloc (Nat.le_refl _) _⟩
  match j, hj with
  | 0, _ => exact ⟨_, by simp [go_sem], rfl⟩
  | j + 1, hj => simp only [List.length_cons, List.length_nil] at hj; omega

theorem row_t {W : World} {m : Nat} (hm : m < W.heap.size) : RowK (W.alloc (.cells #[.func (.func 107) #[] #[]] 145)) m (.slice (some ⟨W.heap.size, 0, none⟩) 1 1) [.txt] ∧ Below W.heap.size W (W.alloc (.cells #[.func (.func 107) #[] #[]] 145)) := by
  refine ⟨⟨W.heap.size, 1, by omega, rfl, fun j hj => ?_⟩, (Below.refl _ _).alloc (Nat.le_refl _) _⟩
  match j, hj with
  | 0, _ => exact ⟨_, by simp [go_sem], rfl⟩
  | j + 1, hj => simp only [List.length_cons, List.length_nil] at hj; omega

theorem row_m {W : World} {m : Nat} (hm : m < W.heap.size) : RowK ((W.alloc (.cells #[.int .i64 2] 3)).alloc (.cells #[.func (.func 111) #[] #[.pointer (some ⟨W.heap.size, 0, none⟩)], .func (.func 106) #[] #[]] 145)) m (.slice (some ⟨W.heap.size + 1, 0, none⟩) 2 2) [.fix 2, .nam] ∧ Below W.heap.size W ((W.alloc (.cells #[.int .i64 2] 3)).alloc (.cells #[.func (.func 111) #[] #[.pointer (some ⟨W.heap.size, 0, none⟩)], .func (.func 106) #[] #[]] 145)) := by
  refine ⟨⟨W.heap.size + 1, 2, by omega, rfl, fun j hj => ?_⟩, ((Below.refl _ _).alloc (Nat.le_refl _) _).alloc (by simp) _⟩
  match j, hj with
  | 0, _ => exact ⟨_, by simp [go_sem], ⟨W.heap.size, by omega, rfl, by simp [go_sem]⟩⟩
  | 1, _ => exact ⟨_, by simp [go_sem], rfl⟩
  | j + 2, hj => simp only [List.length_cons, List.length_nil] at hj; omega

theorem row_s {W : World} {m : Nat} (hm : m < W.heap.size) : RowK ((W.alloc (.cells #[.int .i64 20] 3)).alloc (.cells #[.func (.func 106) #[] #[], .func (.func 106) #[] #[], .func (.func 111) #[] #[.pointer (some ⟨W.heap.size, 0, none⟩)]] 145)) m (.slice (some ⟨W.heap.size + 1, 0, none⟩) 3 3) [.nam, .nam, .fix 20] ∧ Below W.heap.size W ((W.alloc (.cells #[.int .i64 20] 3)).alloc (.cells #[.func (.func 106) #[] #[], .func (.func 106) #[] #[], .func (.func 111) #[] #[.pointer (some ⟨W.heap.size, 0, none⟩)]] 145)) := by
  refine ⟨⟨W.heap.size + 1, 3, by omega, rfl, fun j hj => ?_⟩, ((Below.refl _ _).alloc (Nat.le_refl _) _).alloc (by simp) _⟩
  match j, hj with
  | 0, _ => exact ⟨_, by simp [go_sem], rfl⟩
  | 1, _ => exact ⟨_, by simp [go_sem], rfl⟩
  | 2, _ => exact ⟨_, by simp [go_sem], ⟨W.heap.size, by omega, rfl, by simp [go_sem]⟩⟩
  | j + 3, hj => simp only [List.length_cons, List.length_nil] at hj; omega

theorem pms_size {w W : World} {m : Nat} {rows : List (Int × Value)} (h : PMs w W m rows) : m < W.heap.size := h.map.lt

set_option maxHeartbeats 4000000 in
theorem parts_any (w : World) : Calls Try.prog 95 #[] w (PartsPost w) := by
  have hmm := run_makeMap (P := Try.prog) 141 w
  have P0 : PMs w (w.alloc (.map #[] 0)) w.heap.size [] := ⟨Pm.made w, fun p hp => by simp at hp, (Below.refl _ _).alloc (Nat.le_refl _) _, Nat.le_refl _⟩
  obtain ⟨W0, hW0⟩ : ∃ W0, w.alloc (.map #[] 0) = W0 := ⟨_, rfl⟩
  obtain ⟨m, hm⟩ : ∃ m, w.heap.size = m := ⟨_, rfl⟩
  rw [hW0] at hmm P0
  have HM := Lib.hid hm
  rw [hm] at hmm P0
  clear hW0 hm
  obtain ⟨W1, r1, P1⟩ := P0.step (row_f4 (pms_size P0)).2 1 _ (row_f4 (pms_size P0)).1 rfl (by decide) (by simp)
  obtain ⟨W2, r2, P2⟩ := P1.step (row_f16 (pms_size P1)).2 28 _ (row_f16 (pms_size P1)).1 rfl (by decide) (by simp)
  obtain ⟨W3, r3, P3⟩ := P2.step (row_n (pms_size P2)).2 2 _ (row_n (pms_size P2)).1 rfl (by decide) (by simp)
  obtain ⟨W4, r4, P4⟩ := P3.step (row_n (pms_size P3)).2 5 _ (row_n (pms_size P3)).1 rfl (by decide) (by simp)
  obtain ⟨W5, r5, P5⟩ := P4.step (row_n (pms_size P4)).2 12 _ (row_n (pms_size P4)).1 rfl (by decide) (by simp)
  obtain ⟨W6, r6, P6⟩ := P5.step (row_m (pms_size P5)).2 15 _ (row_m (pms_size P5)).1 rfl (by decide) (by simp)
  obtain ⟨W7, r7, P7⟩ := P6.step (row_s (pms_size P6)).2 6 _ (row_s (pms_size P6)).1 rfl (by decide) (by simp)
  obtain ⟨W8, r8, P8⟩ := P7.step (row_t (pms_size P7)).2 16 _ (row_t (pms_size P7)).1 rfl (by decide) (by simp)
  have HP := Lib.hid (parts_fin P8 rfl)
  have R1 := r1
  clear P0 P1 P2 P3 P4 P5 P6 P7 P8 R1
  go_enter Try.func95, Try.ntmps95
  go_wp2_with (go_at_call 105; refine (fixed_any _ _).mono ?_; rintro e w1 ⟨rfl, rfl⟩)
  go_ret
  exact HP.out
end Go.Proofs.Ytaikpgcmcmkdcaa

/-
  The deferred function that recovers a part that does not fit.
-/
namespace Go.Proofs.Ytaikpgcmcmkdcaa
open Go.RowKit Go.Shelf
set_option linter.unusedVariables false
set_option linter.unusedSimpArgs false
set_option maxRecDepth 100000

theorem tam_nil (w : World) : (Instr.typeAssert .nilIface 20 137 true).run Try.prog w = .ok (.tuple #[.agg #[.int .i64 0, .int .i64 0], .bool false]) w := by kernel_rfl
theorem tam_mis (e a : Int) (w : World) : (Instr.typeAssert (.iface 137 (.agg #[.int .i64 e, .int .i64 a])) 20 137 true).run Try.prog w = .ok (.tuple #[.agg #[.int .i64 e, .int .i64 a], .bool true]) w := by kernel_rfl

theorem mcatch_idle (p q : Addr) (w : World) :
    CallsD Try.prog 94 #[.pointer (some p), .pointer (some q)] .returning w fun e u' w' => e = .returned (.tuple #[]) ∧ u' = .returning ∧ w' = w.alloc (.cells #[.int .i64 0, .int .i64 0] 137) := by
  refine callsD_of_wpS Try.func94 rfl fun c₀ cs hu => ?_
  simp only [Try.ntmps94, List.size_toArray, List.length_cons, List.length_nil, Nat.reduceAdd, Nat.reduceSub, Array.replicate_succ, Array.replicate_zero, List.push_toArray, List.append_toArray, List.nil_append, List.cons_append]
  apply wpS_seq
  apply wpS_region
  simp [wpOpsS, go_sem, recoverD, hu, Exit.thenS, tam_nil]
  refine wpS_of_wp ?_
  go_wp2
  cases c₀
  simp_all [bodyPostS, results, Try.results94]

/-- What a part that does not fit leaves. -/
def CaughtM (b2 b3 : Nat) (e a : Int) (w w' : World) : Prop :=
  Aside (fun b => b = b2 ∨ b = b3) w w' ∧ w'.cell? ⟨b2, 0, none⟩ = some (.slice none 0 0) ∧ w'.cell? ⟨b3, 0, none⟩ = some (.int .i64 e) ∧ w'.cell? ⟨b3, 1, none⟩ = some (.int .i64 a)

theorem mcatch_fault (b2 b3 : Nat) (hne : b2 ≠ b3) (e a : Int) (w : World) (u : Value) (hp : w.cell? ⟨b2, 0, none⟩ = some u) (h0 : w.cell? ⟨b3, 0, none⟩ = some (.int .i64 0)) (h1 : w.cell? ⟨b3, 1, none⟩ = some (.int .i64 0))
    (hf2 : ∀ j, w.frozen? ⟨b2, j, none⟩ = false) (hf3 : ∀ j, w.frozen? ⟨b3, j, none⟩ = false) :
    CallsD Try.prog 94 #[.pointer (some ⟨b2, 0, none⟩), .pointer (some ⟨b3, 0, none⟩)] (.panicking [{ v := .iface 137 (.agg #[.int .i64 e, .int .i64 a]), recovered := false }]) w fun en u' w' =>
      en = .returned (.tuple #[]) ∧ u' = .panicking [{ v := .iface 137 (.agg #[.int .i64 e, .int .i64 a]), recovered := true }] ∧ CaughtM b2 b3 e a w w' := by
  refine callsD_of_wpS Try.func94 rfl fun c₀ cs hu => ?_
  simp only [Try.ntmps94, List.size_toArray, List.length_cons, List.length_nil, Nat.reduceAdd, Nat.reduceSub, Array.replicate_succ, Array.replicate_zero, List.push_toArray, List.append_toArray, List.nil_append, List.cons_append]
  apply wpS_seq
  apply wpS_region
  simp [wpOpsS, go_sem, recoverD, hu, Exit.thenS, tam_mis]
  refine wpS_of_wp ?_
  have hl2 : b2 < w.heap.size := World.block_lt_of_cell? w _ hp
  have hl3 : b3 < w.heap.size := World.block_lt_of_cell? w _ h0
  obtain ⟨W, hW⟩ : ∃ W, (w.alloc (.cells #[.int .i64 e, .int .i64 a] 137)).drew = W := ⟨_, rfl⟩
  have hbel : Below w.heap.size w W := by rw [← hW]; exact ((Below.refl _ w).alloc (Nat.le_refl _) _).drew
  have g2 : W.cell? ⟨b2, 0, none⟩ = some u := (hbel.cell hl2).trans hp
  have g30 : W.cell? ⟨b3, 0, none⟩ = some (.int .i64 0) := (hbel.cell hl3).trans h0
  have g31 : W.cell? ⟨b3, 1, none⟩ = some (.int .i64 0) := (hbel.cell hl3).trans h1
  have f2 : ∀ j, W.frozen? ⟨b2, j, none⟩ = false := fun j => (hbel.frozen (p := ⟨b2, j, none⟩) hl2).trans (hf2 j)
  have f3 : ∀ j, W.frozen? ⟨b3, j, none⟩ = false := fun j => (hbel.frozen (p := ⟨b3, j, none⟩) hl3).trans (hf3 j)
  obtain ⟨g, hg⟩ : ∃ g, w.heap.size = g := ⟨_, rfl⟩
  have n0 : W.cell? ⟨g, 0, none⟩ = some (.int .i64 e) := by rw [← hW, ← hg]; simp [go_sem]
  have n1 : W.cell? ⟨g, 1, none⟩ = some (.int .i64 a) := by rw [← hW, ← hg]; simp [go_sem]
  have hne2 : ¬ g = b2 := by omega
  have hne3 : ¬ b3 = b2 := fun h => hne h.symm
  have HC : Hid (CaughtM b2 b3 e a w (((W.setCell ⟨b2, 0, none⟩ (.slice none 0 0)).setCell ⟨b3, 0, none⟩ (.int .i64 e)).setCell ⟨b3, 1, none⟩ (.int .i64 a))) := by
    have x2 := World.cell?_setCell_same W ⟨b2, 0, none⟩ (.slice none 0 0) g2
    have y0 : (W.setCell ⟨b2, 0, none⟩ (.slice none 0 0)).cell? ⟨b3, 0, none⟩ = some (.int .i64 0) := by rw [World.cell?_setCell_other _ _ _ _ (by simp [hne3])]; exact g30
    have y1 : (W.setCell ⟨b2, 0, none⟩ (.slice none 0 0)).cell? ⟨b3, 1, none⟩ = some (.int .i64 0) := by rw [World.cell?_setCell_other _ _ _ _ (by simp [hne3])]; exact g31
    obtain ⟨z0, z1⟩ := res_set (.int .i64 e) (.int .i64 a) y0 y1
    refine ⟨?_, ?_, ?_, z1⟩
    · exact (((Aside.of_all hbel).trans (Aside.setCell _ _ (.inl rfl))).trans (Aside.setCell _ _ (.inr rfl))).trans (Aside.setCell _ _ (.inr rfl))
    · rw [World.cell?_setCell_other _ _ _ _ (by simp [hne]), World.cell?_setCell_other _ _ _ _ (by simp [hne])]
      exact x2
    · rw [World.cell?_setCell_other _ _ _ _ (by simp)]
      exact z0
  clear hbel
  go_wp2
  go_region
  exact ⟨rfl, _, rfl, .tuple #[], by simp [results, Try.results94], rfl, rfl, HC.out⟩

/-! ### plain -/
theorem kinds_small (t : Int) : (kinds t).length ≤ 3 ∧ ∀ k ∈ kinds t, ∀ n, k = .fix n → n ≤ 20 := by
  unfold kinds
  repeat' split
  all_goals simp

theorem step_le {F : Nat → Got} {b : List UInt8} {s e p : Nat} (hp : p ≤ e) {k : PK} {x : Pc} {q : Nat} (h : stepP F b s e p k = .ok x q) : q ≤ e := by
  cases k with
  | fix n => simp only [stepP, cutP] at h; split at h <;> simp at h; omega
  | nam =>
    simp only [stepP] at h
    split at h
    · simp at h
    · split at h
      · simp at h
      · split at h
        · simp at h
        · rename_i h3; injection h with h1 h2; omega
  | txt =>
    rw [txR_step] at h
    cases hy : txE b e (e + 1) p with
    | none => rw [hy] at h; simp [txR] at h
    | some y => rw [hy] at h; simp only [txR, cutP] at h; split at h <;> simp at h; omega
  | rst => simp only [stepP, cutP] at h; split at h <;> simp at h; omega

/-- What read tells. -/
def ReadPost (w : World) (R : RR) (en : Ending) (w' : World) : Prop :=
  ∃ v, en = .returned (.tuple #[v, .agg #[.int .i64 R.code, .int .i64 R.place]]) ∧ OwnP w' w.heap.size v R.pcs ∧ Below w.heap.size w w'
end Go.Proofs.Ytaikpgcmcmkdcaa
