/-
  Slices of texts as lists of lists of bytes; rows of the call's own; append; cuts.
-/
import Derived.Test.YtlkafakanoefmaaDoorZ00
import Derived.Laws.AppendOwnNone
import Derived.Laws.IdiomStrings
import Derived.Lib.BufStepsIn
import Derived.Laws.CopyOwn
import Derived.Deep.RegionHeld3
import Derived.LoopN
import Derived.Deep.LoopGhost
import Derived.BigQuiet
namespace Go.Proofs.YtlkafakanoefmaaDoor
open Go.RowKit
set_option linter.unusedVariables false
set_option maxRecDepth 100000

/-- A text as a value. -/
def tv (x : List UInt8) : Value := .string (bs x)

/-- The slice value v reads as the texts l; what it leads to lies in blocks from lo on, below hi. -/
def St (w : World) (lo hi : Nat) (v : Value) (l : List (List UInt8)) : Prop :=
  ∃ a c, v = .slice a l.length c ∧ l.length ≤ c ∧ (a = none → c = 0) ∧ (0 < l.length → ∃ b off, a = some ⟨b, off, none⟩ ∧ lo ≤ b ∧ b < hi ∧ ∀ j, j < l.length → w.cell? ⟨b, off + j, none⟩ = some (tv (l.getD j [])))

section
variable {w w' : World} {lo hi lo' hi' B : Nat} {v : Value} {l : List (List UInt8)}
theorem St.keep (h : St w lo hi v l) (hk : ∀ b o, lo ≤ b → b < hi → b < w.heap.size → w'.cell? ⟨b, o, none⟩ = w.cell? ⟨b, o, none⟩) : St w' lo hi v l := by
  obtain ⟨a, c, rfl, hc, hn, hp⟩ := h
  refine ⟨a, c, rfl, hc, hn, fun h0 => ?_⟩
  obtain ⟨b, off, rfl, h1, h2, h3⟩ := hp h0
  exact ⟨b, off, rfl, h1, h2, fun j hj => (hk b _ h1 h2 (World.block_lt_of_cell? w _ (h3 j hj))).trans (h3 j hj)⟩
theorem St.below (h : St w lo hi v l) (hb : Below B w w') (hB : hi ≤ B) : St w' lo hi v l :=
  h.keep fun b o _ h2 _ => hb.cell (p := ⟨b, o, none⟩) (Nat.lt_of_lt_of_le h2 hB)
theorem St.later (h : St w lo hi v l) (hb : Below w.heap.size w w') : St w' lo hi v l :=
  h.keep fun b o _ _ h3 => hb.cell (p := ⟨b, o, none⟩) h3
theorem St.aside {G : Nat → Prop} (h : St w lo hi v l) (ha : Aside G w w') (hG : ∀ b, lo ≤ b → b < hi → ¬ G b) : St w' lo hi v l :=
  h.keep fun b o h1 h2 h3 => ha.cell (p := ⟨b, o, none⟩) h3 (hG b h1 h2)
theorem St.wide (h : St w lo hi v l) (h1 : lo' ≤ lo) (h2 : hi ≤ hi') : St w lo' hi' v l := by
  obtain ⟨a, c, rfl, hc, hn, hp⟩ := h
  refine ⟨a, c, rfl, hc, hn, fun h0 => ?_⟩
  obtain ⟨b, off, rfl, h3, h4, h5⟩ := hp h0
  exact ⟨b, off, rfl, by omega, by omega, h5⟩
theorem St.top (h : St w lo hi v l) : St w 0 w.heap.size v l := by
  obtain ⟨a, c, rfl, hc, hn, hp⟩ := h
  refine ⟨a, c, rfl, hc, hn, fun h0 => ?_⟩
  obtain ⟨b, off, rfl, h3, h4, h5⟩ := hp h0
  exact ⟨b, off, rfl, Nat.zero_le _, World.block_lt_of_cell? w _ (h5 0 h0), h5⟩
theorem St.nil (w : World) (lo hi : Nat) : St w lo hi (.slice none 0 0) [] := ⟨_, 0, rfl, by simp, fun _ => rfl, fun h => by simp at h⟩
end

/-- v is nil, or a row of the call's own, in blocks from B on, which holds the texts l, then empty ones. -/
def OwnT (w : World) (B : Nat) (v : Value) (l : List (List UInt8)) : Prop := OwnZ w B 9 (.string ⟨#[]⟩) v (l.map tv)

theorem OwnT.nil (w : World) (B : Nat) : OwnT w B (.slice .none 0 0) [] := OwnZ.nil _ _ _ _
theorem OwnT.lt {w : World} {B : Nat} {v : Value} {l : List (List UInt8)} (h : OwnT w B v l) : ∀ k, v.ownBlock = some k → B ≤ k ∧ k < w.heap.size := OwnZ.lt h
theorem OwnT.aside {w w' : World} {B : Nat} {v : Value} {l : List (List UInt8)} {G : Nat → Prop} (h : OwnT w B v l) (ha : Aside G w w') (hG : ∀ b, B ≤ b → ¬ G b) : OwnT w' B v l := OwnZ.aside h ha hG
theorem OwnT.mono {w : World} {B B' : Nat} {v : Value} {l : List (List UInt8)} (h : OwnT w B v l) (hB : B' ≤ B) : OwnT w B' v l := OwnZ.mono h hB
theorem OwnT.below {w w' : World} {B : Nat} {v : Value} {l : List (List UInt8)} (h : OwnT w B v l) (hb : Below w.heap.size w w') : OwnT w' B v l := OwnZ.below h hb
theorem OwnT.setCell {w : World} {B : Nat} {v : Value} {l : List (List UInt8)} (h : OwnT w B v l) {p : Addr} (hp : p.block < B) (u : Value) : OwnT (w.setCell p u) B v l :=
  h.aside (G := fun b => b = p.block) (Aside.setCell _ _ rfl) fun b hb e => by omega

theorem OwnT.shape {w : World} {B : Nat} {v : Value} {l : List (List UInt8)} (h : OwnT w B v l) : ∃ a c, v = .slice a l.length c := by
  rcases h with ⟨rfl, h0⟩ | ⟨g, cap, rfl, _⟩
  · have : l = [] := by simpa using h0
    subst this
    exact ⟨.none, 0, rfl⟩
  · exact ⟨_, cap, by rw [List.length_map]⟩

/-- A text of a slice, loaded. -/
theorem St.cell {w : World} {lo hi c : Nat} {a : Option Addr} {l : List (List UInt8)} (h : St w lo hi (.slice a l.length c) l) (h0 : 0 < l.length) :
    ∃ b off, a = some ⟨b, off, none⟩ ∧ lo ≤ b ∧ b < hi ∧ ∀ j, j < l.length → w.cell? ⟨b, off + j, none⟩ = some (tv (l.getD j [])) := by
  obtain ⟨a', c', he, hc, hn, hq⟩ := h
  injection he with e1 e2 e3
  subst e1; subst e3
  exact hq h0
end Go.Proofs.YtlkafakanoefmaaDoor

/-
  Lower, the program's and the document's.
-/
namespace Go.Proofs.YtlkafakanoefmaaDoor
open Go.RowKit
set_option linter.unusedVariables false
set_option maxRecDepth 100000

/-- Block g begins with these bytes, which may be written. -/
def Buf (w : World) (g : Nat) (l : List UInt8) : Prop := ∀ j, j < l.length → w.cell? ⟨g, j, none⟩ = some (.int .u8 ((l.getD j 0).toNat : Nat)) ∧ w.frozen? ⟨g, j, none⟩ = false

theorem Buf.set {w : World} {g : Nat} {l : List UInt8} (h : Buf w g l) (k : Nat) (hk : k < l.length) (c : UInt8) : Buf (w.setCell ⟨g, k, none⟩ (.int .u8 (c.toNat : Nat))) g (l.set k c) := by
  intro j hj
  rw [List.length_set] at hj
  rw [World.frozen?_setCell]
  refine ⟨?_, (h j hj).2⟩
  by_cases e : j = k
  · subst e
    rw [World.cell?_setCell_same _ _ _ (h j hj).1]
    simp [hj]
  · rw [World.cell?_setCell_other _ _ _ _ (by first | (simp; done) | (simp; omega)), (h j hj).1]
    simp [List.getElem?_set_ne (Ne.symm e)]

theorem Buf.row {w : World} {s : List UInt8} {cap : Nat} {t : TypeId} (hcap : s.length ≤ cap) : Buf (w.drew.alloc (.cells (bytesRow (bs s) cap) t ((bytesRow (bs s) cap).size, (bytesRow (bs s) cap).size + 1))) w.heap.size s := by
  intro j hj
  have h1 := World.cell?_alloc_mark w.drew (bytesRow (bs s) cap) t ((bytesRow (bs s) cap).size, (bytesRow (bs s) cap).size + 1) j
  have h2 := World.frozen?_alloc_mark w.drew (bytesRow (bs s) cap) t (bytesRow (bs s) cap).size ((bytesRow (bs s) cap).size + 1) j
  have hsz : j < (bytesRow (bs s) cap).size := by simp [bytesRow, bs]; omega
  refine ⟨h1.trans ?_, h2.trans ?_⟩
  · rw [bytesRow_at (bs s) cap j (by simpa [bs] using hj)]
    simp [bs, hj]
  · simp; omega

end Go.Proofs.YtlkafakanoefmaaDoor

/-
  Rows of bytes of the call's own: append of bytes and of texts, in a round and elsewhere.
-/
namespace Go.Proofs.YtlkafakanoefmaaDoor
open Go.RowKit
set_option linter.unusedVariables false
set_option maxRecDepth 100000

/-- Bytes as cells. -/
def ub (l : List UInt8) : List Value := l.map fun b => Value.int .u8 (b.toNat : Nat)

theorem ub_one (l : List UInt8) : ∀ u ∈ ub l, u.oneCell' = true := by
  intro u hu
  obtain ⟨x, _, rfl⟩ := List.mem_map.mp hu
  rfl

/-- v is a row of the call's own, in blocks from B on, whose first places hold the bytes l. -/
def OwnU (w : World) (B : Nat) (v : Value) (l : List UInt8) : Prop := w.ownsRowF B 5 1 v l.length (ub l)

theorem OwnU.nil (w : World) (B : Nat) : OwnU w B (.slice .none 0 0) [] := World.ownsRowF_nil _ _ _ _

theorem OwnU.aside {w w' : World} {B : Nat} {v : Value} {l : List UInt8} {G : Nat → Prop} (h : OwnU w B v l) (ha : Aside G w w') (hG : ∀ b, B ≤ b → ¬ G b) : OwnU w' B v l := by
  have hlt := World.ownsRowF.lt h
  refine ⟨h.1, ?_⟩
  rcases h.2 with h2 | ⟨g, cap, cur, fz, hv, hg, hh, r⟩
  · exact .inl h2
  · exact .inr ⟨g, cap, cur, fz, hv, hg, (ha.block g (by subst hv; exact (hlt g rfl).2) (hG g hg)).trans hh, r⟩

theorem OwnU.mono {w : World} {B B' : Nat} {v : Value} {l : List UInt8} (h : OwnU w B v l) (hB : B' ≤ B) : OwnU w B' v l := by
  refine ⟨h.1, ?_⟩
  rcases h.2 with h2 | ⟨g, cap, cur, fz, hv, hg, r⟩
  · exact .inl h2
  · exact .inr ⟨g, cap, cur, fz, hv, Nat.le_trans hB hg, r⟩

theorem OwnU.setCell {w : World} {B : Nat} {v : Value} {l : List UInt8} (h : OwnU w B v l) {p : Addr} (hp : p.block < B) (u : Value) : OwnU (w.setCell p u) B v l :=
  h.aside (G := fun b => b = p.block) (Aside.setCell _ _ rfl) fun b hb e => by omega

theorem OwnU.below {w w' : World} {B : Nat} {v : Value} {l : List UInt8} (h : OwnU w B v l) (hb : Below w.heap.size w w') : OwnU w' B v l :=
  h.aside (G := fun _ => False) (Aside.of_all hb) fun _ _ h => h

theorem OwnU.row {w : World} {B : Nat} {v : Value} {l : List UInt8} (h : OwnU w B v l) : ∀ k, v.ownBlock = some k → B ≤ k := fun k hk => (World.ownsRowF.lt h k hk).1

theorem OwnU.shape {w : World} {B : Nat} {v : Value} {l : List UInt8} (h : OwnU w B v l) : ∃ a c, v = .slice a l.length c ∧ (0 < l.length → ∃ g, a = some ⟨g, 0, .none⟩ ∧ B ≤ g ∧ ∀ j, j < l.length → w.cell? ⟨g, j, .none⟩ = some (.int .u8 ((l.getD j 0).toNat : Nat))) := by
  rcases h.2 with ⟨rfl, h0⟩ | ⟨g, cap, cur, fz, rfl, hg, hh, r⟩
  · exact ⟨.none, 0, by rw [h0], fun h => by omega⟩
  · refine ⟨_, _, rfl, fun _ => ⟨g, rfl, hg, fun j hj => ?_⟩⟩
    have := World.ownsRowF.cells h (g := g) rfl j (.int .u8 ((l.getD j 0).toNat : Nat)) (by unfold ub; rw [List.getElem?_map, List.getElem?_eq_getElem hj, List.getD, List.getElem?_eq_getElem hj]; rfl)
    rw [WideShapes.add_plain, Nat.zero_add] at this
    exact this

/-- append of bytes, as it runs. -/
theorem run_appU {w : World} (B : Nat) (v : Value) (l l' : List UInt8) (g c : Nat) (hown : OwnU w B v l) (hx : ∀ j, j < l'.length → w.cell? ⟨g, j, none⟩ = some (.int .u8 ((l'.getD j 0).toNat : Nat))) (hb : l.length + l'.length ≤ 1000000) (hB : B ≤ w.heap.size) :
    ∃ a' c' w', (Builtin.append_ #[22, 22] 22 #[v, .slice (some ⟨g, 0, none⟩) l'.length c]).run Tryd.prog w = .ok (.slice a' (l.length + l'.length) c') w' ∧ OwnU w' B (.slice a' (l.length + l'.length) c') (l ++ l') ∧ w.grownBy w' v.ownBlock := by
  obtain ⟨i0, hi, hz0, hz1, hz2⟩ := info_parts Tryd.info5
  obtain ⟨v', w', h1, h2, h3, _⟩ := run_append_ownF (P := Tryd.prog) w B 22 22 5 i0 (.int .u8 0) 1 1 Tryd.underlying22 hi hz0 hz1 hz2 rfl (by decide) v l.length (ub l) hown ⟨g, 0, none⟩ l'.length c (ub l') (by simp [ub])
    (fun j u hu => by
      unfold ub at hu
      rw [List.getElem?_map] at hu
      obtain ⟨n, hq, rfl⟩ := Option.map_eq_some_iff.mp hu
      have hj : j < l'.length := (List.getElem?_eq_some_iff.mp hq).1
      rw [WideShapes.add_plain, Nat.zero_add, hx j hj, List.getD, hq]; rfl) (ub_one _) (by unfold maxLen; omega) (by omega) hB
  have h4 : OwnU w' B v' (l ++ l') := by
    show w'.ownsRowF B 5 1 v' (l ++ l').length (ub (l ++ l'))
    rw [List.length_append, ub, List.map_append]
    exact h2
  obtain ⟨a', c', hv, _⟩ := h4.shape
  rw [List.length_append] at hv
  subst hv
  exact ⟨a', c', w', h1, h4, h3⟩

/-- append of a text's bytes, as it runs. -/
theorem run_appS {w : World} (B : Nat) (v : Value) (l l' : List UInt8) (hown : OwnU w B v l) (hb : l.length + l'.length ≤ 1000000) (hB : B ≤ w.heap.size) :
    ∃ a' c' w', (Builtin.append_ #[22, 9] 22 #[v, .string (bs l')]).run Tryd.prog w = .ok (.slice a' (l.length + l'.length) c') w' ∧ OwnU w' B (.slice a' (l.length + l'.length) c') (l ++ l') ∧ w.grownBy w' v.ownBlock := by
  obtain ⟨i0, hi, hz0, hz1, hz2⟩ := info_parts Tryd.info5
  obtain ⟨v', w', h1, h2, h3, _⟩ := Lib.run_append_own_stringF (P := Tryd.prog) w B 22 9 22 5 i0 Tryd.underlying22 Tryd.underlying9 hi hz0 hz1 hz2 v l.length (ub l) hown (bs l') (by rw [bs_size]; unfold maxLen; omega) (by rw [bs_size]; omega) hB
  have h4 : OwnU w' B v' (l ++ l') := by
    show w'.ownsRowF B 5 1 v' (l ++ l').length (ub (l ++ l'))
    rw [List.length_append, ub, List.map_append]
    rw [bs_size] at h2
    exact h2
  obtain ⟨a', c', hv, _⟩ := h4.shape
  rw [List.length_append] at hv
  subst hv
  exact ⟨a', c', w', h1, h4, h3⟩

end Go.Proofs.YtlkafakanoefmaaDoor

/-
  A name in a message, read plainly: byte by byte, part by part.
-/
namespace Go.Proofs.YtlkafakanoefmaaDoor
open Go.RowKit
set_option linter.unusedVariables false
set_option maxRecDepth 100000

/-- Bytes as numbers. -/
def iz (b : List UInt8) : List Int := b.map fun x => (x.toNat : Int)

@[simp] theorem iz_len (b : List UInt8) : (iz b).length = b.length := by simp [iz]

theorem iz_byte (b : List UInt8) : ByteL (iz b) := fun n hn => by
  obtain ⟨x, _, rfl⟩ := List.mem_map.mp hn
  have : x.toNat < 256 := x.toNat_lt
  omega

theorem iz_get (b : List UInt8) (k : Nat) (h : k < b.length) : (iz b).getD k 0 = (b[k].toNat : Int) := by
  rw [List.getD, iz, List.getElem?_map, List.getElem?_eq_getElem h]; rfl

theorem iz_of {l : List Int} (h : ByteL l) : ∃ b, l = iz b := by
  refine ⟨l.map fun x => UInt8.ofNat x.toNat, ?_⟩
  unfold iz
  rw [List.map_map]
  conv => lhs; rw [← List.map_id l]
  refine List.map_congr_left fun x hx => ?_
  have := h x hx
  simp only [Function.comp, id]
  rw [UInt8.toNat_ofNat', Nat.mod_eq_of_lt (by omega)]
  omega

theorem iz_cut (b : List UInt8) (p k : Nat) : cutL (iz b) p k = iz ((b.drop p).take k) := by
  unfold cutL iz
  rw [← List.map_drop, ← List.map_take]

theorem iz_app (a b : List UInt8) : iz (a ++ b) = iz a ++ iz b := List.map_append

theorem iz_inj {a b : List UInt8} (h : iz a = iz b) : a = b := by
  refine List.map_inj_right (fun x y hxy => ?_) |>.mp h
  exact UInt8.toNat_inj.mp (by exact_mod_cast hxy)

/-- What a pointer of these two bytes leads to. -/
def ptr (x y : UInt8) : Nat := 256 * (x.toNat - 192) + y.toNat

end Go.Proofs.YtlkafakanoefmaaDoor

/-
  SameBytes.
-/
namespace Go.Proofs.YtlkafakanoefmaaDoor
open Go.RowKit
set_option linter.unusedVariables false
set_option maxRecDepth 100000

/-- A slice of bytes as a string. -/
theorem conv_sl {w : World} {lo hi : Nat} {v : Value} {l : List Int} (h : Sl w lo hi v l) : (convert 22 9 v).run Tryd.prog w = .ok (.string (strOfNums l)) w := by
  obtain ⟨a, c, rfl, hc, hn, hp⟩ := h
  by_cases h0 : 0 < l.length
  · obtain ⟨b, off, rfl, _, _, hx⟩ := hp h0
    exact run_convert_bytes_arg w 22 5 Tryd.underlying22 Tryd.underlying5 b off l.length c l rfl hx 9 Tryd.underlying9
  · have hl : l = [] := List.eq_nil_of_length_eq_zero (by omega)
    subst hl
    rcases a with _ | ad
    · rw [run_convert_bytes_nil w 22 5 Tryd.underlying22 Tryd.underlying5 _ c 9 Tryd.underlying9]; rfl
    · rw [run_convert_bytes_string w 22 9 5 _ _ c Tryd.underlying22 Tryd.underlying5 Tryd.underlying9, run_bytesToString w ad _ c [] (by simpa using run_loadCells_list (P := Tryd.prog) w ad [] (by simp))]
      rfl

set_option maxHeartbeats 400000 in
theorem same_any {w : World} {lo hi lo' hi' : Nat} {v v' : Value} {l : List Int} (h : Sl w lo hi v l) (h' : Sl w lo' hi' v' l) :
    Calls Tryd.prog 14 #[v, v'] w fun e w' => e = .returned (.bool true) ∧ w = w' := by
  have c1 := conv_sl h
  have c2 := conv_sl h'
  clear h h'
  go_enter Tryd.func14, Tryd.ntmps14
  go_wp2
  go_ret
  exact ⟨rfl, rfl⟩
end Go.Proofs.YtlkafakanoefmaaDoor

/-
  LentBytes: a copy, with three marks behind it.
-/
namespace Go.Proofs.YtlkafakanoefmaaDoor
open Go.RowKit
set_option linter.unusedVariables false
set_option maxRecDepth 100000

/-- What LentBytes lends: the bytes, and three marks behind them. -/
def lentL (l : List Int) : List Int := l ++ [160 + (l.length : Int) % 90, 160 + ((l.length : Int) + 1) % 90, 160 + ((l.length : Int) + 2) % 90]

theorem lentL_len (l : List Int) : (lentL l).length = l.length + 3 := by simp [lentL]

theorem lentL_take (l : List Int) : (lentL l).take l.length = l := by simp [lentL]

theorem lentL_mark (l : List Int) (k : Nat) (h1 : l.length ≤ k) (h2 : k < l.length + 3) : (lentL l).getD k 0 = 160 + (k : Int) % 90 := by
  unfold lentL
  rw [List.getD, List.getElem?_append_right h1]
  obtain rfl | rfl | rfl : k = l.length ∨ k = l.length + 1 ∨ k = l.length + 2 := by omega
  · simp
  · simp [Nat.add_sub_cancel_left]
  · simp [Nat.add_sub_cancel_left]

/-- Block g is lent: the bytes l, and the marks. -/
def LentAt (w : World) (g : Nat) (l : List Int) : Prop := w.heap[g]? = some (.cells ((lentL l).map (Value.int .u8)).toArray 5 (0, 0))

def LentPost (w : World) (l : List Int) (e : Ending) (w' : World) : Prop :=
  e = .returned (.slice (some ⟨w.heap.size, 0, none⟩) l.length (l.length + 3)) ∧ Below w.heap.size w w' ∧ LentAt w' w.heap.size l

set_option maxHeartbeats 1000000 in
theorem lent_any {w : World} {lo hi : Nat} {v : Value} {l : List Int} (h : Sl w lo hi v l) (hl : l.length ≤ 100000) : Calls Tryd.prog 10 #[v] w (LentPost w l) := by
  obtain ⟨a, c, rfl, hc, hn, hp⟩ := h
  have hmk := fun wx => makeN (l.length + 3) (by omega) wx
  have hN : (((l.length + 3 : Nat) : Int)) = (l.length : Int) + 3 := by omega
  rw [hN] at hmk
  clear hN
  have hb1 : Below w.heap.size w (w.alloc (Obj.cells (Array.replicate (l.length + 3) (Value.int IntKind.u8 0)) 5)) := (Below.refl _ _).alloc (Nat.le_refl _) _
  have HN := Lib.hid (Sl.news (n := 0) (c := 0) hp hb1)
  have HB1 := Lib.hid hb1
  clear hp hn hb1
  have hone : ∀ u ∈ l.map (Value.int .u8), u.oneCell' = true := ints_oneCell _ _
  obtain ⟨cs, hcs⟩ : ∃ cs, cs = l.map (Value.int .u8) := ⟨_, rfl⟩
  have hlc : cs.length = l.length := by rw [hcs]; simp
  rw [← hcs] at hone HN
  have HO := Lib.hid hone
  have HC := Lib.hid hcs
  have HL := Lib.hid hlc
  clear hone hcs hlc
  go_enter Tryd.func10, Tryd.ntmps10
  go_wp2_with (with_reducible refine wpList_copy_splice rfl (.tmp 9) (.tmp 10) 22 22 rfl 5 Tryd.underlying22 Tryd.size5 _ _ _ _ _ _ rfl rfl w.heap.size 0 (List.replicate (l.length + 3) (Value.int .u8 0)) 5 ?c1 cs ?c2 ?c3 ?c4 HO.out w.heap.size w HB1.out (Nat.le_refl _) ?_)
  case c1 => rw [List.toArray_replicate]; exact heap_alloc_new w _
  case c2 => rw [HL.out]; exact (Nat.min_eq_left (by omega)).symm
  case c3 => exact fun h0 => HN.out h0
  case c4 => rw [HL.out]; simp
  rw [HL.out]
  intro w1 HG HB
  have HS := Lib.hid (Part.start (m := l.length + 3) (lentL_take l) (by omega) (by rw [← HC.out]; exact HG.out))
  clear HB1 HO HC HN HL hmk
  clear HG
  have HB := Lib.hid HB
  go_wp2_with fail
  go_loopw [4] (fun i wr => ∃ k : Nat, l.length ≤ k ∧ k ≤ l.length + 3 ∧ i = .int .i64 k ∧ Hid (Part wr w.heap.size (l.length + 3) (lentL l) k) ∧ Hid (Below w.heap.size w wr)) (fun i _ => l.length + 3 - (intOf i).toNat)
  case atStart => exact ⟨l.length, by omega, by omega, rfl, HS, HB⟩
  case round =>
    obtain ⟨k, hk0, hk, rfl, HP, HB⟩ := hrel
    by_cases hlt : k < l.length + 3
    · obtain ⟨x, hx⟩ := HP.out.1.cell hlt
      have hf := HP.out.1.frozen (k := k)
      have HM := Lib.hid (lentL_mark l k hk0 hlt)
      go_wp2
      go_roundw
      case rel => exact ⟨k + 1, by omega, by omega, by go_num, Lib.hid (HP.out.step hlt _ (by rw [HM.out])), Lib.hid (HB.out.setCell (Nat.le_refl _) _)⟩
      case measure => simp [intOf]; omega
    · obtain rfl : k = l.length + 3 := by omega
      have HF := Lib.hid (HP.out.full (lentL_len l))
      go_wp2
      go_ret
      exact ⟨rfl, HB.out, HF.out⟩

theorem LentAt.sl {w : World} {g : Nat} {l : List Int} (h : LentAt w g l) : Sl w g (g + 1) (.slice (some ⟨g, 0, none⟩) (l.length + 3) (l.length + 3)) (lentL l) := by
  have := Own.sl (g := g) (l := lentL l) (w := w) (.inr ⟨rfl, h⟩)
  rw [lentL_len] at this
  exact this

theorem LentAt.slk {w : World} {g k : Nat} {l : List Int} (h : LentAt w g l) (hk : k = l.length + 3) : Sl w g (g + 1) (.slice (some ⟨g, 0, none⟩) k k) (lentL l) := by
  subst hk; exact h.sl

theorem LentAt.at_ {w : World} {g g' : Nat} {l : List Int} (h : LentAt w g l) (e : g = g') : LentAt w g' l := e ▸ h

theorem LentAt.later {w w' : World} {g : Nat} {l : List Int} (h : LentAt w g l) (hb : Below w.heap.size w w') (hg : g < w.heap.size) : LentAt w' g l := (hb.block g hg).trans h

theorem lent_n {w : World} {lo hi n c : Nat} {a : Option Addr} {l : List Int} (h : Sl w lo hi (.slice a n c) l) (hl : n ≤ 100000) (hn : n = l.length) (q : Nat) (hq : q = n + 3) :
    Calls Tryd.prog 10 #[.slice a n c] w fun e w' => e = .returned (.slice (some ⟨w.heap.size, 0, none⟩) n q) ∧ Below w.heap.size w w' ∧ LentAt w' w.heap.size l := by
  subst hn; subst hq
  exact lent_any h hl

theorem LentAt.lt {w : World} {g : Nat} {l : List Int} (h : LentAt w g l) : g < w.heap.size := (Array.getElem?_eq_some_iff.mp h).1

theorem LentAt.only {w w' : World} {g k : Nat} {l : List Int} (h : LentAt w g l) (ho : Only k w w') (hg : g ≠ k) : LentAt w' g l := (ho.2.2.2.2 g hg).trans h

theorem LentAt.later' {w w' : World} {g : Nat} {l : List Int} (h : LentAt w g l) (hb : Below w.heap.size w w') : LentAt w' g l := h.later hb h.lt

/-- What was lent reads as the bytes. -/
theorem LentAt.in_ {w : World} {g : Nat} {l : List Int} (h : LentAt w g l) : Sl w g (g + 1) (.slice (some ⟨g, 0, none⟩) l.length (l.length + 3)) l := by
  obtain ⟨a, c, he, hc, hn, hp⟩ := h.sl
  injection he with e1 e2 e3
  refine ⟨_, _, rfl, by omega, fun h => by simp at h, fun h0 => ?_⟩
  obtain ⟨b, off, e4, h1, h2, hx⟩ := hp (by rw [lentL_len]; omega)
  rw [← e1] at e4
  injection e4 with e4
  injection e4 with e5 e6 e7
  subst e5; subst e6
  refine ⟨g, 0, rfl, h1, h2, fun j hj => ?_⟩
  rw [hx j (by rw [lentL_len]; omega)]
  congr 2
  unfold lentL
  rw [List.getD, List.getD, List.getElem?_append_left hj]
end Go.Proofs.YtlkafakanoefmaaDoor

/-
  KeptBytes: what was lent is as it was.
-/
namespace Go.Proofs.YtlkafakanoefmaaDoor
open Go.RowKit
set_option linter.unusedVariables false
set_option maxRecDepth 100000

def KeptPost (w : World) (e : Ending) (w' : World) : Prop := e = .returned (.bool true) ∧ Below w.heap.size w w'

set_option maxHeartbeats 1000000 in
theorem kept_core {w : World} {lo hi g n c k : Nat} {a : Option Addr} {l : List Int} (h : Hid (Sl w lo hi (.slice a n c) l)) (hl : n ≤ 100000) (hg : Hid (LentAt w g l)) (hlt : g < w.heap.size) (hk : Hid (k = n + 3)) (hnl : Hid (n = l.length)) (e1 : (n : Int) + 3 = (k : Int)) :
    Calls Tryd.prog 15 #[.slice (some ⟨g, 0, none⟩) n k, .slice a n c] w (KeptPost w) := by
  have hd : Sl w.drew lo hi (.slice a n c) l := h.out.keep (fun _ _ _ _ => rfl)
  have HD := Lib.hid hd
  have hgd : LentAt w.drew g l := hg.out
  have HG := Lib.hid hgd
  have hltd : g < w.drew.heap.size := hlt
  have HL := Lib.hid hltd
  have hbd : Below w.heap.size w w.drew := (Below.refl _ _).drew
  have HB0 := Lib.hid hbd
  have hkb : k ≤ 100003 := by rw [hk.out]; omega
  have ew : IntKind.i64.wrap ((n : Int) + 3) = (k : Int) := by rw [e1]; exact IntWalk.i64_in _ (by omega)
  have ew2 : IntKind.i64.wrap (k : Int) = (k : Int) := IntWalk.i64_in _ (by omega)
  have hkk : k = l.length + 3 := by rw [hk.out, hnl.out]
  have HK := Lib.hid hkk
  clear hd hgd hltd hbd h hg hkk
  go_enter Tryd.func15, Tryd.ntmps15
  go_wp2
  go_region_held3 (fun _ => True) (trivial) (first | (go_at_call 10; refine (lent_n HD.out hl hnl.out k hk.out).mono ?_; rintro e w1 ⟨rfl, hb, hx⟩; have HB := Lib.hid hb; have HX := Lib.hid (LentAt.at_ (g' := w.heap.size) hx rfl); clear hb hx) | (go_at_call 14; refine (same_any (LentAt.slk (LentAt.later HG.out HB.out HL.out) HK.out) (LentAt.slk HX.out HK.out)).mono ?_; rintro e w2 ⟨rfl, rfl⟩))
  all_goals
    go_wp2
    go_ret
    exact ⟨rfl, HB0.out.trans HB.out⟩

theorem kept_any {w : World} {lo hi g : Nat} {v : Value} {l : List Int} (h : Sl w lo hi v l) (hl : l.length ≤ 100000) (hg : LentAt w g l) (hlt : g < w.heap.size) :
    Calls Tryd.prog 15 #[.slice (some ⟨g, 0, none⟩) l.length (l.length + 3), v] w (KeptPost w) := by
  obtain ⟨a, c, rfl, hc, hn, hp⟩ := h
  exact kept_core (l := l) ⟨a, c, rfl, hc, hn, hp⟩ hl hg hlt rfl rfl (by omega)
end Go.Proofs.YtlkafakanoefmaaDoor

/-
  OverBytes: that row alone turns.
-/
namespace Go.Proofs.YtlkafakanoefmaaDoor
open Go.RowKit
set_option linter.unusedVariables false
set_option maxRecDepth 100000

set_option maxHeartbeats 400000 in
theorem over_nil (w : World) : Calls Tryd.prog 13 #[.slice none 0 0] w fun e w' => e = .returned (.tuple #[]) ∧ w = w' := by
  go_enter Tryd.func13, Tryd.ntmps13
  go_wp2
  go_loop [3] (fun i => i = .int .i64 0) (fun _ => 0)
  case atStart => rfl
  case round =>
    subst hrel
    go_wp2
    go_end0
    exact ⟨rfl, rfl⟩

set_option maxHeartbeats 400000 in
theorem over_row (w : World) (g c : Nat) (hc : c ≤ 1000000) (h : BytesAt w g c) : Calls Tryd.prog 13 #[.slice (some ⟨g, 0, none⟩) c c] w fun e w' => e = .returned (.tuple #[]) ∧ Only g w w' := by
  have H := Lib.hid h
  clear h
  go_enter Tryd.func13, Tryd.ntmps13
  go_wp2
  go_loopw [3] (fun i wr => ∃ k : Nat, k ≤ c ∧ i = .int .i64 k ∧ Hid (BytesAt wr g c) ∧ Hid (Only g w wr)) (fun i _ => c - (intOf i).toNat)
  case atStart => exact ⟨0, Nat.zero_le _, rfl, H, Lib.hid (Only.refl g w)⟩
  case round =>
    obtain ⟨k, hk, rfl, HB, HO⟩ := hrel
    by_cases hlt : k < c
    · obtain ⟨x, hx⟩ := HB.out.cell hlt
      have hf := HB.out.frozen (k := k)
      go_wp2
      go_roundw
      case rel => exact ⟨k + 1, by omega, by go_num, Lib.hid (HB.out.set _), Lib.hid (HO.out.set _)⟩
      case measure => simp [intOf]; omega
    · go_wp2
      go_end0
      exact ⟨rfl, HO.out⟩

theorem over_own {w : World} {g : Nat} {v : Value} {l : List Int} (h : Own w g v l) (hl : l.length ≤ 1000000) : Calls Tryd.prog 13 #[v] w fun e w' => e = .returned (.tuple #[]) ∧ Only g w w' := by
  rcases h with ⟨rfl, rfl⟩ | ⟨rfl, hg⟩
  · exact (over_nil w).mono fun e w' ⟨he, hw⟩ => ⟨he, by subst hw; exact Only.refl g w⟩
  · exact over_row w g l.length hl (Own.bytes hg)
end Go.Proofs.YtlkafakanoefmaaDoor

/-
  Rows of bytes of the call's own, made by append or out of a text: nothing of them is frozen, what lies behind their length is zeros.
-/
namespace Go.Proofs.YtlkafakanoefmaaDoor
open Go.RowKit Go.Shelf
set_option linter.unusedVariables false
set_option maxRecDepth 100000

/-- The bytes l, then zeros up to the capacity. -/
def rowB (l : List UInt8) (cap : Nat) : List Value := ub l ++ List.replicate (cap - l.length) (.int .u8 0)

theorem ub_len (l : List UInt8) : (ub l).length = l.length := by simp [ub]
theorem ub_iz (l : List UInt8) : ub l = (iz l).map (Value.int .u8) := by unfold ub iz; rw [List.map_map]; rfl
theorem ub_app (a b : List UInt8) : ub (a ++ b) = ub a ++ ub b := List.map_append
theorem rowB_len {l : List UInt8} {cap : Nat} (h : l.length ≤ cap) : (rowB l cap).length = cap := by unfold rowB; rw [List.length_append, ub_len, List.length_replicate]; omega
theorem rowB_get {l : List UInt8} {cap j : Nat} (h : j < l.length) : (rowB l cap)[j]? = some (.int .u8 ((l.getD j 0).toNat : Nat)) := by
  unfold rowB
  rw [List.getElem?_append_left (by rw [ub_len]; exact h), ub, List.getElem?_map, List.getElem?_eq_getElem h, List.getD, List.getElem?_eq_getElem h]
  rfl

/-- v is nil, or such a row, in a block from B on. -/
def OwnB (w : World) (B : Nat) (v : Value) (l : List UInt8) : Prop :=
  (v = .slice none 0 0 ∧ l = []) ∨ ∃ g cap, ∃ fz : Nat × Nat, v = .slice (some ⟨g, 0, none⟩) l.length cap ∧ B ≤ g ∧ l.length ≤ cap ∧ cap ≤ maxLen ∧ (fz.2 = 0 ∨ cap ≤ fz.1) ∧ w.heap[g]? = some (.cells (rowB l cap).toArray 5 fz)

section
variable {w w' : World} {B B' : Nat} {v : Value} {l : List UInt8} {G : Nat → Prop}
theorem OwnB.nil (w : World) (B : Nat) : OwnB w B (.slice .none 0 0) [] := .inl ⟨rfl, rfl⟩
theorem OwnB.lt (h : OwnB w B v l) : ∀ k, v.ownBlock = some k → B ≤ k ∧ k < w.heap.size := by
  intro k hk
  rcases h with ⟨rfl, _⟩ | ⟨g, cap, fz, rfl, hB, _, _, _, hg⟩
  · simp [Value.ownBlock] at hk
  · simp [Value.ownBlock] at hk
    subst hk
    exact ⟨hB, (Array.getElem?_eq_some_iff.1 hg).1⟩
theorem OwnB.aside (h : OwnB w B v l) (ha : Aside G w w') (hG : ∀ b, v.ownBlock = some b → ¬ G b) : OwnB w' B v l := by
  have hlt := h.lt
  rcases h with h2 | ⟨g, cap, fz, hv, hg, h1, h2, h3, hh⟩
  · exact .inl h2
  · exact .inr ⟨g, cap, fz, hv, hg, h1, h2, h3, (ha.block g (by subst hv; exact (hlt g rfl).2) (hG g (by rw [hv]; rfl))).trans hh⟩
theorem OwnB.mono (h : OwnB w B v l) (hB : B' ≤ B) : OwnB w B' v l := by
  rcases h with h2 | ⟨g, cap, fz, hv, hg, r⟩
  · exact .inl h2
  · exact .inr ⟨g, cap, fz, hv, Nat.le_trans hB hg, r⟩
theorem OwnB.below (h : OwnB w B v l) (hb : Below w.heap.size w w') : OwnB w' B v l := h.aside (G := fun _ => False) (Aside.of_all hb) fun _ _ h => h
theorem OwnB.shape (h : OwnB w B v l) : ∃ a c, v = .slice a l.length c := by
  rcases h with ⟨rfl, rfl⟩ | ⟨g, cap, fz, rfl, _⟩
  · exact ⟨none, 0, rfl⟩
  · exact ⟨_, cap, rfl⟩
theorem OwnB.cells (h : OwnB w B v l) {g : Nat} (hg : v.ownBlock = some g) : ∀ j, j < l.length → w.cell? ⟨g, j, none⟩ = some (.int .u8 ((l.getD j 0).toNat : Nat)) := by
  intro j hj
  rcases h with ⟨rfl, _⟩ | ⟨g', cap, fz, rfl, _, _, _, _, hh⟩
  · simp [Value.ownBlock] at hg
  · simp [Value.ownBlock] at hg
    subst hg
    rw [World.cell?, hh]
    simpa using rowB_get (cap := cap) hj
theorem OwnB.some_ (h : OwnB w B v l) (h0 : 0 < l.length) : ∃ g c, v = .slice (some ⟨g, 0, none⟩) l.length c ∧ v.ownBlock = some g := by
  rcases h with ⟨rfl, rfl⟩ | ⟨g, cap, fz, rfl, _⟩
  · simp at h0
  · exact ⟨g, cap, rfl, rfl⟩
theorem OwnB.sl (h : OwnB w B v l) : Sl w B w.heap.size v (iz l) := by
  have hlt := h.lt
  have hc := fun g hg => h.cells (g := g) hg
  rcases h with ⟨rfl, rfl⟩ | ⟨g, cap, fz, rfl, hB, hl, _, _, hh⟩
  · exact ⟨none, 0, rfl, by simp [iz], fun _ => rfl, fun h => by simp [iz] at h⟩
  · refine ⟨some ⟨g, 0, none⟩, cap, by rw [iz_len], by rw [iz_len]; exact hl, fun h => by simp at h, fun _ => ⟨g, 0, rfl, hB, (hlt g rfl).2, fun j hj => ?_⟩⟩
    rw [iz_len] at hj
    rw [Nat.zero_add, hc g rfl j hj, iz_get l j hj, List.getD, List.getElem?_eq_getElem hj]
    rfl
theorem OwnB.of_own {g : Nat} (h : Own w g v (iz l)) (hl : l.length ≤ 1000000) : OwnB w g v l := by
  rcases h with ⟨h1, h2⟩ | ⟨h1, h2⟩
  · exact .inl ⟨h1, by have := congrArg List.length h2; rw [iz_len] at this; exact List.eq_nil_of_length_eq_zero this⟩
  · rw [iz_len] at h1
    refine .inr ⟨g, l.length, (0, 0), h1, Nat.le_refl _, Nat.le_refl _, by unfold maxLen; omega, .inl rfl, ?_⟩
    rw [h2, rowB, Nat.sub_self, List.replicate_zero, List.append_nil, ub_iz]
end

/-- A text as bytes. -/
theorem conv_B (w : World) (s : List UInt8) (hs : s.length ≤ 1000000) : ∃ cap W, (convert 9 22 (.string (bs s))).run Tryd.prog w = .ok (.slice (some ⟨w.heap.size, 0, none⟩) s.length cap) W ∧ OwnB W w.heap.size (.slice (some ⟨w.heap.size, 0, none⟩) s.length cap) s ∧ Below w.heap.size w W ∧ w.heap.size < W.heap.size := by
  have h := run_bytes_of_string (P := Tryd.prog) w 9 22 5 (bs s) Tryd.underlying9 Tryd.underlying22 Tryd.underlying5
  rw [bs_size] at h
  have hge := grownCap_ge w s.length 0 5
  have hlist : (bytesRow (bs s) (grownCap w s.length 0 5)) = (rowB s (grownCap w s.length 0 5)).toArray := by
    unfold bytesRow rowB ub
    rw [bs_size]
    simp [bs]
  have hsz : (rowB s (grownCap w s.length 0 5)).toArray.size = grownCap w s.length 0 5 := by simp only [List.size_toArray, rowB_len hge]
  rw [hlist, hsz] at h
  exact ⟨_, _, h, .inr ⟨w.heap.size, grownCap w s.length 0 5, (grownCap w s.length 0 5, grownCap w s.length 0 5 + 1), rfl, Nat.le_refl _, hge, grownCap_le_maxLen w s.length 0 5 (by unfold maxLen; omega), .inr (Nat.le_refl _), heap_alloc_new w.drew _⟩, (Below.refl _ w).drew.alloc (Nat.le_refl _) _, by simp⟩

/-- Cells written into a row that is marked behind its end. -/
theorem store_marked (P : Program) (g t : Nat) (fz : Nat × Nat) : ∀ (vs : List Value) (o i : Nat) (cur : Array Value) (w : World), w.heap[g]? = some (.cells cur t fz) → (fz.2 = 0 ∨ cur.size ≤ fz.1) → o + i + vs.length ≤ cur.size → (∀ x ∈ vs, x.oneCell' = true) →
    (storeCells ⟨g, o, none⟩ vs i).run P w = .ok () (w.setRow g (cur.toList.take (o + i) ++ vs ++ cur.toList.drop (o + i + vs.length)).toArray) := by
  intro vs
  induction vs with
  | nil =>
    intro o i cur w hg _ _ _
    have : cur.toList.take (o + i) ++ [] ++ cur.toList.drop (o + i + ([] : List Value).length) = cur.toList := by simp
    rw [this, Array.toArray_toList, setRow_self w g cur t fz hg]
    rfl
  | cons x r ih =>
    intro o i cur w hg hz hl h1
    rw [List.length_cons] at hl
    have hlt : o + i < cur.size := by omega
    have hx : w.cell? ⟨g, o + i, none⟩ = some cur[o + i] := by simp [World.cell?, hg, hlt]
    have hf : w.frozen? ⟨g, o + i, none⟩ = false := by
      have : ¬ (fz.1 ≤ o + i ∧ o + i < fz.2) := by omega
      simp only [World.frozen?, hg]
      simpa using this
    have hstep : (store ((⟨g, o, none⟩ : Addr).add i) x).run P w = .ok () (w.setRow g (cur.setIfInBounds (o + i) x)) := by
      rw [WideShapes.add_plain, run_store P w _ x _ (h1 x List.mem_cons_self), hx]
      simp [hf, setCell_eq_setRow w g (o + i) cur t fz x hg]
    have hrest := ih o (i + 1) (cur.setIfInBounds (o + i) x) _ (setRow_heap w g cur _ t fz hg) (by simpa using hz) (by simp; omega) (fun y hy => h1 y (List.mem_cons_of_mem _ hy))
    have hlist : (cur.setIfInBounds (o + i) x).toList.take (o + (i + 1)) ++ r ++ (cur.setIfInBounds (o + i) x).toList.drop (o + (i + 1) + r.length) = cur.toList.take (o + i) ++ (x :: r) ++ cur.toList.drop (o + i + (r.length + 1)) := by
      rw [Array.toList_setIfInBounds]
      have hl2 : o + i < cur.toList.length := by simpa using hlt
      rw [show o + (i + 1) = o + i + 1 by omega, List.take_set, List.drop_set_of_lt (by omega), List.take_add_one, List.getElem?_eq_getElem hl2]
      rw [List.set_append_right _ _ (by rw [List.length_take]; omega)]
      have hl3 : cur.toList.length = cur.size := Array.length_toList
      have e1 : o + i - (cur.toList.take (o + i)).length = 0 := by rw [List.length_take]; omega
      rw [e1, Option.toList_some, List.set_cons_zero, List.append_assoc, List.append_assoc, List.append_assoc, List.singleton_append]
      congr 4
      omega
    simp only [storeCells, Sem.run_bind, hstep, Result.andThen_ok, hrest, setRow_setRow, hlist, List.length_cons]

/-- append of bytes, as it runs. -/
theorem run_appB {w : World} (B : Nat) (v xv : Value) (l l' : List UInt8) {lo hi : Nat} (hown : OwnB w B v l) (hx : Sl w lo hi xv (iz l')) (h0 : 0 < l'.length) (hb : l.length + l'.length ≤ 1000000) (hB : B ≤ w.heap.size) :
    ∃ v' w', (Builtin.append_ #[22, 22] 22 #[v, xv]).run Tryd.prog w = .ok v' w' ∧ OwnB w' B v' (l ++ l') ∧ w.grownBy w' v.ownBlock ∧ (v'.ownBlock = v.ownBlock ∨ v'.ownBlock = some w.heap.size) := by
  obtain ⟨i0, hi, hz0, hz1, hz2⟩ := info_parts Tryd.info5
  obtain ⟨ad, c, rfl, hc, hn, hp⟩ := hx
  rw [iz_len] at hc hp
  rw [iz_len]
  obtain ⟨g', off, rfl, _, _, hcell⟩ := hp h0
  have hnews : ∀ j u, (ub l')[j]? = some u → w.cell? ((⟨g', off, none⟩ : Addr).add j) = some u := by
    intro j u hu
    have hj : j < l'.length := by have := (List.getElem?_eq_some_iff.mp hu).1; rwa [ub_len] at this
    rw [WideShapes.add_plain, hcell j hj, iz_get l' j hj]
    rw [ub, List.getElem?_map, List.getElem?_eq_getElem hj] at hu
    exact hu
  have hm : (ub l').length = l'.length := ub_len _
  have fin : ∀ (need cap : Nat), l.length + l'.length ≤ cap → cap ≤ maxLen → ∀ W, W.heap[w.heap.size]? = some (.cells (ub l ++ ub l' ++ List.replicate (cap - (l.length + l'.length)) (Value.int .u8 0)).toArray 5 (0, 0)) →
      OwnB W B (.slice (some ⟨w.heap.size, 0, none⟩) (l.length + l'.length) cap) (l ++ l') := fun need cap h1 h2 W hW => by
    refine .inr ⟨w.heap.size, cap, (0, 0), by rw [List.length_append], hB, by rw [List.length_append]; exact h1, h2, .inl rfl, ?_⟩
    rw [hW, rowB, ub_app, List.length_append]
  rcases hown with ⟨rfl, rfl⟩ | ⟨g, cap, fz, rfl, hbg, hlc, hcm, hfz, hg⟩
  · have hr := run_append_nil (P := Tryd.prog) w 22 22 5 i0 (.int .u8 0) Tryd.underlying22 hi hz0 ⟨g', off, none⟩ l'.length c (ub l') (by rw [hz1, hm]; omega) hnews (by omega) (by simp at hb; omega) (by rw [hz2]; simp at hb; omega)
    have hge := grownCap_ge w l'.length 0 5
    have h := fin 0 (grownCap w l'.length 0 5) (by simpa using hge) (grownCap_le_maxLen w l'.length 0 5 (by simp at hb; unfold maxLen; omega)) (w.drew.alloc (.cells (ub l' ++ List.replicate (grownCap w l'.length 0 5 - l'.length) (Value.int .u8 0)).toArray 5)) (by
      refine (heap_alloc_new w.drew _).trans ?_
      simp [ub])
    simp only [List.length_nil, Nat.zero_add] at h
    refine ⟨_, _, hr, ?_, ⟨rfl, rfl, rfl, by simp, fun k hk _ => Below.heap_alloc w.drew _ _ hk⟩, .inr rfl⟩
    rw [zeroCells_one _ rfl]
    simp only [List.append_toArray]
    exact h
  · by_cases hroom : l.length + l'.length ≤ cap
    · have hf := run_firstCells_some (P := Tryd.prog) w i0.size l'.length ⟨g', off, none⟩ l'.length c (ub l') (by rw [hz1, hm]; omega) hnews
      have hst := store_marked Tryd.prog g 5 fz (ub l') (l.length * i0.size) 0 _ w hg (by simpa [rowB_len hlc] using hfz) (by simp [rowB_len hlc, hz1, hm]; omega) (ub_one _)
      have hlist : (rowB l cap).toArray.toList.take (l.length * i0.size + 0) ++ ub l' ++ (rowB l cap).toArray.toList.drop (l.length * i0.size + 0 + (ub l').length) = rowB (l ++ l') cap := by
        rw [hz1, hm]
        unfold rowB
        simp only [Nat.mul_one, Nat.add_zero]
        rw [List.take_left' (ub_len l), ub_app, List.length_append, List.append_assoc, List.append_assoc, List.drop_append, List.drop_eq_nil_of_le (by rw [ub_len]; omega), List.nil_append, List.drop_replicate, ub_len]
        congr 3
        omega
      rw [hlist] at hst
      refine ⟨.slice (some ⟨g, 0, none⟩) (l.length + l'.length) cap, w.setRow g (rowB (l ++ l') cap).toArray, ?_, .inr ⟨g, cap, fz, by rw [List.length_append], hbg, by rw [List.length_append]; exact hroom, hcm, hfz, setRow_heap w g _ _ 5 fz hg⟩, ⟨rfl, rfl, rfl, by simp, fun k _ hk => setRow_other w g k _ (fun e => hk (by simp [Value.ownBlock, e]))⟩, .inl rfl⟩
      simp [Builtin.append_, run_underlying Tryd.underlying22, sizeOf, typeInfo, hi, Builtin.lenOf, hroom, hf, Addr.add_lit, hst]
    · have holds : ∀ j u, (ub l)[j]? = some u → w.cell? ((⟨g, 0, none⟩ : Addr).add j) = some u := fun j u hu => by
        have hj : j < l.length := by have := (List.getElem?_eq_some_iff.mp hu).1; rwa [ub_len] at this
        rw [WideShapes.add_plain, Nat.zero_add, World.cell?, hg]
        simp [rowB, List.getElem?_append_left (show j < (ub l).length by rw [ub_len]; exact hj), hu]
      have hr := run_append_grow (P := Tryd.prog) w 22 22 5 i0 (.int .u8 0) Tryd.underlying22 hi hz0 ⟨g, 0, none⟩ l.length cap (ub l) (by rw [hz1, ub_len]; omega) holds ⟨g', off, none⟩ l'.length c (ub l') (by rw [hz1, hm]; omega) hnews (by omega) (by omega) (growslice_fits (by omega) (by rw [hz2]; omega))
      have hge := grownCap_ge w (l.length + l'.length) cap 5
      have h := fin 0 (grownCap w (l.length + l'.length) cap 5) hge (grownCap_le_maxLen w (l.length + l'.length) cap 5 (by unfold maxLen; omega)) (w.drew.alloc (.cells (ub l ++ ub l' ++ List.replicate (grownCap w (l.length + l'.length) cap 5 - (l.length + l'.length)) (Value.int .u8 0)).toArray 5)) (heap_alloc_new w.drew _)
      refine ⟨_, _, hr, ?_, ⟨rfl, rfl, rfl, by simp, fun k hk _ => Below.heap_alloc w.drew _ _ hk⟩, .inr rfl⟩
      rw [zeroCells_one _ rfl]
      simp only [List.append_toArray]
      exact h

/-- Block g is c bytes, none of them frozen. -/
def Bytes (w : World) (g c : Nat) : Prop := ∃ (l : List Int) (fz : Nat × Nat), l.length = c ∧ (fz.2 = 0 ∨ c ≤ fz.1) ∧ w.heap[g]? = some (.cells (l.map (Value.int .u8)).toArray 5 fz)

theorem Bytes.cell {w : World} {g c k : Nat} (h : Bytes w g c) (hk : k < c) : ∃ x : Int, w.cell? ⟨g, k, none⟩ = some (.int .u8 x) := by
  obtain ⟨l, fz, hl, _, hg⟩ := h
  refine ⟨l.getD k 0, ?_⟩
  rw [World.cell?, hg]
  simp [hl, hk]

theorem Bytes.frozen {w : World} {g c k : Nat} (h : Bytes w g c) (hk : k < c) : w.frozen? ⟨g, k, none⟩ = false := by
  obtain ⟨l, fz, hl, hz, hg⟩ := h
  have : ¬ (fz.1 ≤ k ∧ k < fz.2) := by omega
  simp only [World.frozen?, hg]
  simpa using this

theorem Bytes.set {w : World} {g c k : Nat} (h : Bytes w g c) (x : Int) : Bytes (w.setCell ⟨g, k, none⟩ (.int .u8 x)) g c := by
  obtain ⟨l, fz, hl, hz, hg⟩ := h
  refine ⟨l.set k x, fz, by simpa using hl, hz, ?_⟩
  simp [World.setCell, Array.getElem?_modify, hg, List.map_set]

set_option maxHeartbeats 400000 in
theorem over_free (w : World) (g n c : Nat) (hn : n ≤ c) (hc : c ≤ 9223372036854775807) (h : Bytes w g c) : Calls Tryd.prog 13 #[.slice (some ⟨g, 0, none⟩) n c] w fun e w' => e = .returned (.tuple #[]) ∧ Only g w w' := by
  have H := Lib.hid h
  clear h
  go_enter Tryd.func13, Tryd.ntmps13
  go_wp2
  go_loopw [3] (fun i wr => ∃ k : Nat, k ≤ c ∧ i = .int .i64 k ∧ Hid (Bytes wr g c) ∧ Hid (Only g w wr)) (fun i _ => c - (intOf i).toNat)
  case atStart => exact ⟨0, Nat.zero_le _, rfl, H, Lib.hid (Only.refl g w)⟩
  case round =>
    obtain ⟨k, hk, rfl, HB, HO⟩ := hrel
    by_cases hlt : k < c
    · obtain ⟨x, hx⟩ := HB.out.cell hlt
      have hf := HB.out.frozen hlt
      go_wp2
      go_roundw
      case rel => exact ⟨k + 1, by omega, by go_num, Lib.hid (HB.out.set _), Lib.hid (HO.out.set _)⟩
      case measure => simp [intOf]; omega
    · go_wp2
      go_end0
      exact ⟨rfl, HO.out⟩

/-- Its row alone turns. -/
theorem over_B {w : World} {B : Nat} {v : Value} {l : List UInt8} (h : OwnB w B v l) : Calls Tryd.prog 13 #[v] w fun e w' => e = .returned (.tuple #[]) ∧ Aside (fun b => B ≤ b ∧ v.ownBlock = some b) w w' := by
  rcases h with ⟨rfl, rfl⟩ | ⟨g, cap, fz, rfl, hB, hl, hm, hz, hg⟩
  · exact (over_nil w).mono fun e w' ⟨he, hw⟩ => ⟨he, by subst hw; exact Aside.refl _ w⟩
  · have hlist : rowB l cap = (iz l ++ List.replicate (cap - l.length) 0).map (Value.int .u8) := by
      unfold rowB
      rw [List.map_append, ub_iz, List.map_replicate]
    refine (over_free w g l.length cap hl (by unfold maxLen at hm; omega) ⟨iz l ++ List.replicate (cap - l.length) 0, fz, by simp; omega, hz, by rw [hg, hlist]⟩).mono fun e w' ⟨he, hw⟩ => ⟨he, hw.1, hw.2.1, hw.2.2.1, by rw [hw.2.2.2.1]; exact Nat.le_refl _, fun k hk hk2 => hw.2.2.2.2 k fun e => hk2 ⟨by omega, by subst e; rfl⟩⟩
end Go.Proofs.YtlkafakanoefmaaDoor

/-
  A bytes.Buffer that has been read, too, wherever it lies: its parts, Len, tryGrowByReslice, Reset, Bytes, Next.
-/
namespace Go.Proofs.YtlkafakanoefmaaDoor
open Go.RowKit Go.Shelf
set_option linter.unusedVariables false
set_option maxRecDepth 100000
variable {cs : Nat → Option Value}

/-- The three cells of a buffer in block b, from the place q on; all other cells of the block are as cs tells. -/
def BfC (cs : Nat → Option Value) (w : World) (b q : Nat) (a : Option Addr) (n c off : Nat) (lr : Int) : Prop :=
  w.cell? ⟨b, q, none⟩ = some (.slice a n c) ∧ w.cell? ⟨b, q + 1, none⟩ = some (.int .i64 off) ∧ w.cell? ⟨b, q + 2, none⟩ = some (.int .i8 lr) ∧ ∀ j, w.frozen? ⟨b, j, none⟩ = false ∧ (j < q ∨ q + 2 < j → w.cell? ⟨b, j, none⟩ = cs j)

/-- Its row: none, or block g, of c bytes, another one than b. -/
def BfR (w : World) (b : Nat) (o : Option Nat) (a : Option Addr) (c : Nat) (zs : List Int) : Prop :=
  zs.length = c ∧ c ≤ maxLen ∧ ((o = none ∧ a = none ∧ c = 0) ∨ ∃ g, o = some g ∧ a = some ⟨g, 0, none⟩ ∧ g ≠ b ∧ w.heap[g]? = some (.cells (zs.map (Value.int .u8)).toArray 5 (0, 0)))

/-- It keeps the bytes l; at most t have been written. -/
def Bf (cs : Nat → Option Value) (w : World) (o : Option Nat) (b q t : Nat) (l : List UInt8) : Prop :=
  ∃ a n c off lr zs, BfC cs w b q a n c off lr ∧ BfR w b o a c zs ∧ off + l.length = n ∧ n ≤ c ∧ n ≤ t ∧ ∀ j, j < l.length → zs.getD (off + j) 0 = ((l.getD j 0).toNat : Int)

section
variable {w w' : World} {b q n c off : Nat} {a : Option Addr} {lr : Int} {o : Option Nat} {zs : List Int} {l : List UInt8} {G : Nat → Prop}
theorem BfC.lt (h : BfC cs w b q a n c off lr) : b < w.heap.size := World.block_lt_of_cell? w _ h.1
theorem BfC.aside (h : BfC cs w b q a n c off lr) (ha : Aside G w w') (h0 : ¬ G b) : BfC cs w' b q a n c off lr :=
  ⟨(ha.cell h.lt h0).trans h.1, (ha.cell h.lt h0).trans h.2.1, (ha.cell h.lt h0).trans h.2.2.1, fun j => ⟨(ha.frozen (p := ⟨b, j, none⟩) h.lt h0).trans (h.2.2.2 j).1, fun hj => (ha.cell (p := ⟨b, j, none⟩) h.lt h0).trans ((h.2.2.2 j).2 hj)⟩⟩
theorem BfR.aside (h : BfR w b o a c zs) (ha : Aside G w w') (h0 : ∀ g, o = some g → ¬ G g) : BfR w' b o a c zs := by
  obtain ⟨h1, h2, h3 | ⟨g, rfl, rfl, h4, h5⟩⟩ := h
  · exact ⟨h1, h2, .inl h3⟩
  · exact ⟨h1, h2, .inr ⟨g, rfl, rfl, h4, (ha.block g (Array.getElem?_eq_some_iff.mp h5).1 (h0 g rfl)).trans h5⟩⟩
theorem Bf.aside {t : Nat} (h : Bf cs w o b q t l) (ha : Aside G w w') (h0 : ¬ G b) (h1 : ∀ g, o = some g → ¬ G g) : Bf cs w' o b q t l := by
  obtain ⟨a, n, c, off, lr, zs, h2, h3, h4⟩ := h
  exact ⟨a, n, c, off, lr, zs, h2.aside ha h0, h3.aside ha h1, h4⟩
theorem BfC.setB (h : BfC cs w b q a n c off lr) (a' : Option Addr) (n' c' : Nat) : BfC cs (w.setCell ⟨b, q, none⟩ (.slice a' n' c')) b q a' n' c' off lr :=
  ⟨World.cell?_setCell_same _ _ _ h.1, (World.cell?_setCell_other _ _ _ _ (by simp)).trans h.2.1, (World.cell?_setCell_other _ _ _ _ (by simp)).trans h.2.2.1, fun j => ⟨by rw [World.frozen?_setCell]; exact (h.2.2.2 j).1, fun hj => (World.cell?_setCell_other _ _ _ _ (by intro e; have e2 := congrArg Addr.off e; simp only at e2; omega)).trans ((h.2.2.2 j).2 hj)⟩⟩
theorem BfC.setO (h : BfC cs w b q a n c off lr) (off' : Nat) : BfC cs (w.setCell ⟨b, q + 1, none⟩ (.int .i64 off')) b q a n c off' lr :=
  ⟨(World.cell?_setCell_other _ _ _ _ (by simp)).trans h.1, World.cell?_setCell_same _ _ _ h.2.1, (World.cell?_setCell_other _ _ _ _ (by simp)).trans h.2.2.1, fun j => ⟨by rw [World.frozen?_setCell]; exact (h.2.2.2 j).1, fun hj => (World.cell?_setCell_other _ _ _ _ (by intro e; have e2 := congrArg Addr.off e; simp only at e2; omega)).trans ((h.2.2.2 j).2 hj)⟩⟩
theorem BfC.setL (h : BfC cs w b q a n c off lr) (lr' : Int) : BfC cs (w.setCell ⟨b, q + 2, none⟩ (.int .i8 lr')) b q a n c off lr' :=
  ⟨(World.cell?_setCell_other _ _ _ _ (by simp)).trans h.1, (World.cell?_setCell_other _ _ _ _ (by simp)).trans h.2.1, World.cell?_setCell_same _ _ _ h.2.2.1, fun j => ⟨by rw [World.frozen?_setCell]; exact (h.2.2.2 j).1, fun hj => (World.cell?_setCell_other _ _ _ _ (by intro e; have e2 := congrArg Addr.off e; simp only at e2; omega)).trans ((h.2.2.2 j).2 hj)⟩⟩
theorem BfR.set (h : BfR w b o a c zs) (j : Nat) (u : Value) : BfR (w.setCell ⟨b, j, none⟩ u) b o a c zs := by
  obtain ⟨h1, h2, h3 | ⟨g, rfl, rfl, h4, h5⟩⟩ := h
  · exact ⟨h1, h2, .inl h3⟩
  · exact ⟨h1, h2, .inr ⟨g, rfl, rfl, h4, (Below.heap_setCell _ _ _ _ h4).trans h5⟩⟩
theorem cy_aside (w : World) (g a b : Nat) (x y : Value) : Aside (fun k => k = g) w ((w.setCell ⟨g, a, none⟩ x).setCell ⟨g, b, none⟩ y) :=
  (Aside.setCell (G := fun k => k = g) _ _ rfl).trans (Aside.setCell (G := fun k => k = g) _ _ rfl)
theorem BfC.drew (h : BfC cs w b q a n c off lr) : BfC cs w.drew b q a n c off lr := h
theorem BfR.drew (h : BfR w b o a c zs) : BfR w.drew b o a c zs := h
/-- All that its row has, as a slice. -/
theorem BfR.sl (h : BfR w b o a c zs) (hn : n ≤ c) : Sl w 0 w.heap.size (.slice a (zs.take n).length c) (zs.take n) := by
  obtain ⟨h1, h2, ⟨_, rfl, rfl⟩ | ⟨g, rfl, rfl, h4, h5⟩⟩ := h
  · have : n = 0 := by omega
    subst this
    exact ⟨none, 0, by simp, by simp, fun _ => rfl, fun h => by simp at h⟩
  · refine ⟨_, c, rfl, by rw [List.length_take]; omega, fun h => by simp at h, fun h0 => ⟨g, 0, rfl, Nat.zero_le _, (Array.getElem?_eq_some_iff.mp h5).1, fun j hj => ?_⟩⟩
    rw [List.length_take] at hj
    rw [Nat.zero_add, World.cell?, h5]
    have hjz : j < zs.length := by omega
    simp [hjz, List.getD, show j < n by omega]
end

set_option maxHeartbeats 1000000 in
theorem len_at {w : World} {b q n c off : Nat} {a : Option Addr} {lr : Int} (h : BfC cs w b q a n c off lr) (h1 : off ≤ n) (hn : n ≤ 9223372036854775807) :
    Calls Tryd.prog 33 #[.pointer (some ⟨b, q, none⟩)] w fun e w' => e = .returned (.int .i64 ((n - off : Nat) : Int)) ∧ w' = w.drew := by
  obtain ⟨c0, c1, c2, c3⟩ := h
  rw [show ((n - off : Nat) : Int) = (n : Int) - off by omega]
  go_enter Tryd.func33, Tryd.ntmps33
  go_wp2
  go_region
  go_wp2
  go_ret
  exact ⟨rfl, rfl⟩

set_option maxHeartbeats 1000000 in
theorem tryGrow_yes {w : World} {b q n c off k : Nat} {a : Option Addr} {lr : Int} (h : BfC cs w b q a n c off lr) (h1 : n + k ≤ c) (hc : c ≤ maxLen) :
    Calls Tryd.prog 43 #[.pointer (some ⟨b, q, none⟩), .int .i64 k] w fun e w' => e = .returned (.tuple #[.int .i64 n, .bool true]) ∧ w' = w.setCell ⟨b, q, none⟩ (.slice a (n + k) c) := by
  obtain ⟨c0, c1, c2, c3⟩ := h
  unfold maxLen at hc
  have t1 : (k : Int) ≤ (c : Int) - n := by omega
  have f0 := (c3 q).1
  go_enter Tryd.func43, Tryd.ntmps43
  go_wp2
  go_ret2
  exact ⟨rfl, rfl⟩

set_option maxHeartbeats 1000000 in
theorem tryGrow_no {w : World} {b q n c off k : Nat} {a : Option Addr} {lr : Int} (h : BfC cs w b q a n c off lr) (h0 : n ≤ c) (h1 : c < n + k) (hc : c ≤ maxLen) :
    Calls Tryd.prog 43 #[.pointer (some ⟨b, q, none⟩), .int .i64 k] w fun e w' => e = .returned (.tuple #[.int .i64 0, .bool false]) ∧ w' = w := by
  obtain ⟨c0, c1, c2, c3⟩ := h
  unfold maxLen at hc
  have t1 : ¬ (k : Int) ≤ (c : Int) - n := by omega
  go_enter Tryd.func43, Tryd.ntmps43
  go_wp2
  go_ret2
  exact ⟨rfl, rfl⟩

set_option maxHeartbeats 1000000 in
theorem reset_at {w : World} {b q n c off : Nat} {a : Option Addr} {lr : Int} (h : BfC cs w b q a n c off lr) :
    Calls Tryd.prog 45 #[.pointer (some ⟨b, q, none⟩)] w fun e w' => e = .returned (.tuple #[]) ∧ w' = ((w.setCell ⟨b, q, none⟩ (.slice a 0 c)).setCell ⟨b, q + 1, none⟩ (.int .i64 0)).setCell ⟨b, q + 2, none⟩ (.int .i8 0) := by
  obtain ⟨c0, c1, c2, c3⟩ := h
  go_enter Tryd.func45, Tryd.ntmps45
  go_wp2
  go_end0
  exact ⟨rfl, rfl⟩

/-- What is cut out of what a buffer keeps. -/
theorem Bf.cut {w : World} {b n c off : Nat} {a : Option Addr} {o : Option Nat} {zs : List Int} {l : List UInt8} (h : BfR w b o a c zs) (h1 : off + l.length = n) (h2 : n ≤ c) (h3 : ∀ j, j < l.length → zs.getD (off + j) 0 = ((l.getD j 0).toNat : Int)) (k : Nat) (hk : k ≤ l.length) :
    (∀ wx, (Instr.slice 22 (.slice a n c) (some (.int .i64 off)) (some (.int .i64 ((off : Int) + k))) none).run Tryd.prog wx = .ok (sliced a off (off + k) c 1) wx) ∧ ∀ w', BfR w' b o a c zs → Sl w' 0 w'.heap.size (sliced a off (off + k) c 1) (iz (l.take k)) := by
  have hz := h.1
  have hl : (zs.take n).length = n := by rw [List.length_take]; omega
  have e3 : cutL (zs.take n) off k = iz (l.take k) := by
    refine List.ext_getElem (by rw [cutL_len _ _ _ (by omega), iz_len, List.length_take]; omega) fun j g1 g2 => ?_
    have hj : j < k := by rw [cutL_len _ _ _ (by omega)] at g1; exact g1
    have e4 := cutL_get (zs.take n) off k j hj
    rw [List.getElem?_eq_getElem g1, List.getElem?_take, if_pos (by omega), List.getElem?_eq_getElem (by omega)] at e4
    injection e4 with e4
    have e5 := h3 j (by omega)
    rw [List.getD, List.getElem?_eq_getElem (by omega)] at e5
    rw [e4]
    have e6 : (iz (l.take k))[j] = ((l.getD j 0).toNat : Int) := by
      simp only [iz, List.getElem_map, List.getElem_take]
      rw [List.getD, List.getElem?_eq_getElem (show j < l.length by omega)]
      rfl
    rw [e6]
    exact e5
  have e0 : ∀ wx, (Instr.slice 22 (.slice a n c) (some (.int .i64 off)) (some (.int .i64 ((off : Int) + k))) none).run Tryd.prog wx = .ok (sliced a off (off + k) c 1) wx := fun wx => by
    rw [run_slice_lh (P := Tryd.prog) wx 22 a n c Tryd.underlying22 .i64 .i64 off ((off : Int) + k) (by omega) (by omega) (by omega), size5]
    simp only [Result.andThen, Int.toNat_natCast, show ((off : Int) + (k : Int)).toNat = off + k by omega]
  refine ⟨e0, fun w' h' => ?_⟩
  obtain ⟨sv, e1, e2⟩ := slice_cut (h'.sl h2) (p := off) (m := k) (by omega)
  rw [hl] at e1
  have e7 := (e0 w).symm.trans (e1 w)
  injection e7 with e7
  rw [e7, ← e3]
  exact e2

/-- What a buffer keeps, as one slice. -/
theorem from_eq {n c off : Nat} (a : Option Addr) (h1 : off ≤ n) (h2 : n ≤ c) (wx : World) : (Instr.slice 22 (.slice a n c) (some (.int .i64 off)) none none).run Tryd.prog wx = .ok (sliced a off n c 1) wx := by
  rw [run_slice_l (P := Tryd.prog) wx 22 a n c Tryd.underlying22 .i64 off (by omega) (by omega), size5]
  simp only [Result.andThen, Int.toNat_natCast]

set_option maxHeartbeats 2000000 in
theorem next_any {w : World} {b q t : Nat} {o : Option Nat} {l : List UInt8} (h : Bf cs w o b q t l) (k : Nat) (hk : k ≤ l.length) :
    Calls Tryd.prog 41 #[.pointer (some ⟨b, q, none⟩), .int .i64 k] w fun e w' => ∃ v, e = .returned v ∧ Sl w' 0 w'.heap.size v (iz (l.take k)) ∧ Bf cs w' o b q t (l.drop k) ∧ Aside (fun j => j = b) w w' := by
  obtain ⟨a, n, c, off, lr, zs, hC, hR, h1, h2, ht, h3⟩ := h
  have hm := hR.2.1
  unfold maxLen at hm
  obtain ⟨hsv, hsl⟩ := Bf.cut hR h1 h2 h3 k hk
  obtain ⟨sv, hsv0⟩ : ∃ sv, sliced a off (off + k) c 1 = sv := ⟨_, rfl⟩
  rw [hsv0] at hsl
  simp only [hsv0] at hsv
  obtain ⟨c0, c1, c2, c3⟩ := hC
  have HC := Lib.hid (show BfC cs w b q a n c off lr from ⟨c0, c1, c2, c3⟩)
  have HR := Lib.hid hR
  have HSL := Lib.hid hsl
  have H3 := Lib.hid h3
  have HL := Lib.hid (fun lr' => len_at (HC.out.setL lr') (by omega) (by omega))
  rw [show n - off = l.length by omega] at HL
  clear hR hsl h3 hsv0
  go_enter Tryd.func41, Tryd.ntmps41
  go_wp2_with fail
  refine (HL.out _).mono ?_; rintro e w1 ⟨rfl, rfl⟩
  have fin : ∀ {w' : World} {lr' : Int}, BfC cs w' b q a n c (off + k) lr' → Aside (fun j => j = b) w w' → Sl w' 0 w'.heap.size sv (iz (l.take k)) ∧ Bf cs w' o b q t (l.drop k) ∧ Aside (fun j => j = b) w w' := fun {w' lr'} g1 g2 => by
    have hR' : BfR w' b o a c zs := HR.out.aside g2 fun g hg e => by
      obtain ⟨_, _, ⟨h4, _⟩ | ⟨g', h4, _, h5, _⟩⟩ := HR.out
      · rw [h4] at hg; exact absurd hg (by simp)
      · rw [h4] at hg; injection hg with hg; omega
    refine ⟨HSL.out w' hR', ⟨a, n, c, off + k, lr', zs, g1, hR', by rw [List.length_drop]; omega, h2, ht, fun j hj => ?_⟩, g2⟩
    rw [List.length_drop] at hj
    rw [Nat.add_assoc, H3.out (k + j) (by omega), List.getD, List.getD, List.getElem?_drop]
  have ec : ((off + k : Nat) : Int) = (off : Int) + k := by push_cast; rfl
  by_cases hk0 : k = 0
  · have t1 : ¬ (0 : Int) < k := by omega
    have HF := Lib.hid (fin (w' := ((w.setCell ⟨b, q + 2, none⟩ (.int .i8 0)).setCell ⟨b, q + 1, none⟩ (.int .i64 ((off : Int) + k))).drew.drew) (lr' := 0) (by rw [← ec]; exact (HC.out.setL 0).setO (off + k)) ((cy_aside _ _ _ _ _ _).trans (Aside.of_all (((Below.refl _ _).drew).drew))))
    clear hk0 ec fin
    go_wp2_with fail
    go_region
    go_wp2_with fail
    go_ret
    exact ⟨sv, rfl, HF.out⟩
  · have t1 : (0 : Int) < k := by omega
    have HF := Lib.hid (fin (w' := (((w.setCell ⟨b, q + 2, none⟩ (.int .i8 0)).setCell ⟨b, q + 1, none⟩ (.int .i64 ((off : Int) + k))).setCell ⟨b, q + 2, none⟩ (.int .i8 (-1))).drew.drew) (lr' := -1) (by rw [← ec]; exact ((HC.out.setL 0).setO (off + k)).setL (-1)) (((cy_aside _ _ _ _ _ _).trans (Aside.setCell (G := fun j => j = b) _ _ rfl)).trans (Aside.of_all (((Below.refl _ _).drew).drew))))
    clear ec fin
    go_wp2_with fail
    go_region
    go_wp2_with fail
    go_ret
    exact ⟨sv, rfl, HF.out⟩

theorem len_any {w : World} {b q t : Nat} {o : Option Nat} {l : List UInt8} (h : Bf cs w o b q t l) :
    Calls Tryd.prog 33 #[.pointer (some ⟨b, q, none⟩)] w fun e w' => e = .returned (.int .i64 l.length) ∧ w' = w.drew := by
  obtain ⟨a, n, c, off, lr, zs, hC, hR, h1, h2, ht, h3⟩ := h
  have hm := hR.2.1
  unfold maxLen at hm
  have := len_at hC (by omega) (by omega)
  rw [show n - off = l.length by omega] at this
  exact this

set_option maxHeartbeats 1000000 in
theorem bytes_any {w : World} {b q t : Nat} {o : Option Nat} {l : List UInt8} (h : Bf cs w o b q t l) :
    Calls Tryd.prog 39 #[.pointer (some ⟨b, q, none⟩)] w fun e w' => ∃ v, e = .returned v ∧ Sl w' 0 w'.heap.size v (iz l) ∧ w' = w.drew := by
  obtain ⟨a, n, c, off, lr, zs, hC, hR, h1, h2, ht, h3⟩ := h
  have hm := hR.2.1
  unfold maxLen at hm
  obtain ⟨_, hsl⟩ := Bf.cut hR h1 h2 h3 l.length (Nat.le_refl _)
  have hfr := from_eq a (show off ≤ n by omega) h2
  rw [h1] at hsl
  obtain ⟨sv, hsv0⟩ : ∃ sv, sliced a off n c 1 = sv := ⟨_, rfl⟩
  rw [hsv0] at hsl
  simp only [hsv0] at hfr
  have HSL := Lib.hid (hsl w.drew hR)
  rw [List.take_length] at HSL
  obtain ⟨c0, c1, c2, c3⟩ := hC
  clear hsl hR h3 hsv0
  go_enter Tryd.func39, Tryd.ntmps39
  go_wp2_with fail
  go_region
  go_wp2_with fail
  go_ret
  exact ⟨sv, rfl, HSL.out, rfl⟩
end Go.Proofs.YtlkafakanoefmaaDoor
