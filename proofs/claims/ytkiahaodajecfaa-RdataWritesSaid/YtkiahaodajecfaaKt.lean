/-
  Rows beside each other: bytes, numbers, texts; appends to them.
-/
import Derived.Test.YtkiahaodajecfaaKp
import Derived.Test.YtkiahaodajecfaaTd
namespace Go.Proofs.Ytkiahaodajecfaa
open Go.RowKit Go.Shelf
set_option linter.unusedVariables false
set_option maxRecDepth 100000

/-- A row of numbers of the call's own. -/
def iv (l : List Nat) : List Value := l.map fun x : Nat => Value.int .i64 (x : Int)
def OwnI (w : World) (B : Nat) (v : Value) (l : List Nat) : Prop := OwnZ w B 3 (.int .i64 0) v (iv l)

theorem info_int : (Try.prog.info? 3).map (fun i => (i.zero, i.size, i.bytes)) = some (some (.int .i64 0), 1, 8) := by kernel_rfl
theorem iv_len (l : List Nat) : (iv l).length = l.length := by simp [iv]
theorem OwnI.nil (w : World) (B : Nat) : OwnI w B (.slice .none 0 0) [] := OwnZ.nil _ _ _ _
theorem OwnI.shape {w : World} {B : Nat} {v : Value} {l : List Nat} (h : OwnI w B v l) : ∃ a c, v = .slice a l.length c := by
  rcases h with ⟨rfl, h0⟩ | ⟨g, cap, rfl, _⟩
  · have : l = [] := by simpa [iv] using h0
    subst this
    exact ⟨.none, 0, rfl⟩
  · exact ⟨_, cap, by rw [iv_len]⟩
theorem OwnI.at_ {w : World} {B : Nat} {v : Value} {l : List Nat} (h : OwnI w B v l) (j : Nat) (hj : j < l.length) : ∃ g c, v = .slice (some ⟨g, 0, none⟩) l.length c ∧ w.cell? ⟨g, j, none⟩ = some (.int .i64 (l[j] : Nat)) := by
  rcases h with ⟨_, h0⟩ | ⟨g, cap, rfl, _, hl, _, hh⟩
  · have : l = [] := by simpa [iv] using h0
    subst this
    simp at hj
  · refine ⟨g, cap, by rw [iv_len], ?_⟩
    rw [World.cell?, hh]
    simp [iv, List.getElem?_append_left, hj]
theorem OwnT.at_ {w : World} {B : Nat} {v : Value} {l : List (List UInt8)} (h : OwnT w B v l) (j : Nat) (hj : j < l.length) : ∃ g c, v = .slice (some ⟨g, 0, none⟩) l.length c ∧ w.cell? ⟨g, j, none⟩ = some (.string (bs l[j])) := by
  rcases h with ⟨_, h0⟩ | ⟨g, cap, rfl, _, hl, _, hh⟩
  · have : l = [] := by simpa using h0
    subst this
    simp at hj
  · refine ⟨g, cap, by rw [List.length_map], ?_⟩
    rw [World.cell?, hh]
    simp [List.getElem?_append_left, hj, tv]
theorem OwnZ.but {w w' : World} {B : Nat} {e : TypeId} {z v : Value} {cs : List Value} {G : Nat → Prop} (h : OwnZ w B e z v cs) (ha : Aside G w w') (hG : ∀ b, v.ownBlock = some b → ¬ G b) : OwnZ w' B e z v cs := by
  have hlt := h.lt
  rcases h with h2 | ⟨g, cap, hv, hg, h1, h2, hh⟩
  · exact .inl h2
  · exact .inr ⟨g, cap, hv, hg, h1, h2, (ha.block g (by subst hv; exact (hlt g rfl).2) (hG g (by rw [hv]; rfl))).trans hh⟩

/-- Rows of different types lie in different blocks. -/
theorem apart_BZ {w : World} {B B' : Nat} {e : TypeId} {z v v' : Value} {l : List UInt8} {cs : List Value} (h : OwnB w B v l) (h' : OwnZ w B' e z v' cs) (he : e ≠ 5) (b : Nat) (h1 : v.ownBlock = some b) (h2 : v'.ownBlock = some b) : False := by
  rcases h with ⟨rfl, _⟩ | ⟨g, cap, fz, rfl, _, _, _, _, hg⟩
  · simp [Value.ownBlock] at h1
  · rcases h' with ⟨rfl, _⟩ | ⟨g', cap', rfl, _, _, _, hg'⟩
    · simp [Value.ownBlock] at h2
    · simp [Value.ownBlock] at h1 h2
      subst h1; subst h2
      rw [hg] at hg'
      injection hg' with hg'
      injection hg' with _ h3 _
      exact he h3.symm
theorem apart_ZZ {w : World} {B B' : Nat} {e e' : TypeId} {z z' v v' : Value} {cs cs' : List Value} (h : OwnZ w B e z v cs) (h' : OwnZ w B' e' z' v' cs') (he : e' ≠ e) (b : Nat) (h1 : v.ownBlock = some b) (h2 : v'.ownBlock = some b) : False := by
  rcases h with ⟨rfl, _⟩ | ⟨g, cap, rfl, _, _, _, hg⟩
  · simp [Value.ownBlock] at h1
  · rcases h' with ⟨rfl, _⟩ | ⟨g', cap', rfl, _, _, _, hg'⟩
    · simp [Value.ownBlock] at h2
    · simp [Value.ownBlock] at h1 h2
      subst h1; subst h2
      rw [hg] at hg'
      injection hg' with hg'
      injection hg' with _ h3 _
      exact he h3.symm

/-- What a row's append may turn. -/
theorem aside_grown {w w' : World} {v : Value} (h : w.grownBy w' v.ownBlock) : Aside (fun b => v.ownBlock = some b) w w' := Aside.grown h fun _ h => h

/-- append of no bytes. -/
theorem run_appB0 {w : World} (B : Nat) (v : Value) (l : List UInt8) (ad : Option Addr) (c : Nat) (hown : OwnB w B v l) :
    (Builtin.append_ #[42, 42] 42 #[v, .slice ad 0 c]).run Try.prog w = .ok v w := by
  obtain ⟨i0, hi, hz0, hz1, hz2⟩ := info_parts Try.info5
  rcases hown with ⟨rfl, rfl⟩ | ⟨g, cap, fz, rfl, hbg, hlc, hcm, hfz, hg⟩
  · cases ad <;> simp [Builtin.append_, run_underlying Try.underlying42, sizeOf, typeInfo, hi, Builtin.lenOf, Builtin.firstCells, loadCells, loadCellsFrom]
  · cases ad <;> simp [Builtin.append_, run_underlying Try.underlying42, sizeOf, typeInfo, hi, Builtin.lenOf, Builtin.firstCells, loadCells, loadCellsFrom, storeCells, hlc]

/-- append of any bytes. -/
theorem run_appBs {w : World} (B : Nat) (v xv : Value) (l l' : List UInt8) {lo hi : Nat} (hown : OwnB w B v l) (hx : Sl w lo hi xv (iz l')) (hb : l.length + l'.length ≤ 1000000) (hB : B ≤ w.heap.size) :
    ∃ a' c' w', (Builtin.append_ #[42, 42] 42 #[v, xv]).run Try.prog w = .ok (.slice a' (l.length + l'.length) c') w' ∧ OwnB w' B (.slice a' (l.length + l'.length) c') (l ++ l') ∧ Aside (fun b => v.ownBlock = some b) w w' := by
  rcases Nat.eq_zero_or_pos l'.length with h0 | h0
  · have : l' = [] := List.eq_nil_of_length_eq_zero h0
    subst this
    obtain ⟨ad, c, rfl, _⟩ := hx
    have h1 := run_appB0 B v l ad c hown
    obtain ⟨a', c', rfl⟩ := hown.shape
    exact ⟨a', c', w, h1, by rw [List.append_nil]; exact hown, Aside.refl _ _⟩
  · obtain ⟨v', w', h1, h2, h3, _⟩ := run_appB B v xv l l' hown hx h0 hb hB
    obtain ⟨a', c', hv⟩ := h2.shape
    rw [List.length_append] at hv
    subst hv
    exact ⟨a', c', w', h1, h2, aside_grown h3⟩

/-- append of a number, that lies in a block of its own. -/
theorem run_appI {w : World} (B : Nat) (v : Value) (l : List Nat) (x : Nat) (g : Nat) (hown : OwnI w B v l) (hx : w.cell? ⟨g, 0, none⟩ = some (.int .i64 (x : Int))) (hb : l.length + 1 ≤ 1000000) (hB : B ≤ w.heap.size) :
    ∃ a' c' w', (Builtin.append_ #[49, 49] 49 #[v, .slice (some ⟨g, 0, none⟩) 1 1]).run Try.prog w = .ok (.slice a' (l.length + 1) c') w' ∧ OwnI w' B (.slice a' (l.length + 1) c') (l ++ [x]) ∧ Aside (fun b => v.ownBlock = some b) w w' := by
  obtain ⟨i0, hi, hz0, hz1, hz2⟩ := info_parts info_int
  obtain ⟨v', w', h1, h2, h3⟩ := run_append_Z (P := Try.prog) (w := w) B 49 49 3 i0 (.int .i64 0) 8 Try.underlying49 hi hz0 hz1 hz2 rfl v (iv l) hown ⟨g, 0, none⟩ 1 1 [.int .i64 (x : Int)] rfl
    (fun j u hu => by
      have hj : j = 0 := by have := (List.getElem?_eq_some_iff.mp hu).1; simpa using this
      subst hj
      simp at hu
      subst hu
      simpa [Addr.add] using hx) (fun u hu => by rw [List.mem_singleton.mp hu]; rfl) (by rw [iv_len]; unfold maxLen; omega) (by rw [iv_len]; omega) hB
  have h4 : OwnI w' B v' (l ++ [x]) := by
    show OwnZ w' B 3 (.int .i64 0) v' (iv (l ++ [x]))
    rw [iv, List.map_append]
    exact h2
  obtain ⟨a', c', hv⟩ := h4.shape
  rw [List.length_append] at hv
  subst hv
  exact ⟨a', c', w', h1, h4, aside_grown h3⟩

/-- Up to a place. -/
theorem sl_to {w : World} {lo hi c m : Nat} {a : Option Addr} {b : List UInt8} (h : Sl w lo hi (.slice a b.length c) (iz b)) (hm : m ≤ b.length) :
    ∃ sv, (∀ wx, (Instr.slice 42 (.slice a b.length c) none (some (.int .i64 m)) none).run Try.prog wx = .ok sv wx) ∧ Sl w lo hi sv (iz (b.take m)) := by
  obtain ⟨a', c', he, hc, hn, hq⟩ := h
  rw [iz_len] at he hc hq
  injection he with e1 e2 e3
  subst e1; subst e3
  have hlen : (b.take m).length = m := by rw [List.length_take]; omega
  refine ⟨sliced a 0 m c 1, fun wx => ?_, ?_⟩
  · rw [run_slice_h (P := Try.prog) wx 42 a b.length c Try.underlying42 .i64 m (by omega) (by omega), size5]
    simp only [Result.andThen, Int.toNat_natCast]
  · refine ⟨if c = 0 then a else a.map (·.add (0 * 1)), c - 0, ?_, ?_, ?_, ?_⟩
    · unfold sliced; rw [iz_len, hlen]; simp
    · rw [iz_len, hlen]; omega
    · intro hnone
      have : a = none := by
        split at hnone
        · exact hnone
        · simpa using hnone
      have := hn this
      omega
    · intro h0
      rw [iz_len, hlen] at h0
      obtain ⟨g, off, rfl, h1, h2, hx⟩ := hq (by omega)
      rw [if_neg (by omega)]
      refine ⟨g, off, by simp [Addr.add], h1, h2, fun j hj => ?_⟩
      rw [iz_len, hlen] at hj
      rw [hx j (by omega)]
      congr 2
      rw [iz_get _ _ (by omega), iz_get _ _ (by omega), List.getElem_take]
end Go.Proofs.Ytkiahaodajecfaa
