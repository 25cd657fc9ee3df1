/-
  Parse.
-/
import Derived.Test.YtibaeklpgfadpaaUa
namespace Go.Proofs.Ytibaeklpgfadpaa
open Go.RowKit Go.Shelf
set_option linter.unusedVariables false
set_option linter.unusedSimpArgs false

/-- Parse's answer: the name's bytes, the fault's number and place. -/
def prs (t : List UInt8) : List UInt8 × Int × Nat :=
  if t = [] then ([], 4, 0) else if t = [46] then ([0], 0, 0) else
    match (labsR t t.length 0).2 with
    | some (e, a) => ([], e, a)
    | none => (jname (labsR t t.length 0).1, jcode (labsR t t.length 0).1, 0)

theorem labR_len {t : List UInt8} : ∀ (n p : Nat) (acc l : List UInt8) (q : Nat), labR t n p acc = .ok l q → p ≤ t.length → t.length - p ≤ n → acc.length + q ≥ l.length + p + 1 ∨ (q = t.length ∧ acc.length + q ≥ l.length + p) := by
  intro n
  induction n with
  | zero => intro p acc l q h hp hn; rw [labR] at h; injection h with h1 h2; subst h1; subst h2; right; omega
  | succ n ih =>
    intro p acc l q h hp hn
    rw [labR] at h
    split at h
    · rename_i hc
      have hge : t.length ≤ p := by simpa using hc
      injection h with h1 h2; subst h1; subst h2; right; omega
    · rename_i c hc
      have hlt : p < t.length := (List.getElem?_eq_some_iff.mp hc).1
      split at h
      · injection h with h1 h2; subst h1; subst h2; left; omega
      · split at h
        · rename_i d q' hl
          have := letR_lt hl
          have h2 := ih q' (acc ++ [d]) l q h this.2 (by omega)
          simp at h2
          omega
        · simp at h

theorem labelR_len {t : List UInt8} {p : Nat} {l : List UInt8} {q : Nat} (h : labelR t p = .ok l q) (hp : p < t.length) : l.length + p + 1 ≤ q ∨ (q = t.length ∧ l.length + p ≤ q) := by
  unfold labelR at h
  split at h
  · simp at h
  · split at h
    · rename_i l' q' hl
      split at h
      · simp at h
      · injection h with h1 h2
        subst h1; subst h2
        have := labR_len _ _ _ _ _ hl (by omega) (by omega)
        simp at this
        omega
    · simp at h

theorem labsR_wire (t : List UInt8) : ∀ n p, p ≤ t.length → (wire (labsR t n p).1).length ≤ t.length - p + 1 ∧ (t.length = p → (labsR t n p).1 = []) := by
  intro n
  induction n with
  | zero => intro p hp; simp [labsR, wire]
  | succ n ih =>
    intro p hp
    rw [labsR]
    split
    · simp [wire]
    · rename_i hlt
      split
      · simp [wire]
      · rename_i l q hl
        have h1 := labelR_lt hl (by omega)
        have h2 := labelR_len hl (by omega)
        obtain ⟨i1, i2⟩ := ih q h1.2.1
        refine ⟨?_, by omega⟩
        show (wire (l :: (labsR t n q).1)).length ≤ _
        simp only [wire, List.cons_append, List.length_cons, List.length_append]
        rcases h2 with h2 | ⟨h2, h3⟩
        · omega
        · rw [i2 h2.symm]
          simp [wire]
          omega

theorem labsR_short (t : List UInt8) : ∀ n p, p ≤ t.length → ∀ x ∈ (labsR t n p).1, 0 < x.length ∧ x.length ≤ 63 := by
  intro n
  induction n with
  | zero => intro p hp x hx; simp [labsR] at hx
  | succ n ih =>
    intro p hp x hx
    rw [labsR] at hx
    split at hx
    · simp at hx
    · split at hx
      · simp at hx
      · rename_i l q hl
        have h1 := labelR_lt hl (by omega)
        rcases List.mem_cons.mp hx with e | e
        · rw [e]; exact h1.2.2
        · exact ih q h1.2.1 x e

/-- What Parse tells. -/
def PrsPost (w : World) (n : List UInt8) (e : Int) (a : Nat) (en : Ending) (w' : World) : Prop := en = .returned (.tuple #[.string (bs n), .agg #[.int .i64 e, .int .i64 a]]) ∧ Below w.heap.size w w'

theorem prs_cells {w w1 : World} (h : Below (w.heap.size + 2) ((w.alloc (.cells #[.string ⟨#[]⟩] 9)).alloc (.cells #[.int .i64 0, .int .i64 0] 43)) w1) :
    w1.cell? ⟨w.heap.size, 0, none⟩ = some (.string ⟨#[]⟩) ∧ w1.cell? ⟨w.heap.size + 1, 0, none⟩ = some (.int .i64 0) ∧ w1.cell? ⟨w.heap.size + 1, 1, none⟩ = some (.int .i64 0) ∧ (∀ j, w1.frozen? ⟨w.heap.size, j, none⟩ = false) ∧ ∀ j, w1.frozen? ⟨w.heap.size + 1, j, none⟩ = false := by
  refine ⟨(h.cell (p := ⟨_, _, _⟩) (by simp)).trans ?_, (h.cell (p := ⟨_, _, _⟩) (by simp)).trans ?_, (h.cell (p := ⟨_, _, _⟩) (by simp)).trans ?_, fun j => (h.frozen (p := ⟨_, _, _⟩) (by simp)).trans ?_, fun j => (h.frozen (p := ⟨_, _, _⟩) (by simp)).trans ?_⟩
  all_goals simp [go_sem]

set_option maxHeartbeats 2000000 in
theorem parse_none (w : World) : Calls Try.prog 33 #[.string (bs [])] w (PrsPost w [] 4 0) := by
  have hmf : ∀ (fn : Fn) (first cap : Array Value) (w : World), (Instr.makeFunc fn first cap).run Try.prog w = .ok (.func fn first cap) w := fun _ _ _ _ => rfl
  have ht : (bs []).toList = [] := bs_toList []
  have HF := Lib.hid (fail_any 4 0)
  have hb0 : Below w.heap.size w ((w.alloc (.cells #[.string ⟨#[]⟩] 9)).alloc (.cells #[.int .i64 0, .int .i64 0] 43)) := ((Below.refl _ _).alloc (Nat.le_refl _) _).alloc (by simp) _
  have HB0 := Lib.hid hb0
  obtain ⟨k0, k1, k2, f0, f1⟩ := prs_cells (w := w) (Below.refl _ _)
  have HK := Lib.hid (And.intro k0 (And.intro k1 (And.intro k2 (And.intro f0 f1))))
  clear hb0 k0 k1 k2 f0 f1
  go_enter_defers Try.func33, Try.ntmps33
  go_wp2_with fail
  refine (HF.out _).mono ?_; rintro e w1 ⟨rfl, rfl⟩
  refine leaves_cons (f := 47) (args := #[.pointer (some ⟨w.heap.size, 0, none⟩), .pointer (some ⟨w.heap.size + 1, 0, none⟩)]) (by simp) (by simp [go_sem]) ?_
  obtain ⟨k0, k1, k2, f0, f1⟩ := HK.out
  refine (catch_fault w.heap.size (w.heap.size + 1) (by omega) 4 0 _ _ k0 k1 k2 f0 f1).mono ?_
  rintro e u' w2 ⟨rfl, rfl, ha, m0, m1, m2⟩
  simp [Leaves, settle, results, Try.results33, go_sem, m0, m1, m2]
  exact ⟨rfl, below_aside HB0.out ha fun b hb => ⟨by simp; omega, by omega⟩⟩

set_option maxHeartbeats 2000000 in
theorem parse_point (w : World) : Calls Try.prog 33 #[.string (bs [46])] w (PrsPost w [0] 0 0) := by
  have hmf : ∀ (fn : Fn) (first cap : Array Value) (w : World), (Instr.makeFunc fn first cap).run Try.prog w = .ok (.func fn first cap) w := fun _ _ _ _ => rfl
  have ht : (bs [46]).toList = [46] := bs_toList [46]
  have ht2 : (bs [46]).toList.isEmpty = false := by rw [ht]; rfl
  have HT := Lib.hid ht
  have ht3 : ((bs [46]).toList == [46]) = true := by rw [HT.out]; rfl
  clear ht
  have hb0 : Below w.heap.size w (((w.alloc (.cells #[.string ⟨#[0]⟩] 9)).alloc (.cells #[.int .i64 0, .int .i64 0] 43)).alloc (.cells #[.int .i64 0, .int .i64 0] 67)) := (((Below.refl _ _).alloc (Nat.le_refl _) _).alloc (by simp) _).alloc (by simp; omega) _
  have HB0 := Lib.hid hb0
  clear hb0
  go_enter_defers Try.func33, Try.ntmps33
  go_wp2_with fail
  refine leaves_cons (f := 47) (args := #[.pointer (some ⟨w.heap.size, 0, none⟩), .pointer (some ⟨w.heap.size + 1, 0, none⟩)]) (by simp) (by simp [go_sem]) ?_
  refine (catch_idle ⟨w.heap.size, 0, none⟩ ⟨w.heap.size + 1, 0, none⟩ _).mono ?_
  rintro e u' w2 ⟨rfl, rfl, rfl⟩
  simp [Leaves, settle, results, Try.results33, go_sem]
  exact ⟨rfl, HB0.out⟩
theorem along_jerr : ∀ l : List (List UInt8), (∀ x ∈ l, 0 < x.length ∧ x.length ≤ 63) → jerr l = 0 := by
  intro l
  induction l with
  | nil => intro _; rfl
  | cons x r ih =>
    intro h
    have h1 := h x (by simp)
    rw [jerr, if_neg (by intro e; rw [e] at h1; simp at h1), if_neg (by omega)]
    exact ih fun y hy => h y (by simp [hy])

theorem prs_bad {t : List UInt8} (h0 : t ≠ []) (h1 : t ≠ [46]) {e : Int} {a : Nat} (h : (labsR t t.length 0).2 = some (e, a)) : prs t = ([], e, a) := by
  unfold prs
  rw [if_neg h0, if_neg h1, h]

theorem prs_good {t : List UInt8} (h0 : t ≠ []) (h1 : t ≠ [46]) (h : (labsR t t.length 0).2 = none) : prs t = (jname (labsR t t.length 0).1, jcode (labsR t t.length 0).1, 0) := by
  unfold prs
  rw [if_neg h0, if_neg h1, h]

/-- How join ends within Parse. -/
def Joined (t : List UInt8) (w W : World) (en : Ending) (w' : World) : Prop :=
  Aside (fun b => b = w.heap.size + 1 + 1) W w' ∧ ((∃ e a, en = .panicked (ch e a) ∧ prs t = ([], e, a)) ∨ ∃ n e, en = .returned (.tuple #[.string (bs n), .int .i64 e]) ∧ prs t = (n, e, 0))

theorem joined (t : List UInt8) (h0 : t ≠ []) (h1 : t ≠ [46]) (hlen : t.length ≤ 800000) (w W : World) (hW : (((w.alloc (.cells #[.string ⟨#[]⟩] 9)).alloc (.cells #[.int .i64 0, .int .i64 0] 43)).alloc (.cells #[.string (bs t), .int .i64 0] 73)).alloc (.cells #[.pointer (some ⟨w.heap.size + 1 + 1, 0, none⟩)] 80) = W) :
    Calls Try.prog 38 #[.func (.func 59) #[] #[.pointer (some ⟨w.heap.size + 1 + 1 + 1, 0, none⟩)]] W (Joined t w W) := by
  have hsz : W.heap.size = w.heap.size + 1 + 1 + 1 + 1 := by rw [← hW]; simp
  have k0 : W.cell? ⟨w.heap.size + 1 + 1, 0, none⟩ = some (.string (bs t)) := by rw [← hW]; simp [go_sem]
  have k1 : W.cell? ⟨w.heap.size + 1 + 1, 1, none⟩ = some (.int .i64 0) := by rw [← hW]; simp [go_sem]
  have k2 : ∀ j, W.frozen? ⟨w.heap.size + 1 + 1, j, none⟩ = false := by intro j; rw [← hW]; simp [go_sem]
  have k3 : W.cell? ⟨w.heap.size + 1 + 1 + 1, 0, none⟩ = some (.pointer (some ⟨w.heap.size + 1 + 1, 0, none⟩)) := by rw [← hW]; simp [go_sem]
  have hwl := (labsR_wire t t.length 0 (by omega)).1
  refine (join_any (w := W) (enters_of Try.func59 (by kernel_rfl) rfl) (text_seq t (w.heap.size + 1 + 1 + 1) (w.heap.size + 1 + 1) (by omega) (by omega)) ?_ ?_ ?_ ?_ (by omega)).mono ?_
  · intro A hA
    exact ⟨(hA.cell (p := ⟨_, _, _⟩) (by simp; omega)).trans k3, (hA.cell (p := ⟨_, _, _⟩) (by simp; omega)).trans k0, (hA.cell (p := ⟨_, _, _⟩) (by simp; omega)).trans k1, fun j => (hA.frozen (p := ⟨_, _, _⟩) (by simp; omega)).trans (k2 j)⟩
  · rintro A B ⟨hA, hR⟩ hk hs
    exact ⟨(World.cell?_of_block (a := ⟨w.heap.size + 1 + 1 + 1, 0, none⟩) (hk _ (.inl rfl))).trans hA, hR.block (hk _ (.inr rfl))⟩
  · intro b hb
    rcases hb with rfl | rfl <;> omega
  · exact fun b hb => .inr hb
  · rintro en w' ⟨ha, hc⟩
    refine ⟨ha, ?_⟩
    rcases hc with ⟨hj, c, hfin, rfl⟩ | ⟨hj, rfl⟩
    · obtain ⟨⟨e, a⟩, hx, rfl⟩ := Option.map_eq_some_iff.mp hfin
      exact .inl ⟨e, a, rfl, prs_bad h0 h1 hx⟩
    · have hx := hj (along_jerr _ (labsR_short t _ _ (by omega)))
      exact .inr ⟨_, _, rfl, prs_good h0 h1 (Option.map_eq_none_iff.mp hx)⟩

set_option maxHeartbeats 2000000 in
theorem parse_rest (t : List UInt8) (h0 : t ≠ []) (h1 : t ≠ [46]) (hlen : t.length ≤ 800000) (w : World) : Calls Try.prog 33 #[.string (bs t)] w (PrsPost w (prs t).1 (prs t).2.1 (prs t).2.2) := by
  have hmf : ∀ (fn : Fn) (first cap : Array Value) (w : World), (Instr.makeFunc fn first cap).run Try.prog w = .ok (.func fn first cap) w := fun _ _ _ _ => rfl
  have ht2 : (bs t).toList.isEmpty = false := by rw [bs_toList]; cases t with | nil => exact absurd rfl h0 | cons a b => rfl
  have ht3 : ((bs t).toList == [46]) = false := by rw [bs_toList]; simpa using h1
  have HL := Lib.hid (fun (v : Value) (w : World) (hv : ∃ r, v = .pointer (some ⟨r, 0, none⟩)) => labels_text_any v w hv)
  have HJ := Lib.hid (joined t h0 h1 hlen w)
  obtain ⟨X, hX⟩ : ∃ X, prs t = X := ⟨_, rfl⟩
  have HX := Lib.hid hX
  rw [hX]
  clear hX h0 h1
  go_enter_defers Try.func33, Try.ntmps33
  go_wp2_with fail
  refine (HL.out _ _ ⟨_, rfl⟩).mono ?_; rintro e w1 ⟨rfl, rfl⟩
  go_wp2_with fail
  obtain ⟨W, hW⟩ : ∃ W, (((w.alloc (.cells #[.string ⟨#[]⟩] 9)).alloc (.cells #[.int .i64 0, .int .i64 0] 43)).alloc (.cells #[.string (bs t), .int .i64 0] 73)).alloc (.cells #[.pointer (some ⟨w.heap.size + 1 + 1, 0, none⟩)] 80) = W := ⟨_, rfl⟩
  have hsz : W.heap.size = w.heap.size + 1 + 1 + 1 + 1 := by rw [← hW]; simp
  have hb0 : Below w.heap.size w W := by rw [← hW]; exact ((((Below.refl _ w).alloc (Nat.le_refl _) _).alloc (by simp) _).alloc (by simp; omega) _).alloc (by simp; omega) _
  have k0 : W.cell? ⟨w.heap.size, 0, none⟩ = some (.string ⟨#[]⟩) := by rw [← hW]; simp [go_sem]
  have k1 : W.cell? ⟨w.heap.size + 1, 0, none⟩ = some (.int .i64 0) := by rw [← hW]; simp [go_sem]
  have k2 : W.cell? ⟨w.heap.size + 1, 1, none⟩ = some (.int .i64 0) := by rw [← hW]; simp [go_sem]
  have k3 : ∀ j, W.frozen? ⟨w.heap.size, j, none⟩ = false := by intro j; rw [← hW]; simp [go_sem]
  have k4 : ∀ j, W.frozen? ⟨w.heap.size + 1, j, none⟩ = false := by intro j; rw [← hW]; simp [go_sem]
  have HJW := Lib.hid (HJ.out W hW)
  rw [hW]
  clear hW HJ HL
  refine HJW.out.mono ?_
  rintro en w' ⟨ha, ⟨e, a, rfl, hp⟩ | ⟨n, e, rfl, hp⟩⟩
  · refine leaves_cons (f := 47) (args := #[.pointer (some ⟨w.heap.size, 0, none⟩), .pointer (some ⟨w.heap.size + 1, 0, none⟩)]) (by simp) (by simp [go_sem]) ?_
    refine (catch_fault w.heap.size (w.heap.size + 1) (by omega) e a _ _ (ha.cell_lt k0 (by simp; omega)) (ha.cell_lt k1 (by simp)) (ha.cell_lt k2 (by simp)) (fun j => (ha.frozen (p := ⟨_, _, _⟩) (by simp; omega) (by simp; omega)).trans (k3 j)) (fun j => (ha.frozen (p := ⟨_, _, _⟩) (by simp; omega) (by simp)).trans (k4 j))).mono ?_
    rintro en u' w2 ⟨rfl, rfl, hc, m0, m1, m2⟩
    rw [HX.out] at hp
    subst hp
    simp [Leaves, settle, results, Try.results33, go_sem, m0, m1, m2]
    exact ⟨rfl, below_aside (below_aside hb0 ha fun b hb => ⟨by omega, by omega⟩) hc fun b hb => ⟨by have := ha.size; omega, by omega⟩⟩
  · have q0 := ha.cell_lt k0 (by simp; omega)
    have q1 := ha.cell_lt k1 (by simp)
    have q2 := ha.cell_lt k2 (by simp)
    have q3 : ∀ j, w'.frozen? ⟨w.heap.size, j, none⟩ = false := fun j => (ha.frozen (p := ⟨_, _, _⟩) (by simp; omega) (by simp; omega)).trans (k3 j)
    have q4 : ∀ j, w'.frozen? ⟨w.heap.size + 1, j, none⟩ = false := fun j => (ha.frozen (p := ⟨_, _, _⟩) (by simp; omega) (by simp)).trans (k4 j)
    have hb1 : Below w.heap.size w w' := below_aside hb0 ha fun b hb => ⟨by omega, by omega⟩
    have HB1 := Lib.hid hb1
    rw [HX.out] at hp
    subst hp
    clear k0 k1 k2 k3 k4 hb0 hb1 ha hsz HJW
    have hfin : ∃ Wf, Wf = (((w'.setCell ⟨w.heap.size, 0, none⟩ (.string (bs n))).setCell ⟨w.heap.size, 0, none⟩ (.string (bs n))).setCell ⟨w.heap.size + 1, 0, none⟩ (.int .i64 e)).setCell ⟨w.heap.size + 1, 1, none⟩ (.int .i64 0) ∧
        Wf.cell? ⟨w.heap.size, 0, none⟩ = some (.string (bs n)) ∧ Wf.cell? ⟨w.heap.size + 1, 0, none⟩ = some (.int .i64 e) ∧ Wf.cell? ⟨w.heap.size + 1, 1, none⟩ = some (.int .i64 0) ∧ Below w.heap.size w Wf := by
      have x0 := World.cell?_setCell_same w' ⟨w.heap.size, 0, none⟩ (.string (bs n)) q0
      have x1 := World.cell?_setCell_same (w'.setCell ⟨w.heap.size, 0, none⟩ (.string (bs n))) ⟨w.heap.size, 0, none⟩ (.string (bs n)) x0
      have y0 : ((w'.setCell ⟨w.heap.size, 0, none⟩ (.string (bs n))).setCell ⟨w.heap.size, 0, none⟩ (.string (bs n))).cell? ⟨w.heap.size + 1, 0, none⟩ = some (.int .i64 0) := by
        rw [World.cell?_setCell_other _ _ _ _ (by simp), World.cell?_setCell_other _ _ _ _ (by simp)]; exact q1
      have y1 : ((w'.setCell ⟨w.heap.size, 0, none⟩ (.string (bs n))).setCell ⟨w.heap.size, 0, none⟩ (.string (bs n))).cell? ⟨w.heap.size + 1, 1, none⟩ = some (.int .i64 0) := by
        rw [World.cell?_setCell_other _ _ _ _ (by simp), World.cell?_setCell_other _ _ _ _ (by simp)]; exact q2
      obtain ⟨z0, z1⟩ := res_set (.int .i64 e) (.int .i64 0) y0 y1
      refine ⟨_, rfl, ?_, ?_, z1, ?_⟩
      · rw [World.cell?_setCell_other _ _ _ _ (by simp), World.cell?_setCell_other _ _ _ _ (by simp)]
        exact x1
      · rw [World.cell?_setCell_other _ _ _ _ (by simp)]
        exact z0
      · exact below_aside (G := fun b => w.heap.size ≤ b) HB1.out ((((Aside.setCell _ _ (by simp)).trans (Aside.setCell _ _ (by simp))).trans (Aside.setCell _ _ (by simp))).trans (Aside.setCell _ _ (by simp))) fun b hb => ⟨Nat.lt_of_lt_of_le hb HB1.out.size, by simp; omega⟩
    have HF := Lib.hid hfin
    clear hfin
    go_wp2_with fail
    obtain ⟨Wf, hWf, x0, x1, x2, hb⟩ := HF.out
    rw [← hWf]
    clear hWf HF q0 q1 q2 q3 q4
    refine leaves_cons (f := 47) (args := #[.pointer (some ⟨w.heap.size, 0, none⟩), .pointer (some ⟨w.heap.size + 1, 0, none⟩)]) (by simp) (by simp [go_sem]) ?_
    refine (catch_idle ⟨w.heap.size, 0, none⟩ ⟨w.heap.size + 1, 0, none⟩ _).mono ?_
    rintro en u' w2 ⟨rfl, rfl, rfl⟩
    have a0 := ((Below.refl _ Wf).alloc (Nat.le_refl _) (.cells #[.int .i64 0, .int .i64 0] 67)).cell (World.block_lt_of_cell? _ _ x0)
    have a1 := ((Below.refl _ Wf).alloc (Nat.le_refl _) (.cells #[.int .i64 0, .int .i64 0] 67)).cell (World.block_lt_of_cell? _ _ x1)
    have a2 := ((Below.refl _ Wf).alloc (Nat.le_refl _) (.cells #[.int .i64 0, .int .i64 0] 67)).cell (World.block_lt_of_cell? _ _ x2)
    rw [x0] at a0
    rw [x1] at a1
    rw [x2] at a2
    simp [Leaves, settle, results, Try.results33, go_sem, a0, a1, a2]
    exact ⟨rfl, hb.alloc hb.size _⟩

theorem parse_any (t : List UInt8) (hlen : t.length ≤ 800000) (w : World) : Calls Try.prog 33 #[.string (bs t)] w (PrsPost w (prs t).1 (prs t).2.1 (prs t).2.2) := by
  by_cases h0 : t = []
  · subst h0; exact parse_none w
  · by_cases h1 : t = [46]
    · subst h1; exact parse_point w
    · exact parse_rest t h0 h1 hlen w
end Go.Proofs.Ytibaeklpgfadpaa
