/-
  Pieces in memory: rows of them that the call made.
-/
import Derived.Test.YteegekpanadmkaaGreatV02
import Derived.Laws.Panics
import Derived.Deep.RegionLaw
import Derived.Deep.RegionHeld3
import Derived.Outline
import Derived.BigQuiet
import Derived.Maps.Own
import Derived.Maps.OwnSet
import Derived.Defers
import Derived.Recover
import Derived.RegionTactic
import Derived.BigRegion
namespace Go.Proofs.YteegekpanadmkaaGreat
open Go.RowKit Go.Shelf
set_option linter.unusedVariables false
set_option maxRecDepth 100000

def pcc : List Pc → List Value
  | [] => []
  | p :: r => .string (bs p.1) :: .bool p.2 :: pcc r

theorem pcc_len (K : List Pc) : (pcc K).length = K.length * 2 := by
  induction K with
  | nil => rfl
  | cons p r ih => simp [pcc, ih]; omega
theorem pcc_app (K K' : List Pc) : pcc (K ++ K') = pcc K ++ pcc K' := by
  induction K with
  | nil => rfl
  | cons p r ih => simp [pcc, ih]
theorem pcc_at : ∀ (K : List Pc) (j : Nat) (h : j < K.length), (pcc K)[j * 2]? = some (.string (bs K[j].1)) ∧ (pcc K)[j * 2 + 1]? = some (.bool K[j].2)
  | [], j, h => by simp at h
  | p :: r, 0, h => ⟨rfl, rfl⟩
  | p :: r, j + 1, h => by
    obtain ⟨h1, h2⟩ := pcc_at r j (by simpa using h)
    rw [show (j + 1) * 2 = j * 2 + 1 + 1 by omega, pcc]
    exact ⟨h1, h2⟩
theorem pcc_one (K : List Pc) : ∀ u ∈ pcc K, u.oneCell' = true := by
  induction K with
  | nil => intro u hu; simp [pcc] at hu
  | cons p r ih =>
    intro u hu
    rcases List.mem_cons.mp hu with rfl | hu
    · rfl
    · rcases List.mem_cons.mp hu with rfl | hu
      · rfl
      · exact ih u hu
def OwnP (w : World) (B : Nat) (v : Value) (K : List Pc) : Prop := w.ownsRow B 212 2 v K.length (pcc K)

section
variable {w w' : World} {B : Nat} {v : Value} {K : List Pc} {G : Nat → Prop}
theorem OwnP.nil (w : World) (B : Nat) : OwnP w B (.slice none 0 0) [] := World.ownsRow_nil _ _ _ _
theorem OwnP.lt (h : OwnP w B v K) : ∀ k, v.ownBlock = some k → B ≤ k ∧ k < w.heap.size := World.ownsRow.lt h
theorem OwnP.mono {B' : Nat} (h : OwnP w B v K) (hB : B' ≤ B) : OwnP w B' v K := by
  refine ⟨h.1, ?_⟩
  rcases h.2 with h2 | ⟨g, cap, cur, hv, hg, r⟩
  · exact .inl h2
  · exact .inr ⟨g, cap, cur, hv, Nat.le_trans hB hg, r⟩
theorem OwnP.aside (h : OwnP w B v K) (ha : Aside G w w') (hG : ∀ b, v.ownBlock = some b → ¬ G b) : OwnP w' B v K := by
  have hlt := h.lt
  refine ⟨h.1, ?_⟩
  rcases h.2 with h2 | ⟨g, cap, cur, hv, hg, hh, r⟩
  · exact .inl h2
  · exact .inr ⟨g, cap, cur, hv, hg, (ha.block g (by subst hv; exact (hlt g rfl).2) (hG g (by rw [hv]; rfl))).trans hh, r⟩
theorem OwnP.below (h : OwnP w B v K) (hb : Below w.heap.size w w') : OwnP w' B v K := h.aside (G := fun _ => False) (Aside.of_all hb) fun _ _ h => h
theorem OwnP.shape (h : OwnP w B v K) : ∃ a c, v = .slice a K.length c := by
  rcases h.2 with ⟨rfl, h0⟩ | ⟨g, cap, cur, rfl, _⟩
  · exact ⟨none, 0, by rw [h0]⟩
  · exact ⟨_, cap, rfl⟩
theorem OwnP.at_ (h : OwnP w B v K) (j : Nat) (hj : j < K.length) : ∃ g c, v = .slice (some ⟨g, 0, none⟩) K.length c ∧ w.cell? ⟨g, j * 2, none⟩ = some (.string (bs K[j].1)) ∧ w.cell? ⟨g, j * 2 + 1, none⟩ = some (.bool K[j].2) := by
  have hc := fun g hg => World.ownsRow.cells h (g := g) hg
  rcases h.2 with ⟨rfl, h0⟩ | ⟨g, cap, cur, rfl, _⟩
  · omega
  · obtain ⟨h1, h2⟩ := pcc_at K j hj
    have e1 := hc g rfl _ _ h1
    have e2 := hc g rfl _ _ h2
    rw [WideShapes.add_plain, Nat.zero_add] at e1 e2
    exact ⟨g, cap, rfl, e1, e2⟩
end

theorem info_pc : (Tryz.prog.info? 212).map (fun i => (i.zero, i.size, i.bytes)) = some (some (.agg #[.string ⟨#[]⟩, .bool false]), 2, 24) := by kernel_rfl

theorem run_appP {w : World} (B : Nat) (v : Value) (K : List Pc) (x : Pc) (g c : Nat) (hown : OwnP w B v K) (h0 : w.cell? ⟨g, 0, none⟩ = some (.string (bs x.1))) (h1 : w.cell? ⟨g, 1, none⟩ = some (.bool x.2)) (hb : K.length + 1 ≤ 1000000) (hB : B ≤ w.heap.size) :
    ∃ a' c' w', (Builtin.append_ #[206, 206] 206 #[v, .slice (some ⟨g, 0, none⟩) 1 c]).run Tryz.prog w = .ok (.slice a' (K.length + 1) c') w' ∧ OwnP w' B (.slice a' (K.length + 1) c') (K ++ [x]) ∧ Aside (fun b => v.ownBlock = some b) w w' := by
  obtain ⟨i0, hi, hz0, hz1, hz2⟩ := info_parts info_pc
  obtain ⟨v', w', r1, r2, r3, _⟩ := run_append_own (P := Tryz.prog) w B 206 206 212 i0 _ 2 24 Tryz.underlying206 hi hz0 hz1 hz2 rfl (by decide) v K.length (pcc K) hown ⟨g, 0, none⟩ 1 c (pcc [x]) (pcc_len [x])
    (fun j u hu => by
      rw [WideShapes.add_plain, Nat.zero_add]
      match j, hu with
      | 0, hu => simp [pcc] at hu; rw [h0, hu]
      | 1, hu => simp [pcc] at hu; rw [h1, hu]
      | j + 2, hu => simp [pcc] at hu) (pcc_one [x]) (by unfold maxLen; omega) (by omega) hB
  have h4 : OwnP w' B v' (K ++ [x]) := by
    unfold OwnP
    rw [List.length_append, pcc_app]
    exact r2
  obtain ⟨a', c', hv⟩ := h4.shape
  rw [List.length_append] at hv
  subst hv
  exact ⟨a', c', w', r1, h4, Aside.grown r3 fun _ h => h⟩
end Go.Proofs.YteegekpanadmkaaGreat

/-
  A reader of data in memory: fail, reach.
-/
namespace Go.Proofs.YteegekpanadmkaaGreat
open Go.RowKit Go.Shelf
set_option linter.unusedVariables false
set_option linter.unusedSimpArgs false
set_option maxRecDepth 100000

structure Rr (w : World) (B r : Nat) (vb vf : Value) (s p e : Nat) (acc : List Pc) : Prop where
  c0 : w.cell? ⟨r, 0, none⟩ = some vb
  c1 : w.cell? ⟨r, 1, none⟩ = some (.int .i64 s)
  c2 : w.cell? ⟨r, 2, none⟩ = some (.int .i64 p)
  c3 : w.cell? ⟨r, 3, none⟩ = some (.int .i64 e)
  c4 : w.cell? ⟨r, 4, none⟩ = some vf
  c5 : ∃ vp, w.cell? ⟨r, 5, none⟩ = some vp ∧ OwnP w B vp acc
  free : ∀ j, w.frozen? ⟨r, j, none⟩ = false
  lt : r < B
  size : B ≤ w.heap.size

def RG (B r : Nat) (b : Nat) : Prop := b = r ∨ B ≤ b

section
variable {w w' : World} {B r s p e : Nat} {vb vf : Value} {acc : List Pc}
theorem Rr.rlt (h : Rr w B r vb vf s p e acc) : r < w.heap.size := Nat.lt_of_lt_of_le h.lt h.size
theorem Rr.later (h : Rr w B r vb vf s p e acc) (hb : Below w.heap.size w w') : Rr w' B r vb vf s p e acc := by
  obtain ⟨vp, h5, h6⟩ := h.c5
  exact ⟨cell_later hb h.c0, cell_later hb h.c1, cell_later hb h.c2, cell_later hb h.c3, cell_later hb h.c4, ⟨vp, cell_later hb h5, h6.below hb⟩, fun j => (hb.frozen (p := ⟨r, j, none⟩) h.rlt).trans (h.free j), h.lt, Nat.le_trans h.size hb.size⟩
end

def mis (e : Int) (a : Nat) : List PanicEntry := [{ v := .iface 220 (.agg #[.int .i64 e, .int .i64 a]), recovered := false }]

set_option maxHeartbeats 400000 in
theorem rfail_any {w : World} {B r s p e : Nat} {vb vf : Value} {acc : List Pc} (h : Rr w B r vb vf s p e acc) : Calls Tryz.prog 178 #[.pointer (some ⟨r, 0, none⟩)] w fun en w' => en = .panicked (mis 4 s) ∧ w' = w := by
  have h1 := h.c1
  go_enter Tryz.func178, Tryz.ntmps178
  go_wp2
  exact ⟨rfl, rfl, rfl⟩

set_option maxHeartbeats 400000 in
theorem reach_no {w : World} {B r s p e : Nat} {vb vf : Value} {acc : List Pc} (h : Rr w B r vb vf s p e acc) (q : Nat) (hq : e < q) : Calls Tryz.prog 187 #[.pointer (some ⟨r, 0, none⟩), .int .i64 q] w fun en w' => en = .panicked (mis 4 s) ∧ w' = w := by
  have HF := Lib.hid (rfail_any h)
  have h3 := h.c3
  have t1 : decide ((e : Int) < q) = true := by simp; omega
  clear h
  go_enter Tryz.func187, Tryz.ntmps187
  go_wp2_with fail
  refine HF.out.mono ?_; rintro en w1 ⟨rfl, rfl⟩
  exact ⟨rfl, rfl, rfl⟩

set_option maxHeartbeats 400000 in
theorem reach_yes {w : World} {B r s p e : Nat} {vb vf : Value} {acc : List Pc} (h : Rr w B r vb vf s p e acc) (q : Nat) (hq : ¬ e < q) : Calls Tryz.prog 187 #[.pointer (some ⟨r, 0, none⟩), .int .i64 q] w fun en w' => en = .returned (.tuple #[]) ∧ w = w' := by
  have h3 := h.c3
  have t1 : decide ((e : Int) < q) = false := by simp; omega
  clear h
  go_enter Tryz.func187, Tryz.ntmps187
  go_wp2_with fail
  go_end0
  exact ⟨rfl, rfl⟩
end Go.Proofs.YteegekpanadmkaaGreat

/-
  A reader of data in memory: add.
-/
namespace Go.Proofs.YteegekpanadmkaaGreat
open Go.RowKit Go.Shelf
set_option linter.unusedVariables false
set_option linter.unusedSimpArgs false
set_option maxRecDepth 100000

theorem Rr.added {w W : World} {B r s p e : Nat} {vb vf : Value} {acc : List Pc} (h : Rr w B r vb vf s p e acc) (hW : Below w.heap.size w W) (x : Pc) (g : Nat) (h0 : W.cell? ⟨g, 0, none⟩ = some (.string (bs x.1))) (h1 : W.cell? ⟨g, 1, none⟩ = some (.bool x.2)) (hl : acc.length + 1 ≤ 1000000) (q : Nat) :
    ∃ vp a c W2, W.cell? ⟨r, 5, none⟩ = some vp ∧ (Builtin.append_ #[206, 206] 206 #[vp, .slice (some ⟨g, 0, none⟩) 1 1]).run Tryz.prog W = .ok (.slice a (acc.length + 1) c) W2 ∧
      W2.cell? ⟨r, 5, none⟩ = some vp ∧ (∀ j, W2.frozen? ⟨r, j, none⟩ = false) ∧ W2.cell? ⟨r, 2, none⟩ = some (.int .i64 p) ∧
      Rr ((W2.setCell ⟨r, 5, none⟩ (.slice a (acc.length + 1) c)).setCell ⟨r, 2, none⟩ (.int .i64 q)) B r vb vf s q e (acc ++ [x]) ∧ Aside (RG B r) w ((W2.setCell ⟨r, 5, none⟩ (.slice a (acc.length + 1) c)).setCell ⟨r, 2, none⟩ (.int .i64 q)) := by
  have hR := h.later hW
  obtain ⟨vp, h5, h6⟩ := hR.c5
  obtain ⟨a, c, W2, hr, ho, ha⟩ := run_appP (w := W) B vp acc x g 1 h6 h0 h1 hl hR.size
  have hlt := hR.lt
  have hrG : ¬ vp.ownBlock = some r := fun hv => by have := (h6.lt r hv).1; omega
  have g0 := ha.cell_lt hR.c0 hrG
  have g1 := ha.cell_lt hR.c1 hrG
  have g2 := ha.cell_lt hR.c2 hrG
  have g3 := ha.cell_lt hR.c3 hrG
  have g4 := ha.cell_lt hR.c4 hrG
  have g5 := ha.cell_lt h5 hrG
  have gf : ∀ j, W2.frozen? ⟨r, j, none⟩ = false := fun j => (ha.frozen (p := ⟨r, j, none⟩) hR.rlt hrG).trans (hR.free j)
  have s1 : Aside (fun b => b = r) W2 (W2.setCell ⟨r, 5, none⟩ (.slice a (acc.length + 1) c)) := Aside.setCell _ _ rfl
  have s2 : Aside (fun b => b = r) (W2.setCell ⟨r, 5, none⟩ (.slice a (acc.length + 1) c)) ((W2.setCell ⟨r, 5, none⟩ (.slice a (acc.length + 1) c)).setCell ⟨r, 2, none⟩ (.int .i64 q)) := Aside.setCell _ _ rfl
  have hs := s1.trans s2
  refine ⟨vp, a, c, W2, h5, hr, g5, gf, g2, ⟨?_, ?_, ?_, ?_, ?_, ⟨.slice a (acc.length + 1) c, ?_, ?_⟩, fun j => by rw [World.frozen?_setCell, World.frozen?_setCell]; exact gf j, hlt, Nat.le_trans hR.size (Nat.le_trans ha.size hs.size)⟩, ?_⟩
  · rw [World.cell?_setCell_other _ _ _ _ (by simp), World.cell?_setCell_other _ _ _ _ (by simp)]; exact g0
  · rw [World.cell?_setCell_other _ _ _ _ (by simp), World.cell?_setCell_other _ _ _ _ (by simp)]; exact g1
  · exact World.cell?_setCell_same _ _ _ (by rw [World.cell?_setCell_other _ _ _ _ (by simp)]; exact g2)
  · rw [World.cell?_setCell_other _ _ _ _ (by simp), World.cell?_setCell_other _ _ _ _ (by simp)]; exact g3
  · rw [World.cell?_setCell_other _ _ _ _ (by simp), World.cell?_setCell_other _ _ _ _ (by simp)]; exact g4
  · rw [World.cell?_setCell_other _ _ _ _ (by simp)]; exact World.cell?_setCell_same _ _ _ g5
  · exact ho.aside hs fun b hb e => by have := (ho.lt b hb).1; omega
  · have hA : Aside (RG B r) w W := Aside.of_all hW
    exact (hA.trans (ha.mono fun b _ hb => .inr (h6.lt b hb).1)).trans (hs.mono fun b _ hb => .inl hb)

def Gone (w : World) (B r : Nat) (vb vf : Value) (s e : Nat) (q : Nat) (acc : List Pc) (en : Ending) (w' : World) : Prop := en = .returned (.tuple #[]) ∧ Rr w' B r vb vf s q e acc ∧ Aside (RG B r) w w'
def Lost (w : World) (B r : Nat) (c : Int) (a : Nat) (en : Ending) (w' : World) : Prop := en = .panicked (mis c a) ∧ Aside (RG B r) w w'

theorem step_app_run {ops : Array Oper} {o : Oper} {a : Act} {w w' : World} {v v' xv : Value} {K : Act → World → Prop} {Q : Exit → Act → World → Prop} {E : Prop} (hgd : o.guard = none) (s x : Operand) (t u : TypeId)
    (ho : o.op = .call { callee := .builtin .append, args := #[s, x], argTypes := #[t, u] }) (hs : a.eval s = v) (hx : a.eval x = xv) (hrun : (Builtin.append_ #[t, u] o.type #[v, xv]).run Tryz.prog w = .ok v' w') (h : K (a.put o.dst v') w') :
    if Region.wanted o (yielded ops a.tmps) = true then Oper.wp Tryz.prog o a w K Q else E := by
  rw [if_pos (by simp [Region.wanted, hgd])]
  unfold Oper.wp
  simp [execOp, ho, resolve, invoke, builtin, hs, hx, hrun, Result.andThen]
  exact h

set_option maxHeartbeats 2000000 in
theorem add_any {w : World} {B r s p e : Nat} {vb vf : Value} {acc : List Pc} (h : Rr w B r vb vf s p e acc) (x : Pc) (q : Nat) (hl : acc.length + 1 ≤ 1000000) :
    Calls Tryz.prog 188 #[.pointer (some ⟨r, 0, none⟩), .agg #[.string (bs x.1), .bool x.2], .int .i64 q] w (Gone w B r vb vf s e q (acc ++ [x])) := by
  have HA := Lib.hid (fun W hW g h0 h1 => h.added (W := W) hW x g h0 h1 hl q)
  have hrl := h.rlt
  obtain ⟨vp, h5, _⟩ := h.c5
  obtain ⟨x1, x2⟩ := x
  obtain ⟨vp', a2, c2, W2, q5, hr, k5, kf, k2, hR, hA⟩ := HA.out (((w.alloc (.cells #[.string (bs x1), .bool x2] 212)).drew).alloc (.cells #[.string (bs x1), .bool x2] 212)) ((((Below.refl _ w).alloc (Nat.le_refl _) _).drew).alloc (by simp [World.drew]) _) (w.heap.size + 1) (by simp [go_sem]) (by simp [go_sem])
  have e : vp' = vp := by
    have := cell_later ((((Below.refl _ w).alloc (Nat.le_refl _) (.cells #[.string (bs x1), .bool x2] 212)).drew).alloc (by simp [World.drew]) (.cells #[.string (bs x1), .bool x2] 212)) h5
    rw [this] at q5
    injection q5 with q5
    exact q5.symm
  subst e
  have HRUN := Lib.hid hr
  have HFIN := Lib.hid (And.intro hR hA)
  have kf5 := kf 5
  have kf2 := kf 2
  have k2b : (W2.setCell ⟨r, 5, none⟩ (.slice a2 (acc.length + 1) c2)).cell? ⟨r, 2, none⟩ = some (.int .i64 p) := by rw [World.cell?_setCell_other _ _ _ _ (by simp)]; exact k2
  clear HA hr hR hA q5 h kf
  go_enter Tryz.func188, Tryz.ntmps188
  go_wp2_with fail
  go_region_law (refine step_app_run rfl (.tmp 10) (.tmp 12) 206 206 rfl rfl rfl HRUN.out ?_)
  all_goals
    try go_wp2_with fail
    go_end0
    exact ⟨rfl, HFIN.out⟩
end Go.Proofs.YteegekpanadmkaaGreat

/-
  A reader of data in memory: take, rest, fixed.
-/
namespace Go.Proofs.YteegekpanadmkaaGreat
open Go.RowKit Go.Shelf
set_option linter.unusedVariables false
set_option linter.unusedSimpArgs false
set_option maxRecDepth 100000

theorem conv_back {w : World} {lo hi : Nat} {v : Value} {b : List UInt8} (h : Sl w lo hi v (iz b)) : (convert 28 9 v).run Tryz.prog w = .ok (.string (bs b)) w := by
  obtain ⟨a, c, rfl, hc, hn, hp⟩ := h
  rw [iz_len] at hp ⊢
  by_cases h0 : 0 < b.length
  · obtain ⟨g, off, rfl, _, _, hx⟩ := hp h0
    exact run_convert_bytes_back (P := Tryz.prog) w 28 9 5 ⟨g, off, none⟩ c b Tryz.underlying28 Tryz.underlying5 Tryz.underlying9 (fun j hj => by
      rw [WideShapes.add_plain, hx j hj, iz_get b j hj])
  · have hl : b = [] := List.eq_nil_of_length_eq_zero (by omega)
    subst hl
    rcases a with _ | ad
    · rw [List.length_nil, run_convert_bytes_nil w 28 5 Tryz.underlying28 Tryz.underlying5 _ c 9 Tryz.underlying9]; rfl
    · rw [run_convert_bytes_string w 28 9 5 _ _ c Tryz.underlying28 Tryz.underlying5 Tryz.underlying9, run_bytesToString w ad _ c [] (by simpa using run_loadCells_list (P := Tryz.prog) w ad [] (by simp))]
      rfl

theorem cut_sl {w : World} {lo hi : Nat} {v : Value} {b : List UInt8} (h : Sl w lo hi v (iz b)) (p q : Nat) (hpq : p ≤ q) (hq : q ≤ b.length) :
    ∃ sv, (∀ wx, (Instr.slice 28 v (some (.int .i64 p)) (some (.int .i64 q)) none).run Tryz.prog wx = .ok sv wx) ∧ Sl w lo hi sv (iz ((b.drop p).take (q - p))) := by
  have hs := h
  obtain ⟨a, c, rfl, _⟩ := h
  obtain ⟨sv, h1, h2⟩ := slice_cut (p := p) (m := q - p) hs (by rw [iz_len]; omega)
  rw [iz_cut] at h2
  refine ⟨sv, fun wx => ?_, h2⟩
  have := h1 wx
  rwa [show ((p : Int) + ((q - p : Nat) : Int)) = (q : Int) by omega] at this

def StepPost (w : World) (B r : Nat) (vb vf : Value) (s e : Nat) (acc : List Pc) : PR → Ending → World → Prop
  | .ok x q => Gone w B r vb vf s e q (acc ++ [x])
  | .bad c a => Lost w B r c a

set_option maxHeartbeats 2000000 in
theorem take_any {w : World} {B r s p e : Nat} {vb vf : Value} {acc : List Pc} {b : List UInt8} {lo hi : Nat} (h : Rr w B r vb vf s p e acc) (hb : Sl w lo hi vb (iz b)) (he : e ≤ b.length) (q : Nat) (hpq : p ≤ q) (hl : acc.length + 1 ≤ 1000000) :
    Calls Tryz.prog 184 #[.pointer (some ⟨r, 0, none⟩), .int .i64 q] w (StepPost w B r vb vf s e acc (cutP b s e p q)) := by
  by_cases hq : e < q
  · have e1 : cutP b s e p q = .bad 4 s := by unfold cutP; rw [if_pos hq]
    rw [e1]
    have HR := Lib.hid (reach_no h q hq)
    go_enter Tryz.func184, Tryz.ntmps184
    go_wp2_with fail
    refine HR.out.mono ?_; rintro en w1 ⟨rfl, rfl⟩
    exact ⟨rfl, rfl, Aside.refl _ _⟩
  · have e1 : cutP b s e p q = .ok ((b.drop p).take (q - p), false) q := by unfold cutP; rw [if_neg hq]
    rw [e1]
    have HR := Lib.hid (reach_yes h q hq)
    obtain ⟨sv, hcut, hsl⟩ := cut_sl hb p q hpq (by omega)
    have hcv := conv_back (w := w.drew) (hsl.keep (w' := w.drew) fun _ _ _ _ => rfl)
    obtain ⟨x, hx⟩ : ∃ x, (b.drop p).take (q - p) = x := ⟨_, rfl⟩
    rw [hx] at hcv ⊢
    have HA := Lib.hid (show Calls Tryz.prog 188 #[.pointer (some ⟨r, 0, none⟩), .agg #[.string (bs x), .bool false], .int .i64 q] w.drew (Gone w.drew B r vb vf s e q (acc ++ [(x, false)])) from add_any (h.later (Below.refl _ w).drew) (x, false) q hl)
    have c0 := h.c0
    have c2 := h.c2
    clear hx hsl e1 hb h
    go_enter Tryz.func184, Tryz.ntmps184
    go_wp2_with fail
    refine HR.out.mono ?_; rintro en w1 ⟨rfl, rfl⟩
    go_wp2_with fail
    go_region_law (go_simp; go_at_call 188; refine HA.out.mono ?_; rintro en w2 ⟨rfl, hr2, ha2⟩; have HF := Lib.hid (And.intro hr2 ha2); clear hr2 ha2)
    all_goals
      try go_wp2_with fail
      go_end0
      exact ⟨rfl, HF.out.1, HF.out.2.of_drew⟩
end Go.Proofs.YteegekpanadmkaaGreat

/-
  A reader of data in memory: rest, fixed, name, texts.
-/
namespace Go.Proofs.YteegekpanadmkaaGreat
open Go.RowKit Go.Shelf
set_option linter.unusedVariables false
set_option linter.unusedSimpArgs false
set_option maxRecDepth 100000

set_option maxHeartbeats 1000000 in
theorem restR_any {w : World} {B r s p e : Nat} {vb vf : Value} {acc : List Pc} {b : List UInt8} {lo hi : Nat} {F : Nat → Got} (h : Rr w B r vb vf s p e acc) (hb : Sl w lo hi vb (iz b)) (he : e ≤ b.length) (hpe : p ≤ e) (hl : acc.length + 1 ≤ 1000000) :
    Calls Tryz.prog 177 #[.pointer (some ⟨r, 0, none⟩)] w (StepPost w B r vb vf s e acc (stepP F b s e p .rst)) := by
  have HT := Lib.hid (take_any h hb he e hpe hl)
  have c3 := h.c3
  simp only [stepP]
  unfold cutP at HT ⊢
  rw [if_neg (by omega)] at HT ⊢
  clear h hb
  go_enter Tryz.func177, Tryz.ntmps177
  go_wp2_with fail
  refine HT.out.mono ?_; rintro en w1 ⟨rfl, hr1, ha1⟩
  have HF := Lib.hid (And.intro hr1 ha1)
  clear hr1 ha1
  go_wp2_with fail
  go_end0
  exact ⟨rfl, HF.out⟩

set_option maxHeartbeats 1000000 in
theorem fixed_any (n : Int) (w : World) : Calls Tryz.prog 181 #[.int .i64 n] w fun e w' => e = .returned (.func (.func 186) #[] #[.pointer (some ⟨w.heap.size, 0, none⟩)]) ∧ w' = w.alloc (.cells #[.int .i64 n] 3) := by
  have hmf : ∀ (fn : Fn) (first cap : Array Value) (w : World), (Instr.makeFunc fn first cap).run Tryz.prog w = .ok (.func fn first cap) w := fun _ _ _ _ => rfl
  go_enter Tryz.func181, Tryz.ntmps181
  go_wp2
  go_ret
  exact ⟨rfl, rfl⟩

set_option maxHeartbeats 2000000 in
theorem fixedR_any {w : World} {B r s p e n g : Nat} {vb vf : Value} {acc : List Pc} {b : List UInt8} {lo hi : Nat} {F : Nat → Got} (h : Rr w B r vb vf s p e acc) (hb : Sl w lo hi vb (iz b)) (he : e ≤ b.length) (hpe : p ≤ e) (hn : n ≤ 1000000) (hbl : b.length ≤ 1000000) (hg : w.cell? ⟨g, 0, none⟩ = some (.int .i64 n)) (hl : acc.length + 1 ≤ 1000000) :
    Calls Tryz.prog 186 #[.pointer (some ⟨r, 0, none⟩), .pointer (some ⟨g, 0, none⟩)] w (StepPost w B r vb vf s e acc (stepP F b s e p (.fix n))) := by
  have HT0 := take_any (h.later (Below.refl _ w).drew) (hb.keep (w' := w.drew) fun _ _ _ _ => rfl) he (p + n) (by omega) hl
  have c2 := h.c2
  have es : stepP F b s e p (.fix n) = cutP b s e p (p + n) := rfl
  rw [es]
  have hw : IntKind.i64.wrap ((p : Int) + n) = ((p + n : Nat) : Int) := by rw [IntWalk.i64_in _ (by omega)]; push_cast; rfl
  obtain ⟨q, hpq⟩ : ∃ q, p + n = q := ⟨_, rfl⟩
  rw [hpq] at HT0 hw ⊢
  clear es hpq
  by_cases hq : e < q
  · have e1 : cutP b s e p q = .bad 4 s := by unfold cutP; rw [if_pos hq]
    rw [e1] at HT0 ⊢
    have HT := Lib.hid (show Calls Tryz.prog 184 #[.pointer (some ⟨r, 0, none⟩), .int .i64 q] w.drew (Lost w.drew B r 4 s) from HT0)
    clear h hb HT0 e1 hq
    go_enter Tryz.func186, Tryz.ntmps186
    go_wp2_with fail
    refine wp_region_any (by kernel_rfl) ?_
    change wpAny _ _ _ _ _ _ _ (World.drew _)
    refine wpAny_take (i := 0) (v := ?_) rfl (by kernel_rfl) (by kernel_rfl) (by kernel_rfl) (fun _ _ _ h => h) (Or.inl ⟨by rfl, ?_⟩) ?_
    rotate_left 1
    · intro w; go_simp; try (with_reducible rfl)
    refine wpAny_take (i := 1) (v := ?_) rfl (by kernel_rfl) (by kernel_rfl) (by kernel_rfl) (fun _ _ _ h => h) (Or.inl ⟨by rfl, ?_⟩) ?_
    rotate_left 1
    · intro w; go_simp; try (with_reducible rfl)
    refine wpAny_take (i := 2) (v := ?_) rfl (by kernel_rfl) (by kernel_rfl) (by kernel_rfl) (fun _ _ _ h => h) (Or.inl ⟨by rfl, ?_⟩) ?_
    rotate_left 1
    · intro w; go_simp; try (with_reducible rfl)
    refine wpAny_take (i := 3) (v := ?_) rfl (by kernel_rfl) (by kernel_rfl) (by kernel_rfl) (fun _ _ _ h => h) (Or.inl ⟨by rfl, ?_⟩) ?_
    rotate_left 1
    · intro w; go_simp; try (with_reducible rfl)
    refine wpAny_ready (rs := [4, 5]) (by kernel_rfl) (by simp) ?_
    refine AllReady.cons rfl (fun K hK => ?_) (AllReady.cons rfl (fun K hK => ?_) AllReady.nil)
    · go_simp
      refine hK _ _ ?_
      clear hK K
      refine wpAny_ready (rs := [5]) (by kernel_rfl) (by simp) ?_
      refine AllReady.cons rfl (fun K hK => ?_) AllReady.nil
      go_simp
      refine hK _ _ ?_
      clear hK K
      refine wpAny_take (i := 6) (v := ?_) rfl (by kernel_rfl) (by kernel_rfl) (by kernel_rfl) (fun _ _ _ h => h) (Or.inl ⟨by rfl, ?_⟩) ?_
      rotate_left 1
      · intro w; go_simp; try (with_reducible rfl)
      refine wpAny_ready (rs := [7]) (by kernel_rfl) (by simp) ?_
      refine AllReady.cons rfl (fun K hK => ?_) AllReady.nil
      go_simp
      refine HT.out.mono ?_
      rintro en w2 ⟨rfl, ha2⟩
      exact ⟨rfl, rfl, ha2.of_drew⟩
    · go_simp
      refine hK _ _ ?_
      clear hK K
      refine wpAny_ready (rs := [4]) (by kernel_rfl) (by simp) ?_
      refine AllReady.cons rfl (fun K hK => ?_) AllReady.nil
      go_simp
      refine hK _ _ ?_
      clear hK K
      refine wpAny_take (i := 6) (v := ?_) rfl (by kernel_rfl) (by kernel_rfl) (by kernel_rfl) (fun _ _ _ h => h) (Or.inl ⟨by rfl, ?_⟩) ?_
      rotate_left 1
      · intro w; go_simp; try (with_reducible rfl)
      refine wpAny_ready (rs := [7]) (by kernel_rfl) (by simp) ?_
      refine AllReady.cons rfl (fun K hK => ?_) AllReady.nil
      go_simp
      refine HT.out.mono ?_
      rintro en w2 ⟨rfl, ha2⟩
      exact ⟨rfl, rfl, ha2.of_drew⟩
  · obtain ⟨x, hx⟩ : ∃ x, cutP b s e p q = .ok x q := ⟨_, by unfold cutP; rw [if_neg hq]⟩
    rw [hx] at HT0 ⊢
    have HT := Lib.hid (show Calls Tryz.prog 184 #[.pointer (some ⟨r, 0, none⟩), .int .i64 q] w.drew (Gone w.drew B r vb vf s e q (acc ++ [x])) from HT0)
    clear h hb HT0 hx hq
    go_enter Tryz.func186, Tryz.ntmps186
    go_wp2_with fail
    go_region_law (go_simp; go_at_call 184; refine HT.out.mono ?_; rintro en w2 ⟨rfl, hr2, ha2⟩; have HF := Lib.hid (And.intro hr2 ha2); clear hr2 ha2)
    all_goals
      try go_wp2_with fail
      go_end0
      exact ⟨rfl, HF.out.1, HF.out.2.of_drew⟩
end Go.Proofs.YteegekpanadmkaaGreat

/-
  A reader of data in memory: name.
-/
namespace Go.Proofs.YteegekpanadmkaaGreat
open Go.RowKit Go.Shelf
set_option linter.unusedVariables false
set_option linter.unusedSimpArgs false
set_option maxRecDepth 100000

def FindOk (w : World) (B r f : Nat) (vb : Value) (F : Nat → Got) : Prop := ∀ wx, Aside (RG B r) w wx → ∀ p : Nat, Calls Tryz.prog f #[vb, .int .i64 p] wx (Tells wx (gotV (F p)))

theorem FindOk.later {w w' : World} {B r f : Nat} {vb : Value} {F : Nat → Got} (h : FindOk w B r f vb F) (ha : Aside (RG B r) w w') : FindOk w' B r f vb F := fun wx hx p => h wx (ha.trans hx) p

theorem aft_alloc {w w2 : World} (hb : Below (w.drew.alloc (.cells #[.int .i64 0, .int .i64 0] 42)).heap.size (w.drew.alloc (.cells #[.int .i64 0, .int .i64 0] 42)) w2) :
    w2.cell? ⟨w.heap.size, 0, none⟩ = some (.int .i64 0) ∧ w2.cell? ⟨w.heap.size, 1, none⟩ = some (.int .i64 0) ∧ w2.frozen? ⟨w.heap.size, 0, none⟩ = false ∧ w2.frozen? ⟨w.heap.size, 1, none⟩ = false := by
  have hlt : w.heap.size < (w.drew.alloc (.cells #[.int .i64 0, .int .i64 0] 42)).heap.size := by rw [World.size_alloc]; exact Nat.lt_succ_self _
  refine ⟨(hb.cell (p := ⟨w.heap.size, 0, none⟩) hlt).trans (by simp [go_sem]), (hb.cell (p := ⟨w.heap.size, 1, none⟩) hlt).trans (by simp [go_sem]), (hb.frozen (p := ⟨w.heap.size, 0, none⟩) hlt).trans (by simp [go_sem]), (hb.frozen (p := ⟨w.heap.size, 1, none⟩) hlt).trans (by simp [go_sem])⟩

theorem bel_set2 {w w2 : World} {g : Nat} (hb : Below w.heap.size w w2) (hg : w.heap.size ≤ g) (x y : Value) : Below w.heap.size w ((w2.setCell ⟨g, 0, none⟩ x).setCell ⟨g, 1, none⟩ y) :=
  (hb.setCell (p := ⟨g, 0, none⟩) hg x).setCell (p := ⟨g, 1, none⟩) hg y

set_option maxHeartbeats 4000000 in
theorem nameR_plain {w : World} {B r s p e : Nat} {vb : Value} {acc : List Pc} {b : List UInt8} {F : Nat → Got} (h : Rr w B r vb (.func (.func 171) #[] #[]) s p e acc) (hF : FindOk w B r 171 vb F) (hp : p ≤ 1000000) (hl : acc.length + 1 ≤ 1000000) :
    Calls Tryz.prog 182 #[.pointer (some ⟨r, 0, none⟩)] w (StepPost w B r vb (.func (.func 171) #[] #[]) s e acc (stepP F b s e p .nam)) := by
  have c2 := h.c2
  have hw : IntKind.i64.wrap ((p : Int) + 1) = ((p + 1 : Nat) : Int) := by rw [IntWalk.i64_in _ (by omega)]; push_cast; rfl
  have hP := Lib.hid (show stepP F b s e p .nam = if e < p + 1 then .bad 4 s else if (F p).2.2.1 ≠ 0 then .bad (F p).2.2.1 (F p).2.2.2 else if e < (F p).2.1 then .bad 4 s else .ok ((F p).1, true) (F p).2.1 from rfl)
  by_cases hq : e < p + 1
  · have e1 := hP.out
    rw [if_pos hq] at e1
    rw [e1]
    have HR := Lib.hid (reach_no h (p + 1) hq)
    push_cast at HR
    clear h hq e1 hP hw
    go_enter Tryz.func182, Tryz.ntmps182
    go_wp2_with fail
    refine HR.out.mono ?_; rintro en w1 ⟨rfl, rfl⟩
    exact ⟨rfl, rfl, Aside.refl _ _⟩
  · have HR := Lib.hid (reach_yes h (p + 1) hq)
    have HF := Lib.hid (fun wx (hb : Below w.heap.size w wx) => hF wx (Aside.of_all hb) p)
    have HH := Lib.hid h
    have e1 := hP.out
    rw [if_neg hq] at e1
    rw [e1]
    push_cast at HR
    obtain ⟨N, hN⟩ : ∃ N, (F p).1 = N := ⟨_, rfl⟩
    obtain ⟨E, hE⟩ : ∃ E, (F p).2.1 = E := ⟨_, rfl⟩
    obtain ⟨C, hC⟩ : ∃ C, (F p).2.2.1 = C := ⟨_, rfl⟩
    obtain ⟨A, hA⟩ : ∃ A, (F p).2.2.2 = A := ⟨_, rfl⟩
    unfold gotV at HF
    rw [hN, hE, hC, hA] at HF
    rw [hN, hE, hC, hA]
    have c0 := h.c0
    have c4 := h.c4
    obtain ⟨X, hX⟩ : ∃ X, (if C ≠ 0 then PR.bad C A else if e < E then PR.bad 4 s else PR.ok (N, true) E) = X := ⟨_, rfl⟩
    rw [hX]
    have HX := Lib.hid hX
    clear h hq e1 hP hw hF hN hE hC hA hX
    go_enter Tryz.func182, Tryz.ntmps182
    go_wp2_with fail
    refine HR.out.mono ?_; rintro en w1 ⟨rfl, rfl⟩
    go_wp2_with fail
    have HK := Lib.hid (fun wx (hb : Below w.heap.size w wx) => show wx.cell? ⟨r, 0, none⟩ = some vb ∧ wx.cell? ⟨r, 2, none⟩ = some (.int .i64 p) ∧ wx.cell? ⟨r, 4, none⟩ = some (.func (.func 171) #[] #[]) from ⟨cell_later hb c0, cell_later hb c2, cell_later hb c4⟩)
    have hrl := HH.out.rlt
    go_region_held3 (fun wx => wx.cell? ⟨r, 0, none⟩ = some vb ∧ wx.cell? ⟨r, 2, none⟩ = some (.int .i64 p) ∧ wx.cell? ⟨r, 4, none⟩ = some (.func (.func 171) #[] #[])) (first | exact HK.out _ (Below.refl _ w).drew | exact HK.out _ (((Below.refl _ w).drew).alloc (Nat.le_refl _) _) | exact HK.out _ HBW.out | exact HK.out _ (bel_alloc HBW.out _) | exact HK.out _ (bel_set2 HBW.out (Nat.le_refl _) _ _) | exact HK.out _ (bel_set2 (bel_alloc HBW.out _) HBW.out.size _ _)) (first | (go_at_call 171; refine (HF.out _ (by first | exact (Below.refl _ w).drew | exact ((Below.refl _ w).drew).alloc (Nat.le_refl _) _)).mono ?_; rintro en w2 ⟨rfl, hb2⟩; have HBW : Hid (Below w.heap.size w w2) := (by first | exact bel_call (Below.refl _ w).drew hb2 | exact bel_call (((Below.refl _ w).drew).alloc (Nat.le_refl _) _) hb2); try (obtain ⟨k0, k1, kf0, kf1⟩ := aft_alloc hb2); clear hb2))
    · have HB3 : Hid (Below w.heap.size w (w2.alloc (.cells #[.int .i64 C, .int .i64 A] 42))) := bel_alloc HBW.out _
      have HR3 := Lib.hid (HH.out.later HB3.out)
      by_cases hC : C = 0
      · subst hC
        by_cases hEe : e < E
        · obtain rfl : X = .bad 4 s := by rw [← HX.out, if_neg (by simp), if_pos hEe]
          have HRn := Lib.hid (reach_no HR3.out E hEe)
          clear HX HF HK c0 c2 c4
          go_wp2_with fail
          refine HRn.out.mono ?_; rintro en w4 ⟨rfl, rfl⟩
          exact ⟨rfl, rfl, Aside.of_all HB3.out⟩
        · obtain rfl : X = .ok (N, true) E := by rw [← HX.out, if_neg (by simp), if_neg hEe]
          have HRy := Lib.hid (reach_yes HR3.out E hEe)
          have HAd := Lib.hid (show Calls Tryz.prog 188 #[.pointer (some ⟨r, 0, none⟩), .agg #[.string (bs N), .bool true], .int .i64 E] _ _ from add_any HR3.out (N, true) E hl)
          clear HX HF HK c0 c2 c4
          go_wp2_with fail
          refine HRy.out.mono ?_; rintro en w4 ⟨rfl, rfl⟩
          go_wp2_with fail
          refine HAd.out.mono ?_; rintro en w4 ⟨rfl, hr4, ha4⟩
          have HFin := Lib.hid (And.intro hr4 ((Aside.of_all HB3.out).trans ha4))
          clear hr4 ha4
          go_wp2_with fail
          go_end0
          exact ⟨rfl, HFin.out⟩
      · obtain rfl : X = .bad C A := by rw [← HX.out, if_pos hC]
        have tC : (C != 0) = true := by simpa using hC
        clear HX HF HK c0 c2 c4
        go_wp2_with fail
        exact ⟨rfl, rfl, Aside.of_all HB3.out⟩
    · have HB3 : Hid (Below w.heap.size w ((w2.setCell ⟨w.heap.size, 0, none⟩ (.int .i64 C)).setCell ⟨w.heap.size, 1, none⟩ (.int .i64 A))) := bel_set2 HBW.out (Nat.le_refl _) _ _
      have HR3 := Lib.hid (HH.out.later HB3.out)
      by_cases hC : C = 0
      · subst hC
        by_cases hEe : e < E
        · obtain rfl : X = .bad 4 s := by rw [← HX.out, if_neg (by simp), if_pos hEe]
          have HRn := Lib.hid (reach_no HR3.out E hEe)
          clear HX HF HK c0 c2 c4
          go_wp2_with fail
          refine HRn.out.mono ?_; rintro en w4 ⟨rfl, rfl⟩
          exact ⟨rfl, rfl, Aside.of_all HB3.out⟩
        · obtain rfl : X = .ok (N, true) E := by rw [← HX.out, if_neg (by simp), if_neg hEe]
          have HRy := Lib.hid (reach_yes HR3.out E hEe)
          have HAd := Lib.hid (show Calls Tryz.prog 188 #[.pointer (some ⟨r, 0, none⟩), .agg #[.string (bs N), .bool true], .int .i64 E] _ _ from add_any HR3.out (N, true) E hl)
          clear HX HF HK c0 c2 c4
          go_wp2_with fail
          refine HRy.out.mono ?_; rintro en w4 ⟨rfl, rfl⟩
          go_wp2_with fail
          refine HAd.out.mono ?_; rintro en w4 ⟨rfl, hr4, ha4⟩
          have HFin := Lib.hid (And.intro hr4 ((Aside.of_all HB3.out).trans ha4))
          clear hr4 ha4
          go_wp2_with fail
          go_end0
          exact ⟨rfl, HFin.out⟩
      · obtain rfl : X = .bad C A := by rw [← HX.out, if_pos hC]
        have tC : (C != 0) = true := by simpa using hC
        clear HX HF HK c0 c2 c4
        go_wp2_with fail
        exact ⟨rfl, rfl, Aside.of_all HB3.out⟩
end Go.Proofs.YteegekpanadmkaaGreat

/-
  A reader of data in memory: texts.
-/
namespace Go.Proofs.YteegekpanadmkaaGreat
open Go.RowKit Go.Shelf
set_option linter.unusedVariables false
set_option linter.unusedSimpArgs false
set_option maxRecDepth 100000

theorem txE_stop {b : List UInt8} {e n q : Nat} (h : e < q + 1) : txE b e n q = none := by
  cases n with
  | zero => rfl
  | succ n => rw [txE, if_pos h]

def txR (b : List UInt8) (s e p : Nat) : Option Nat → PR
  | none => .bad 4 s
  | some q => cutP b s e p q
theorem txR_step (F : Nat → Got) (b : List UInt8) (s e p : Nat) : stepP F b s e p .txt = txR b s e p (txE b e (e + 1) p) := by
  simp only [stepP]
  cases txE b e (e + 1) p <;> rfl

set_option maxHeartbeats 4000000 in
theorem textsR_any {w : World} {B r s p e : Nat} {vb vf : Value} {acc : List Pc} {b : List UInt8} {lo hi : Nat} {F : Nat → Got} (h : Rr w B r vb vf s p e acc) (hb : Sl w lo hi vb (iz b)) (he : e ≤ b.length) (hpe : p ≤ e) (hbl : b.length ≤ 1000000) (hl : acc.length + 1 ≤ 1000000) :
    Calls Tryz.prog 183 #[.pointer (some ⟨r, 0, none⟩)] w (StepPost w B r vb vf s e acc (stepP F b s e p .txt)) := by
  have HTk := Lib.hid (fun q hpq => take_any h hb he q hpq hl)
  have HRn := Lib.hid (fun q hq => reach_no h q hq)
  have HRy := Lib.hid (fun q hq => reach_yes h q hq)
  have c0 := h.c0
  have c2 := h.c2
  have c3 := h.c3
  have HS := Lib.hid hb
  obtain ⟨Y, hY⟩ : ∃ Y, txE b e (e + 1) p = Y := ⟨_, rfl⟩
  obtain ⟨X, hX⟩ : ∃ X, stepP F b s e p .txt = X := ⟨_, rfl⟩
  have HX := Lib.hid (show X = txR b s e p Y by rw [← hX, ← hY]; exact txR_step F b s e p)
  have HY := Lib.hid hY
  rw [hX]
  obtain ⟨av, cv, rfl, _⟩ := hb
  rw [iz_len] at c0 HTk ⊢
  simp only [iz_len] at HS
  clear hX hY h
  go_enter Tryz.func183, Tryz.ntmps183
  go_wp2_with fail
  go_loopg [2, 3] (e + 1 - p + 1) (fun g v2 v3 wr => ∃ (q : Nat) (m : Bool), v2 = .int .i64 q ∧ v3 = .bool m ∧ p ≤ q ∧ w = wr ∧ ((m = true ∧ q ≤ e ∧ g = e + 1 - q + 1 ∧ ∃ n, e < q + n ∧ Hid (txE b e n q = Y)) ∨ (m = false ∧ g = 0 ∧ Hid (Y = some q))))
  case atStart => exact ⟨p, true, rfl, rfl, Nat.le_refl _, rfl, .inl ⟨rfl, hpe, by omega, e + 1, by omega, HY⟩⟩
  case round =>
    obtain ⟨q, m, rfl, rfl, hpq, rfl, ⟨rfl, hqe, hg, n, hn, HT⟩ | ⟨rfl, hg, HT⟩⟩ := hrel
    · have hw1 : IntKind.i64.wrap ((q : Int) + 1) = ((q + 1 : Nat) : Int) := by rw [IntWalk.i64_in _ (by omega)]; push_cast; rfl
      by_cases hlt : e < q + 1
      · have hYn : Y = none := by rw [← HT.out]; exact txE_stop hlt
        subst hYn
        have hXn : X = .bad 4 s := HX.out
        subst hXn
        have HR := Lib.hid (HRn.out (q + 1) hlt)
        push_cast at HR
        go_wp2_with fail
        refine HR.out.mono ?_; rintro en w1 ⟨rfl, rfl⟩
        exact ⟨rfl, rfl, Aside.refl _ _⟩
      · have HR := Lib.hid (HRy.out (q + 1) hlt)
        push_cast at HR
        obtain ⟨g0, off, c', he0, hg0, hcell⟩ := HS.out.spot q (by rw [iz_len]; omega)
        rw [iz_len] at he0
        injection he0 with he1 he2 he3
        subst he1
        subst he3
        clear he2
        rw [iz_get b q (by omega)] at hcell
        have hgd : b.getD q 0 = b[q] := by rw [List.getD, List.getElem?_eq_getElem (by omega)]; rfl
        obtain ⟨k, rfl⟩ : ∃ k, n = k + 1 := ⟨n - 1, by omega⟩
        have hst := HT.out
        rw [txE, if_neg (by omega), hgd] at hst
        have hc8 : b[q].toNat < 256 := b[q].toNat_lt
        obtain ⟨z, hz⟩ : ∃ z, b[q].toNat = z := ⟨_, rfl⟩
        rw [hz] at hst hcell hc8
        simp only at hst
        have hqb : q < b.length := by omega
        clear hz hgd HT
        by_cases hmore : q + (1 + z) < e
        · rw [if_pos hmore] at hst
          have HST := Lib.hid hst
          have t1 : decide ((q : Int) + (1 + z) < e) = true := by simp; omega
          clear hst
          go_wp2_with fail
          refine HR.out.mono ?_; rintro en w1 ⟨rfl, rfl⟩
          go_wp2_with fail
          go_roundg (e + 1 - (q + (1 + z)) + 1)
          case measure => omega
          case rel => exact ⟨q + (1 + z), true, by go_num, rfl, by omega, rfl, .inl ⟨rfl, by omega, rfl, k, by omega, HST⟩⟩
        · rw [if_neg hmore] at hst
          have HST := Lib.hid hst.symm
          have t1 : decide ((q : Int) + (1 + z) < e) = false := by simp; omega
          clear hst
          go_wp2_with fail
          refine HR.out.mono ?_; rintro en w1 ⟨rfl, rfl⟩
          go_wp2_with fail
          go_roundg 0
          case measure => omega
          case rel => exact ⟨q + (1 + z), false, by go_num, rfl, by omega, rfl, .inr ⟨rfl, rfl, HST⟩⟩
    · have HC := Lib.hid (HTk.out q hpq)
      have hXq : X = cutP b s e p q := by have := HX.out; rw [HT.out] at this; exact this
      rw [← hXq] at HC
      clear hXq
      rcases X with ⟨x, qq⟩ | ⟨cc, aa⟩
      · have HCC := Lib.hid (show Calls Tryz.prog 184 #[.pointer (some ⟨r, 0, none⟩), .int .i64 q] w (Gone w B r (.slice av b.length cv) vf s e qq (acc ++ [x])) from HC.out)
        go_wp2_with fail
        refine HCC.out.mono ?_; rintro en w2 ⟨rfl, hr2, ha2⟩
        have HF := Lib.hid (And.intro hr2 ha2)
        clear hr2 ha2
        go_wp2_with fail
        go_end0
        exact ⟨rfl, HF.out⟩
      · have HCC := Lib.hid (show Calls Tryz.prog 184 #[.pointer (some ⟨r, 0, none⟩), .int .i64 q] w (Lost w B r cc aa) from HC.out)
        go_wp2_with fail
        refine HCC.out.mono ?_; rintro en w2 ⟨rfl, ha2⟩
        exact ⟨rfl, rfl, ha2⟩
end Go.Proofs.YteegekpanadmkaaGreat

/-
  The map of parts, in memory; parts.
-/
namespace Go.Proofs.YteegekpanadmkaaGreat
open Go.RowKit Go.Shelf
set_option linter.unusedVariables false
set_option linter.unusedSimpArgs false
set_option maxRecDepth 100000

theorem keyedI_ : Maps.Keyed Tryz.prog 3 := Maps.int_keyed Tryz.underlying3

def heldR (v : Value) : Option (DataW Value × List MemPlace) := some (.held v, [])

def vof (rows : List (Int × Value)) (t : Int) : Option Value := (rows.find? (fun p => p.1 == t)).map (·.2)
theorem vof_snoc (rows : List (Int × Value)) (k : Int) (v : Value) (t : Int) : vof (rows ++ [(k, v)]) t = (vof rows t).or (if k = t then some v else none) := by
  unfold vof
  rw [List.find?_append]
  obtain ⟨y, hy⟩ : ∃ y, rows.find? (fun p => p.1 == t) = y := ⟨_, rfl⟩
  rw [hy]
  cases y with
  | none => by_cases h : k = t <;> simp [h]
  | some x => rfl

def RepM (D : DataW Value) (rows : List (Int × Value)) : Prop :=
  Maps.IsMap D ∧ ∀ t : Int, Maps.has D (.int .i64 t) = (vof rows t).isSome ∧ (∀ v, vof rows t = some v → ∀ z, D.atKey (.int .i64 t) z = .held v)

def Pm (w : World) (bm : Nat) (rows : List (Int × Value)) : Prop := ∃ D : DataW Value, w.ownsMap Tryz.prog 3 heldR bm rows.length D ∧ RepM D rows

theorem repM_put {D : DataW Value} {rows : List (Int × Value)} (h : RepM D rows) {k : Int} (hk : vof rows k = none) (v : Value) : RepM (D.put (.int .i64 k) (.held v)) (rows ++ [(k, v)]) := by
  refine ⟨h.1.put _ _, fun t => ?_⟩
  rw [vof_snoc]
  by_cases e : k = t
  · subst e
    rw [hk, if_pos rfl]
    refine ⟨by rw [Maps.has_put_same h.1 (by trivial)]; rfl, fun y hy z => ?_⟩
    have : v = y := by simpa using hy
    subst this
    exact Maps.atKey_put_same h.1 (by trivial) _ _
  · rw [if_neg e, Option.or_none]
    have hne : (Lit.int .i64 t) ≠ Lit.int .i64 k := fun h => e (by injection h with _ h; exact h.symm)
    refine ⟨by rw [Maps.has_put_other hne]; exact (h.2 t).1, fun y hy z => ?_⟩
    rw [Maps.atKey_put_other hne]
    exact (h.2 t).2 y hy z

theorem Pm.made (w : World) : Pm (w.alloc (.map #[] 0)) w.heap.size [] := ⟨.map [], World.ownsMap_made w Tryz.prog 3 heldR, Maps.isMap_empty, fun t => ⟨rfl, fun v h => by simp [vof] at h⟩⟩
theorem Pm.lt {w : World} {bm : Nat} {rows : List (Int × Value)} (h : Pm w bm rows) : bm < w.heap.size := let ⟨_, h, _⟩ := h; h.lt
theorem Pm.aside {G : Nat → Prop} {w w' : World} {bm : Nat} {rows : List (Int × Value)} (h : Pm w bm rows) (ha : Aside G w w') (hG : ¬ G bm) : Pm w' bm rows := by
  have hlt := h.lt
  obtain ⟨D, ⟨es, clock, hb, r⟩, hR⟩ := h
  exact ⟨D, ⟨es, clock, (ha.block bm hlt hG).trans hb, r⟩, hR⟩
theorem Pm.later {w w' : World} {bm : Nat} {rows : List (Int × Value)} (h : Pm w bm rows) (hb : Below w.heap.size w w') : Pm w' bm rows := h.aside (G := fun _ => False) (Aside.of_all hb) (fun h => h)

theorem Pm.store {w : World} {bm : Nat} {rows : List (Int × Value)} (h : Pm w bm rows) (k : Int) (hk : vof rows k = none) (hw : (Lit.int .i64 k).wf = true) (hl : rows.length ≤ 1000) (v : Value) :
    ∃ w', (Instr.mapUpdate 224 (.map (some bm)) (.int .i64 k) v).run Tryz.prog w = .ok () w' ∧ Pm w' bm (rows ++ [(k, v)]) ∧ Aside (fun b => b = bm) w w' := by
  obtain ⟨D, hM, hR⟩ := h
  obtain ⟨w', h1, h2, h3⟩ := hM.update keyedI_ Tryz.underlying224 (by unfold maxLen; omega) (kl := .int .i64 k) (d := .held v) (ps := []) (Maps.keyOf_int_mk Tryz.underlying3 hw) rfl
  exact ⟨w', h1, ⟨_, by rw [List.length_append]; exact h2, repM_put hR hk v⟩, Aside.grown h3 fun b hb => by injection hb with hb; exact hb.symm⟩

theorem zero_parts (w : World) : (zeroValue 222).run Tryz.prog w = .ok (.slice none 0 0) w := by kernel_rfl

theorem Pm.look {w : World} {bm : Nat} {rows : List (Int × Value)} (h : Pm w bm rows) (t : Int) (hw : (Lit.int .i64 t).wf = true) :
    (Instr.lookup 224 (.map (some bm)) (.int .i64 t) true).run Tryz.prog w = .ok (.tuple #[(vof rows t).getD (.slice none 0 0), .bool (vof rows t).isSome]) w := by
  obtain ⟨D, hM, hR⟩ := h
  obtain ⟨v, ps, hrun, hv⟩ := hM.look_ok keyedI_ Tryz.underlying224 (zero_parts w) (zd := .held (.slice none 0 0)) (zp := []) rfl (Maps.keyOf_int_mk Tryz.underlying3 hw)
  rw [(hR.2 t).1] at hrun
  rw [hrun]
  have hv2 : DataW.held v = D.atKey (.int .i64 t) (.held (.slice none 0 0)) := by
    unfold heldR at hv
    injection hv with hv
    injection hv with hv _
  have : v = (vof rows t).getD (.slice none 0 0) := by
    rcases hp : vof rows t with _ | x
    · have h3 := (hR.2 t).1
      rw [hp] at h3
      rw [Maps.atKey_of_not_has h3] at hv2
      injection hv2
    · rw [(hR.2 t).2 x hp] at hv2
      injection hv2
  rw [this]

def PV (W : World) (m : Nat) : PK → Value → Prop
  | .fix n, v => ∃ b, b ≠ m ∧ v = .func (.func 186) #[] #[.pointer (some ⟨b, 0, none⟩)] ∧ W.cell? ⟨b, 0, none⟩ = some (.int .i64 n)
  | .nam, v => v = .func (.func 182) #[] #[]
  | .txt, v => v = .func (.func 183) #[] #[]
  | .rst, v => v = .func (.func 177) #[] #[]

def RowK (W : World) (m : Nat) (v : Value) (ks : List PK) : Prop := ∃ g c, g ≠ m ∧ v = .slice (some ⟨g, 0, none⟩) ks.length c ∧ ∀ j (h : j < ks.length), ∃ u, W.cell? ⟨g, j, none⟩ = some u ∧ PV W m ks[j] u

theorem PV.aside {W W' : World} {m : Nat} {k : PK} {v : Value} {G : Nat → Prop} (h : PV W m k v) (ha : Aside G W W') (hG : ∀ b, b < W.heap.size → G b → b = m) : PV W' m k v := by
  cases k with
  | fix n =>
    obtain ⟨b, h1, h2, h3⟩ := h
    exact ⟨b, h1, h2, ha.cell_lt h3 fun hg => h1 (hG b (World.block_lt_of_cell? W _ h3) hg)⟩
  | nam => exact h
  | txt => exact h
  | rst => exact h
theorem RowK.aside {W W' : World} {m : Nat} {v : Value} {ks : List PK} {G : Nat → Prop} (h : RowK W m v ks) (ha : Aside G W W') (hG : ∀ b, b < W.heap.size → G b → b = m) : RowK W' m v ks := by
  obtain ⟨g, c, h1, h2, h3⟩ := h
  refine ⟨g, c, h1, h2, fun j hj => ?_⟩
  obtain ⟨u, h4, h5⟩ := h3 j hj
  exact ⟨u, ha.cell_lt h4 fun hg => h1 (hG g (World.block_lt_of_cell? W _ h4) hg), h5.aside ha hG⟩
theorem RowK.later {W W' : World} {m : Nat} {v : Value} {ks : List PK} (h : RowK W m v ks) (hb : Below W.heap.size W W') : RowK W' m v ks := h.aside (G := fun _ => False) (Aside.of_all hb) fun _ _ h => h.elim

structure PMs (w W : World) (m : Nat) (rows : List (Int × Value)) : Prop where
  map : Pm W m rows
  row : ∀ p ∈ rows, RowK W m p.2 (kinds p.1)
  bel : Below w.heap.size w W
  old : w.heap.size ≤ m

theorem PMs.later {w W W' : World} {m : Nat} {rows : List (Int × Value)} (h : PMs w W m rows) (hb : Below W.heap.size W W') : PMs w W' m rows :=
  ⟨h.map.later hb, fun p hp => (h.row p hp).later hb, bel_call h.bel hb, h.old⟩

theorem PMs.step {w W W1 : World} {m : Nat} {rows : List (Int × Value)} (h : PMs w W m rows) (hb : Below W.heap.size W W1) (t : Int) (v : Value) (hrow : RowK W1 m v (kinds t)) (hn : vof rows t = none) (hw : (Lit.int .i64 t).wf = true) (hl : rows.length ≤ 1000) :
    ∃ W2, (Instr.mapUpdate 224 (.map (some m)) (.int .i64 t) v).run Tryz.prog W1 = .ok () W2 ∧ PMs w W2 m (rows ++ [(t, v)]) := by
  have h1 := h.later hb
  obtain ⟨W2, r1, r2, r3⟩ := h1.map.store t hn hw hl v
  refine ⟨W2, r1, r2, fun p hp => ?_, below_aside h1.bel r3 fun b hb => ⟨Nat.lt_of_lt_of_le hb h1.bel.size, by have := h1.old; omega⟩, h1.old⟩
  rcases List.mem_append.mp hp with hp | hp
  · exact (h1.row p hp).aside r3 fun _ _ h => h
  · obtain rfl := List.mem_singleton.mp hp
    exact hrow.aside r3 fun _ _ h => h

def PartsPost (w : World) (e : Ending) (w' : World) : Prop :=
  ∃ m, e = .returned (.map (some m)) ∧ Below w.heap.size w w' ∧ ∀ t : Int, (Lit.int .i64 t).wf = true →
    (kinds t = [.rst] ∧ (Instr.lookup 224 (.map (some m)) (.int .i64 t) true).run Tryz.prog w' = .ok (.tuple #[.slice none 0 0, .bool false]) w') ∨
    (∃ v, RowK w' m v (kinds t) ∧ (Instr.lookup 224 (.map (some m)) (.int .i64 t) true).run Tryz.prog w' = .ok (.tuple #[v, .bool true]) w')

theorem parts_fin {w W : World} {m : Nat} {rows : List (Int × Value)} (h : PMs w W m rows) (hk : rows.map (·.1) = [1, 28, 2, 5, 12, 15, 6, 16]) : PartsPost w (.returned (.map (some m))) W := by
  refine ⟨m, rfl, h.bel, fun t hw => ?_⟩
  have hl := h.map.look t hw
  rcases hv : vof rows t with _ | v
  · rw [hv] at hl
    refine .inl ⟨?_, hl⟩
    have hno : ∀ x ∈ rows.map (·.1), x ≠ t := by
      intro x hx e
      subst e
      obtain ⟨p, hp, rfl⟩ := List.mem_map.mp hx
      unfold vof at hv
      have := List.find?_eq_none.mp (Option.map_eq_none_iff.mp hv) p hp
      simp at this
    rw [hk] at hno
    have a1 := hno 1 (by simp)
    have a2 := hno 28 (by simp)
    have a3 := hno 2 (by simp)
    have a4 := hno 5 (by simp)
    have a5 := hno 12 (by simp)
    have a6 := hno 15 (by simp)
    have a7 := hno 6 (by simp)
    have a8 := hno 16 (by simp)
    unfold kinds
    rw [if_neg (fun e => a1 e.symm), if_neg (fun e => a2 e.symm), if_neg (by rintro (e | e | e) <;> simp_all), if_neg (fun e => a6 e.symm), if_neg (fun e => a7 e.symm), if_neg (fun e => a8 e.symm)]
  · rw [hv] at hl
    refine .inr ⟨v, ?_, hl⟩
    unfold vof at hv
    obtain ⟨p, hp, rfl⟩ := Option.map_eq_some_iff.mp hv
    have h1 := List.mem_of_find?_eq_some hp
    have h2 := List.find?_some hp
    have h3 : p.1 = t := by simpa using h2
    rw [← h3]
    exact h.row p h1
end Go.Proofs.YteegekpanadmkaaGreat

/-
  parts: walked.
-/
namespace Go.Proofs.YteegekpanadmkaaGreat
open Go.RowKit Go.Shelf
set_option linter.unusedVariables false
set_option linter.unusedSimpArgs false
set_option maxRecDepth 100000

theorem row_f4 {W : World} {m : Nat} (hm : m < W.heap.size) : RowK ((W.alloc (.cells #[.int .i64 4] 3)).alloc (.cells #[.func (.func 186) #[] #[.pointer (some ⟨W.heap.size, 0, none⟩)]] 228)) m (.slice (some ⟨W.heap.size + 1, 0, none⟩) 1 1) [.fix 4] ∧ Below W.heap.size W ((W.alloc (.cells #[.int .i64 4] 3)).alloc (.cells #[.func (.func 186) #[] #[.pointer (some ⟨W.heap.size, 0, none⟩)]] 228)) := by
  refine ⟨⟨W.heap.size + 1, 1, by omega, rfl, fun j hj => ?_⟩, ((Below.refl _ _).alloc (Nat.le_refl _) _).alloc (by simp) _⟩
  match j, hj with
  | 0, _ => exact ⟨_, by simp [go_sem], ⟨W.heap.size, by omega, rfl, by simp [go_sem]⟩⟩
  | j + 1, hj => simp only [List.length_cons, List.length_nil] at hj; omega

theorem row_f16 {W : World} {m : Nat} (hm : m < W.heap.size) : RowK ((W.alloc (.cells #[.int .i64 16] 3)).alloc (.cells #[.func (.func 186) #[] #[.pointer (some ⟨W.heap.size, 0, none⟩)]] 228)) m (.slice (some ⟨W.heap.size + 1, 0, none⟩) 1 1) [.fix 16] ∧ Below W.heap.size W ((W.alloc (.cells #[.int .i64 16] 3)).alloc (.cells #[.func (.func 186) #[] #[.pointer (some ⟨W.heap.size, 0, none⟩)]] 228)) := by
  refine ⟨⟨W.heap.size + 1, 1, by omega, rfl, fun j hj => ?_⟩, ((Below.refl _ _).alloc (Nat.le_refl _) _).alloc (by simp) _⟩
  match j, hj with
  | 0, _ => exact ⟨_, by simp [go_sem], ⟨W.heap.size, by omega, rfl, by simp [go_sem]⟩⟩
  | j + 1, hj => simp only [List.length_cons, List.length_nil] at hj; omega

theorem row_n {W : World} {m : Nat} (hm : m < W.heap.size) : RowK (W.alloc (.cells #[.func (.func 182) #[] #[]] 228)) m (.slice (some ⟨W.heap.size, 0, none⟩) 1 1) [.nam] ∧ Below W.heap.size W (W.alloc (.cells #[.func (.func 182) #[] #[]] 228)) := by
  refine ⟨⟨W.heap.size, 1, by omega, rfl, fun j hj => ?_⟩, (Below.refl _ _).alloc (Nat.le_refl _) _⟩
  match j, hj with
  | 0, _ => exact ⟨_, by simp [go_sem], rfl⟩
  | j + 1, hj => simp only [List.length_cons, List.length_nil] at hj; omega

theorem row_t {W : World} {m : Nat} (hm : m < W.heap.size) : RowK (W.alloc (.cells #[.func (.func 183) #[] #[]] 228)) m (.slice (some ⟨W.heap.size, 0, none⟩) 1 1) [.txt] ∧ Below W.heap.size W (W.alloc (.cells #[.func (.func 183) #[] #[]] 228)) := by
  refine ⟨⟨W.heap.size, 1, by omega, rfl, fun j hj => ?_⟩, (Below.refl _ _).alloc (Nat.le_refl _) _⟩
  match j, hj with
  | 0, _ => exact ⟨_, by simp [go_sem], rfl⟩
  | j + 1, hj => simp only [List.length_cons, List.length_nil] at hj; omega

theorem row_m {W : World} {m : Nat} (hm : m < W.heap.size) : RowK ((W.alloc (.cells #[.int .i64 2] 3)).alloc (.cells #[.func (.func 186) #[] #[.pointer (some ⟨W.heap.size, 0, none⟩)], .func (.func 182) #[] #[]] 228)) m (.slice (some ⟨W.heap.size + 1, 0, none⟩) 2 2) [.fix 2, .nam] ∧ Below W.heap.size W ((W.alloc (.cells #[.int .i64 2] 3)).alloc (.cells #[.func (.func 186) #[] #[.pointer (some ⟨W.heap.size, 0, none⟩)], .func (.func 182) #[] #[]] 228)) := by
  refine ⟨⟨W.heap.size + 1, 2, by omega, rfl, fun j hj => ?_⟩, ((Below.refl _ _).alloc (Nat.le_refl _) _).alloc (by simp) _⟩
  match j, hj with
  | 0, _ => exact ⟨_, by simp [go_sem], ⟨W.heap.size, by omega, rfl, by simp [go_sem]⟩⟩
  | 1, _ => exact ⟨_, by simp [go_sem], rfl⟩
  | j + 2, hj => simp only [List.length_cons, List.length_nil] at hj; omega

theorem row_s {W : World} {m : Nat} (hm : m < W.heap.size) : RowK ((W.alloc (.cells #[.int .i64 20] 3)).alloc (.cells #[.func (.func 182) #[] #[], .func (.func 182) #[] #[], .func (.func 186) #[] #[.pointer (some ⟨W.heap.size, 0, none⟩)]] 228)) m (.slice (some ⟨W.heap.size + 1, 0, none⟩) 3 3) [.nam, .nam, .fix 20] ∧ Below W.heap.size W ((W.alloc (.cells #[.int .i64 20] 3)).alloc (.cells #[.func (.func 182) #[] #[], .func (.func 182) #[] #[], .func (.func 186) #[] #[.pointer (some ⟨W.heap.size, 0, none⟩)]] 228)) := by
  refine ⟨⟨W.heap.size + 1, 3, by omega, rfl, fun j hj => ?_⟩, ((Below.refl _ _).alloc (Nat.le_refl _) _).alloc (by simp) _⟩
  match j, hj with
  | 0, _ => exact ⟨_, by simp [go_sem], rfl⟩
  | 1, _ => exact ⟨_, by simp [go_sem], rfl⟩
  | 2, _ => exact ⟨_, by simp [go_sem], ⟨W.heap.size, by omega, rfl, by simp [go_sem]⟩⟩
  | j + 3, hj => simp only [List.length_cons, List.length_nil] at hj; omega

theorem pms_size {w W : World} {m : Nat} {rows : List (Int × Value)} (h : PMs w W m rows) : m < W.heap.size := h.map.lt

set_option maxHeartbeats 4000000 in
theorem parts_any (w : World) : Calls Tryz.prog 176 #[] w (PartsPost w) := by
  have hmm := run_makeMap (P := Tryz.prog) 224 w
  have P0 : PMs w (w.alloc (.map #[] 0)) w.heap.size [] := ⟨Pm.made w, fun p hp => by simp at hp, (Below.refl _ _).alloc (Nat.le_refl _) _, Nat.le_refl _⟩
  obtain ⟨W0, hW0⟩ : ∃ W0, w.alloc (.map #[] 0) = W0 := ⟨_, rfl⟩
  obtain ⟨m, hm⟩ : ∃ m, w.heap.size = m := ⟨_, rfl⟩
  rw [hW0] at hmm P0
  have HM := Lib.hid hm
  rw [hm] at hmm P0
  clear hW0 hm
  obtain ⟨W1, r1, P1⟩ := P0.step (row_f4 (pms_size P0)).2 1 _ (row_f4 (pms_size P0)).1 rfl (by decide) (by simp)
  obtain ⟨W2, r2, P2⟩ := P1.step (row_f16 (pms_size P1)).2 28 _ (row_f16 (pms_size P1)).1 rfl (by decide) (by simp)
  obtain ⟨W3, r3, P3⟩ := P2.step (row_n (pms_size P2)).2 2 _ (row_n (pms_size P2)).1 rfl (by decide) (by simp)
  obtain ⟨W4, r4, P4⟩ := P3.step (row_n (pms_size P3)).2 5 _ (row_n (pms_size P3)).1 rfl (by decide) (by simp)
  obtain ⟨W5, r5, P5⟩ := P4.step (row_n (pms_size P4)).2 12 _ (row_n (pms_size P4)).1 rfl (by decide) (by simp)
  obtain ⟨W6, r6, P6⟩ := P5.step (row_m (pms_size P5)).2 15 _ (row_m (pms_size P5)).1 rfl (by decide) (by simp)
  obtain ⟨W7, r7, P7⟩ := P6.step (row_s (pms_size P6)).2 6 _ (row_s (pms_size P6)).1 rfl (by decide) (by simp)
  obtain ⟨W8, r8, P8⟩ := P7.step (row_t (pms_size P7)).2 16 _ (row_t (pms_size P7)).1 rfl (by decide) (by simp)
  have HP := Lib.hid (parts_fin P8 rfl)
  have R1 := r1
  clear P0 P1 P2 P3 P4 P5 P6 P7 P8 R1
  go_enter Tryz.func176, Tryz.ntmps176
  go_wp2_with (go_at_call 181; refine (fixed_any _ _).mono ?_; rintro e w1 ⟨rfl, rfl⟩)
  go_ret
  exact HP.out
end Go.Proofs.YteegekpanadmkaaGreat

/-
  The deferred function that recovers a part that does not fit.
-/
namespace Go.Proofs.YteegekpanadmkaaGreat
open Go.RowKit Go.Shelf
set_option linter.unusedVariables false
set_option linter.unusedSimpArgs false
set_option maxRecDepth 100000

theorem tam_nil (w : World) : (Instr.typeAssert .nilIface 20 220 true).run Tryz.prog w = .ok (.tuple #[.agg #[.int .i64 0, .int .i64 0], .bool false]) w := by kernel_rfl
theorem tam_mis (e a : Int) (w : World) : (Instr.typeAssert (.iface 220 (.agg #[.int .i64 e, .int .i64 a])) 20 220 true).run Tryz.prog w = .ok (.tuple #[.agg #[.int .i64 e, .int .i64 a], .bool true]) w := by kernel_rfl

theorem mcatch_idle (p q : Addr) (w : World) :
    CallsD Tryz.prog 175 #[.pointer (some p), .pointer (some q)] .returning w fun e u' w' => e = .returned (.tuple #[]) ∧ u' = .returning ∧ w' = w.alloc (.cells #[.int .i64 0, .int .i64 0] 220) := by
  refine callsD_of_wpS Tryz.func175 rfl fun c₀ cs hu => ?_
  simp only [Tryz.ntmps175, List.size_toArray, List.length_cons, List.length_nil, Nat.reduceAdd, Nat.reduceSub, Array.replicate_succ, Array.replicate_zero, List.push_toArray, List.append_toArray, List.nil_append, List.cons_append]
  apply wpS_seq
  apply wpS_region
  simp [wpOpsS, go_sem, recoverD, hu, Exit.thenS, tam_nil]
  refine wpS_of_wp ?_
  go_wp2
  cases c₀
  simp_all [bodyPostS, results, Tryz.results175]

def CaughtM (b2 b3 : Nat) (e a : Int) (w w' : World) : Prop :=
  Aside (fun b => b = b2 ∨ b = b3) w w' ∧ w'.cell? ⟨b2, 0, none⟩ = some (.slice none 0 0) ∧ w'.cell? ⟨b3, 0, none⟩ = some (.int .i64 e) ∧ w'.cell? ⟨b3, 1, none⟩ = some (.int .i64 a)

theorem mcatch_fault (b2 b3 : Nat) (hne : b2 ≠ b3) (e a : Int) (w : World) (u : Value) (hp : w.cell? ⟨b2, 0, none⟩ = some u) (h0 : w.cell? ⟨b3, 0, none⟩ = some (.int .i64 0)) (h1 : w.cell? ⟨b3, 1, none⟩ = some (.int .i64 0))
    (hf2 : ∀ j, w.frozen? ⟨b2, j, none⟩ = false) (hf3 : ∀ j, w.frozen? ⟨b3, j, none⟩ = false) :
    CallsD Tryz.prog 175 #[.pointer (some ⟨b2, 0, none⟩), .pointer (some ⟨b3, 0, none⟩)] (.panicking [{ v := .iface 220 (.agg #[.int .i64 e, .int .i64 a]), recovered := false }]) w fun en u' w' =>
      en = .returned (.tuple #[]) ∧ u' = .panicking [{ v := .iface 220 (.agg #[.int .i64 e, .int .i64 a]), recovered := true }] ∧ CaughtM b2 b3 e a w w' := by
  refine callsD_of_wpS Tryz.func175 rfl fun c₀ cs hu => ?_
  simp only [Tryz.ntmps175, List.size_toArray, List.length_cons, List.length_nil, Nat.reduceAdd, Nat.reduceSub, Array.replicate_succ, Array.replicate_zero, List.push_toArray, List.append_toArray, List.nil_append, List.cons_append]
  apply wpS_seq
  apply wpS_region
  simp [wpOpsS, go_sem, recoverD, hu, Exit.thenS, tam_mis]
  refine wpS_of_wp ?_
  have hl2 : b2 < w.heap.size := World.block_lt_of_cell? w _ hp
  have hl3 : b3 < w.heap.size := World.block_lt_of_cell? w _ h0
  obtain ⟨W, hW⟩ : ∃ W, (w.alloc (.cells #[.int .i64 e, .int .i64 a] 220)).drew = W := ⟨_, rfl⟩
  have hbel : Below w.heap.size w W := by rw [← hW]; exact ((Below.refl _ w).alloc (Nat.le_refl _) _).drew
  have g2 : W.cell? ⟨b2, 0, none⟩ = some u := (hbel.cell hl2).trans hp
  have g30 : W.cell? ⟨b3, 0, none⟩ = some (.int .i64 0) := (hbel.cell hl3).trans h0
  have g31 : W.cell? ⟨b3, 1, none⟩ = some (.int .i64 0) := (hbel.cell hl3).trans h1
  have f2 : ∀ j, W.frozen? ⟨b2, j, none⟩ = false := fun j => (hbel.frozen (p := ⟨b2, j, none⟩) hl2).trans (hf2 j)
  have f3 : ∀ j, W.frozen? ⟨b3, j, none⟩ = false := fun j => (hbel.frozen (p := ⟨b3, j, none⟩) hl3).trans (hf3 j)
  obtain ⟨g, hg⟩ : ∃ g, w.heap.size = g := ⟨_, rfl⟩
  have n0 : W.cell? ⟨g, 0, none⟩ = some (.int .i64 e) := by rw [← hW, ← hg]; simp [go_sem]
  have n1 : W.cell? ⟨g, 1, none⟩ = some (.int .i64 a) := by rw [← hW, ← hg]; simp [go_sem]
  have hne2 : ¬ g = b2 := by omega
  have hne3 : ¬ b3 = b2 := fun h => hne h.symm
  have HC : Hid (CaughtM b2 b3 e a w (((W.setCell ⟨b2, 0, none⟩ (.slice none 0 0)).setCell ⟨b3, 0, none⟩ (.int .i64 e)).setCell ⟨b3, 1, none⟩ (.int .i64 a))) := by
    have x2 := World.cell?_setCell_same W ⟨b2, 0, none⟩ (.slice none 0 0) g2
    have y0 : (W.setCell ⟨b2, 0, none⟩ (.slice none 0 0)).cell? ⟨b3, 0, none⟩ = some (.int .i64 0) := by rw [World.cell?_setCell_other _ _ _ _ (by simp [hne3])]; exact g30
    have y1 : (W.setCell ⟨b2, 0, none⟩ (.slice none 0 0)).cell? ⟨b3, 1, none⟩ = some (.int .i64 0) := by rw [World.cell?_setCell_other _ _ _ _ (by simp [hne3])]; exact g31
    obtain ⟨z0, z1⟩ := res_set (.int .i64 e) (.int .i64 a) y0 y1
    refine ⟨?_, ?_, ?_, z1⟩
    · exact (((Aside.of_all hbel).trans (Aside.setCell _ _ (.inl rfl))).trans (Aside.setCell _ _ (.inr rfl))).trans (Aside.setCell _ _ (.inr rfl))
    · rw [World.cell?_setCell_other _ _ _ _ (by simp [hne]), World.cell?_setCell_other _ _ _ _ (by simp [hne])]
      exact x2
    · rw [World.cell?_setCell_other _ _ _ _ (by simp)]
      exact z0
  clear hbel
  go_wp2
  go_region
  exact ⟨rfl, _, rfl, .tuple #[], by simp [results, Tryz.results175], rfl, rfl, HC.out⟩

/-! ### plain -/
theorem kinds_small (t : Int) : (kinds t).length ≤ 3 ∧ ∀ k ∈ kinds t, ∀ n, k = .fix n → n ≤ 20 := by
  unfold kinds
  repeat' split
  all_goals simp

theorem step_le {F : Nat → Got} {b : List UInt8} {s e p : Nat} (hp : p ≤ e) {k : PK} {x : Pc} {q : Nat} (h : stepP F b s e p k = .ok x q) : q ≤ e := by
  cases k with
  | fix n => simp only [stepP, cutP] at h; split at h <;> simp at h; omega
  | nam =>
    simp only [stepP] at h
    split at h
    · simp at h
    · split at h
      · simp at h
      · split at h
        · simp at h
        · rename_i h3; injection h with h1 h2; omega
  | txt =>
    rw [txR_step] at h
    cases hy : txE b e (e + 1) p with
    | none => rw [hy] at h; simp [txR] at h
    | some y => rw [hy] at h; simp only [txR, cutP] at h; split at h <;> simp at h; omega
  | rst => simp only [stepP, cutP] at h; split at h <;> simp at h; omega

def ReadPost (w : World) (R : RR) (en : Ending) (w' : World) : Prop :=
  ∃ v, en = .returned (.tuple #[v, .agg #[.int .i64 R.code, .int .i64 R.place]]) ∧ OwnP w' w.heap.size v R.pcs ∧ Below w.heap.size w w'
end Go.Proofs.YteegekpanadmkaaGreat

/-
  read: the data of a type, part by part.
-/
namespace Go.Proofs.YteegekpanadmkaaGreat
open Go.RowKit Go.Shelf
set_option linter.unusedVariables false
set_option linter.unusedSimpArgs false
set_option maxRecDepth 100000

theorem row_r {W : World} : RowK (W.alloc (.cells #[.func (.func 177) #[] #[]] 228)) (W.heap.size + 1) (.slice (some ⟨W.heap.size, 0, none⟩) 1 1) [.rst] ∧ Below W.heap.size W (W.alloc (.cells #[.func (.func 177) #[] #[]] 228)) := by
  refine ⟨⟨W.heap.size, 1, by omega, rfl, fun j hj => ?_⟩, (Below.refl _ _).alloc (Nat.le_refl _) _⟩
  match j, hj with
  | 0, _ => exact ⟨_, by simp [go_sem], rfl⟩
  | j + 1, hj => simp only [List.length_cons, List.length_nil] at hj; omega

theorem RowK.over {w4 wr : World} {m r B n c : Nat} {v : Value} {a : Option Addr} {ks : List PK} (h : RowK w4 m v ks) (h0 : 0 < ks.length) (hc : w4.cell? ⟨r, 0, none⟩ = some (.slice a n c)) (hB : w4.heap.size ≤ B) (ha : Aside (RG B r) w4 wr) : RowK wr m v ks := by
  obtain ⟨g, cc, h1, h2, h3⟩ := h
  have hgr : g ≠ r := by
    obtain ⟨u, hu, hp⟩ := h3 0 h0
    intro e
    subst e
    rw [hc] at hu
    injection hu with hu
    subst hu
    cases hk : ks[0] with
    | fix n => rw [hk] at hp; obtain ⟨b, _, hp, _⟩ := hp; cases hp
    | nam => rw [hk] at hp; cases hp
    | txt => rw [hk] at hp; cases hp
    | rst => rw [hk] at hp; cases hp
  refine ⟨g, cc, h1, h2, fun j hj => ?_⟩
  obtain ⟨u, hu, hp⟩ := h3 j hj
  have hno : ∀ b, b < w4.heap.size → b ≠ r → ¬ RG B r b := fun b hb hr hg => by
    rcases hg with hg | hg
    · exact hr hg
    · omega
  refine ⟨u, ha.cell_lt hu (hno g (World.block_lt_of_cell? _ _ hu) hgr), ?_⟩
  cases hk : ks[j] with
  | fix n =>
    rw [hk] at hp
    obtain ⟨b, b1, b2, b3⟩ := hp
    refine ⟨b, b1, b2, ha.cell_lt b3 (hno b (World.block_lt_of_cell? _ _ b3) fun e => ?_)⟩
    subst e
    rw [hc] at b3
    cases b3
  | nam => rw [hk] at hp; exact hp
  | txt => rw [hk] at hp; exact hp
  | rst => rw [hk] at hp; exact hp

theorem rd_setup {w w4 : World} {f s p e lo hi n c : Nat} {av : Option Addr} {b : List UInt8} {F : Nat → Got} {vf : Value}
    (hb : Below (((w.alloc (.cells #[.slice av n c, .int .i64 s, .int .i64 p, .int .i64 e, vf, .slice none 0 0] 216)).alloc (.cells #[.slice none 0 0] 206)).alloc (.cells #[.int .i64 0, .int .i64 0] 42)).heap.size
      (((w.alloc (.cells #[.slice av n c, .int .i64 s, .int .i64 p, .int .i64 e, vf, .slice none 0 0] 216)).alloc (.cells #[.slice none 0 0] 206)).alloc (.cells #[.int .i64 0, .int .i64 0] 42)) w4)
    (hS : Sl w lo hi (.slice av n c) (iz b)) (hhi : hi ≤ w.heap.size) (hfind : ∀ wx, Sl wx lo hi (.slice av n c) (iz b) → hi ≤ wx.heap.size → ∀ p : Nat, Calls Tryz.prog f #[.slice av n c, .int .i64 p] wx (Tells wx (gotV (F p)))) :
    Rr w4 w4.heap.size w.heap.size (.slice av n c) vf s p e [] ∧ w4.cell? ⟨w.heap.size, 0, none⟩ = some (.slice av n c) ∧
    (∀ wx, Aside (RG w4.heap.size w.heap.size) w4 wx → wx.cell? ⟨w.heap.size + 1, 0, none⟩ = some (.slice none 0 0) ∧ wx.cell? ⟨w.heap.size + 1 + 1, 0, none⟩ = some (.int .i64 0) ∧ wx.cell? ⟨w.heap.size + 1 + 1, 1, none⟩ = some (.int .i64 0) ∧ (∀ j, wx.frozen? ⟨w.heap.size + 1, j, none⟩ = false) ∧ ∀ j, wx.frozen? ⟨w.heap.size + 1 + 1, j, none⟩ = false) ∧
    (∀ wx, Aside (RG w4.heap.size w.heap.size) w4 wx → Sl wx lo hi (.slice av n c) (iz b)) ∧
    FindOk w4 w4.heap.size w.heap.size f (.slice av n c) F ∧
    (∀ wx w9 (cc : Int) (aa : Nat), Aside (RG w4.heap.size w.heap.size) w4 wx → CaughtM (w.heap.size + 1) (w.heap.size + 1 + 1) cc aa wx w9 → ReadPost w (.bad cc aa) (.returned (.tuple #[.slice none 0 0, .agg #[.int .i64 cc, .int .i64 aa]])) w9) ∧
    (∀ wr vp acc, Aside (RG w4.heap.size w.heap.size) w4 wr → OwnP wr w4.heap.size vp acc → ∃ Wf, Wf = (((wr.setCell ⟨w.heap.size + 1, 0, none⟩ vp).setCell ⟨w.heap.size + 1 + 1, 0, none⟩ (.int .i64 0)).setCell ⟨w.heap.size + 1 + 1, 1, none⟩ (.int .i64 0)) ∧ Wf.cell? ⟨w.heap.size + 1, 0, none⟩ = some vp ∧ Wf.cell? ⟨w.heap.size + 1 + 1, 0, none⟩ = some (.int .i64 0) ∧ Wf.cell? ⟨w.heap.size + 1 + 1, 1, none⟩ = some (.int .i64 0) ∧ OwnP Wf w.heap.size vp acc ∧ Below w.heap.size w Wf) := by
  obtain ⟨W0, hW0⟩ : ∃ W0, (((w.alloc (.cells #[.slice av n c, .int .i64 s, .int .i64 p, .int .i64 e, vf, .slice none 0 0] 216)).alloc (.cells #[.slice none 0 0] 206)).alloc (.cells #[.int .i64 0, .int .i64 0] 42)) = W0 := ⟨_, rfl⟩
  have hsz : W0.heap.size = w.heap.size + 1 + 1 + 1 := by rw [← hW0]; simp
  have hbw : Below w.heap.size w W0 := by rw [← hW0]; exact (((Below.refl _ w).alloc (Nat.le_refl _) _).alloc (by simp) _).alloc (by simp; omega) _
  have q0 : W0.cell? ⟨w.heap.size, 0, none⟩ = some (.slice av n c) := by rw [← hW0]; simp [go_sem]
  have q1 : W0.cell? ⟨w.heap.size, 1, none⟩ = some (.int .i64 s) := by rw [← hW0]; simp [go_sem]
  have q2 : W0.cell? ⟨w.heap.size, 2, none⟩ = some (.int .i64 p) := by rw [← hW0]; simp [go_sem]
  have q3 : W0.cell? ⟨w.heap.size, 3, none⟩ = some (.int .i64 e) := by rw [← hW0]; simp [go_sem]
  have q4 : W0.cell? ⟨w.heap.size, 4, none⟩ = some vf := by rw [← hW0]; simp [go_sem]
  have q5 : W0.cell? ⟨w.heap.size, 5, none⟩ = some (.slice none 0 0) := by rw [← hW0]; simp [go_sem]
  have qf : ∀ j, W0.frozen? ⟨w.heap.size, j, none⟩ = false := by intro j; rw [← hW0]; simp [go_sem]
  have z0 : W0.cell? ⟨w.heap.size + 1, 0, none⟩ = some (.slice none 0 0) := by rw [← hW0]; simp [go_sem]
  have z1 : W0.cell? ⟨w.heap.size + 1 + 1, 0, none⟩ = some (.int .i64 0) := by rw [← hW0]; simp [go_sem]
  have z2 : W0.cell? ⟨w.heap.size + 1 + 1, 1, none⟩ = some (.int .i64 0) := by rw [← hW0]; simp [go_sem]
  have z3 : ∀ j, W0.frozen? ⟨w.heap.size + 1, j, none⟩ = false := by intro j; rw [← hW0]; simp [go_sem]
  have z4 : ∀ j, W0.frozen? ⟨w.heap.size + 1 + 1, j, none⟩ = false := by intro j; rw [← hW0]; simp [go_sem]
  rw [hW0] at hb
  clear hW0
  have hs4 := hb.size
  have hb4 : Below w.heap.size w w4 := bel_call hbw hb
  have hKC : ∀ wx, Aside (RG w4.heap.size w.heap.size) w4 wx → wx.cell? ⟨w.heap.size + 1, 0, none⟩ = some (.slice none 0 0) ∧ wx.cell? ⟨w.heap.size + 1 + 1, 0, none⟩ = some (.int .i64 0) ∧ wx.cell? ⟨w.heap.size + 1 + 1, 1, none⟩ = some (.int .i64 0) ∧ (∀ j, wx.frozen? ⟨w.heap.size + 1, j, none⟩ = false) ∧ ∀ j, wx.frozen? ⟨w.heap.size + 1 + 1, j, none⟩ = false := by
    intro wx ha
    have n2 : ¬ RG w4.heap.size w.heap.size (w.heap.size + 1) := by unfold RG; omega
    have n3 : ¬ RG w4.heap.size w.heap.size (w.heap.size + 1 + 1) := by unfold RG; omega
    exact ⟨ha.cell_lt (cell_later hb z0) n2, ha.cell_lt (cell_later hb z1) n3, ha.cell_lt (cell_later hb z2) n3, fun j => (ha.frozen (p := ⟨w.heap.size + 1, j, none⟩) (by show w.heap.size + 1 < _; omega) n2).trans ((hb.frozen (p := ⟨w.heap.size + 1, j, none⟩) (by show w.heap.size + 1 < _; omega)).trans (z3 j)), fun j => (ha.frozen (p := ⟨w.heap.size + 1 + 1, j, none⟩) (by show w.heap.size + 1 + 1 < _; omega) n3).trans ((hb.frozen (p := ⟨w.heap.size + 1 + 1, j, none⟩) (by show w.heap.size + 1 + 1 < _; omega)).trans (z4 j))⟩
  have hSL : ∀ wx, Aside (RG w4.heap.size w.heap.size) w4 wx → Sl wx lo hi (.slice av n c) (iz b) := fun wx ha =>
    (hS.below hb4 hhi).keep fun b o _ h2 => ha.cell (p := ⟨b, o, none⟩) (by show b < _; omega) (by show ¬ RG _ _ b; unfold RG; omega)
  refine ⟨⟨cell_later hb q0, cell_later hb q1, cell_later hb q2, cell_later hb q3, cell_later hb q4, ⟨_, cell_later hb q5, OwnP.nil _ _⟩, fun j => (hb.frozen (p := ⟨w.heap.size, j, none⟩) (by show w.heap.size < _; omega)).trans (qf j), by omega, Nat.le_refl _⟩, cell_later hb q0, hKC, hSL, fun wx ha p => hfind wx (hSL wx ha) (by have := ha.size; omega) p, ?_, ?_⟩
  · intro wx w9 cc aa ha hc
    have hx : Below w.heap.size w wx := below_aside hb4 ha fun b hb => ⟨by omega, by unfold RG; omega⟩
    exact ⟨_, rfl, OwnP.nil _ _, below_aside hx hc.1 fun b hb => ⟨by have := ha.size; omega, by omega⟩⟩
  · intro wr vp acc ha hown
    obtain ⟨k0, k1, k2, _, _⟩ := hKC wr ha
    have hx : Below w.heap.size w wr := below_aside hb4 ha fun b hb => ⟨by omega, by unfold RG; omega⟩
    have x0 := World.cell?_setCell_same wr ⟨w.heap.size + 1, 0, none⟩ vp k0
    have y0 : (wr.setCell ⟨w.heap.size + 1, 0, none⟩ vp).cell? ⟨w.heap.size + 1 + 1, 0, none⟩ = some (.int .i64 0) := by rw [World.cell?_setCell_other _ _ _ _ (by simp)]; exact k1
    have y1 : (wr.setCell ⟨w.heap.size + 1, 0, none⟩ vp).cell? ⟨w.heap.size + 1 + 1, 1, none⟩ = some (.int .i64 0) := by rw [World.cell?_setCell_other _ _ _ _ (by simp)]; exact k2
    obtain ⟨u0, u1⟩ := res_set (.int .i64 0) (.int .i64 0) y0 y1
    have hA : Aside (fun b => b = w.heap.size + 1 ∨ b = w.heap.size + 1 + 1) wr (((wr.setCell ⟨w.heap.size + 1, 0, none⟩ vp).setCell ⟨w.heap.size + 1 + 1, 0, none⟩ (.int .i64 0)).setCell ⟨w.heap.size + 1 + 1, 1, none⟩ (.int .i64 0)) :=
      ((Aside.setCell _ _ (.inl rfl)).trans (Aside.setCell _ _ (.inr rfl))).trans (Aside.setCell _ _ (.inr rfl))
    refine ⟨_, rfl, ?_, ?_, u1, ?_, ?_⟩
    · rw [World.cell?_setCell_other _ _ _ _ (by simp), World.cell?_setCell_other _ _ _ _ (by simp)]; exact x0
    · rw [World.cell?_setCell_other _ _ _ _ (by simp)]; exact u0
    · exact (hown.aside hA fun b hb e => by have := (hown.lt b hb).1; omega).mono (by omega)
    · exact below_aside hx hA fun b hb => ⟨by have := ha.size; omega, by omega⟩

end Go.Proofs.YteegekpanadmkaaGreat
