/-
  The document's packer in memory: its tails, where one stands.
-/
import Derived.Test.YtkiahaodajecfaaKo
import Derived.Laws.OwnMore
import Derived.Outline
namespace Go.Proofs.Ytkiahaodajecfaa
open Go.RowKit Go.Shelf
set_option linter.unusedVariables false
set_option maxRecDepth 100000

/-- Tails as cells. -/
def kc : List (List UInt8 × Nat) → List Value
  | [] => []
  | p :: r => .string (bs p.1) :: .int .i64 (p.2 : Int) :: kc r

theorem kc_len (K : List (List UInt8 × Nat)) : (kc K).length = K.length * 2 := by
  induction K with
  | nil => rfl
  | cons p r ih => simp [kc, ih]; omega
theorem kc_app (K K' : List (List UInt8 × Nat)) : kc (K ++ K') = kc K ++ kc K' := by
  induction K with
  | nil => rfl
  | cons p r ih => simp [kc, ih]
theorem kc_at : ∀ (K : List (List UInt8 × Nat)) (j : Nat) (h : j < K.length), (kc K)[j * 2]? = some (.string (bs K[j].1)) ∧ (kc K)[j * 2 + 1]? = some (.int .i64 (K[j].2 : Nat))
  | [], j, h => by simp at h
  | p :: r, 0, h => ⟨rfl, rfl⟩
  | p :: r, j + 1, h => by
    obtain ⟨h1, h2⟩ := kc_at r j (by simpa using h)
    rw [show (j + 1) * 2 = j * 2 + 1 + 1 by omega, kc]
    exact ⟨h1, h2⟩
theorem kc_one (K : List (List UInt8 × Nat)) : ∀ u ∈ kc K, u.oneCell' = true := by
  induction K with
  | nil => intro u hu; simp [kc] at hu
  | cons p r ih =>
    intro u hu
    rcases List.mem_cons.mp hu with rfl | hu
    · rfl
    · rcases List.mem_cons.mp hu with rfl | hu
      · rfl
      · exact ih u hu

/-- v is a row of tails of the call's own, in blocks from B on. -/
def OwnK (w : World) (B : Nat) (v : Value) (K : List (List UInt8 × Nat)) : Prop := w.ownsRow B 104 2 v K.length (kc K)

section
variable {w w' : World} {B : Nat} {v : Value} {K : List (List UInt8 × Nat)} {G : Nat → Prop}
theorem OwnK.nil (w : World) (B : Nat) : OwnK w B (.slice none 0 0) [] := World.ownsRow_nil _ _ _ _
theorem OwnK.lt (h : OwnK w B v K) : ∀ k, v.ownBlock = some k → B ≤ k ∧ k < w.heap.size := World.ownsRow.lt h
theorem OwnK.aside (h : OwnK w B v K) (ha : Aside G w w') (hG : ∀ b, v.ownBlock = some b → ¬ G b) : OwnK w' B v K := by
  have hlt := h.lt
  refine ⟨h.1, ?_⟩
  rcases h.2 with h2 | ⟨g, cap, cur, hv, hg, hh, r⟩
  · exact .inl h2
  · exact .inr ⟨g, cap, cur, hv, hg, (ha.block g (by subst hv; exact (hlt g rfl).2) (hG g (by rw [hv]; rfl))).trans hh, r⟩
theorem OwnK.below (h : OwnK w B v K) (hb : Below w.heap.size w w') : OwnK w' B v K := h.aside (G := fun _ => False) (Aside.of_all hb) fun _ _ h => h
theorem OwnK.shape (h : OwnK w B v K) : ∃ a c, v = .slice a K.length c := by
  rcases h.2 with ⟨rfl, h0⟩ | ⟨g, cap, cur, rfl, _⟩
  · exact ⟨none, 0, by rw [h0]⟩
  · exact ⟨_, cap, rfl⟩
theorem OwnK.at_ (h : OwnK w B v K) (j : Nat) (hj : j < K.length) : ∃ g c, v = .slice (some ⟨g, 0, none⟩) K.length c ∧ w.cell? ⟨g, j * 2, none⟩ = some (.string (bs K[j].1)) ∧ w.cell? ⟨g, j * 2 + 1, none⟩ = some (.int .i64 (K[j].2 : Nat)) := by
  have hc := fun g hg => World.ownsRow.cells h (g := g) hg
  rcases h.2 with ⟨rfl, h0⟩ | ⟨g, cap, cur, rfl, _⟩
  · omega
  · obtain ⟨h1, h2⟩ := kc_at K j hj
    have e1 := hc g rfl _ _ h1
    have e2 := hc g rfl _ _ h2
    rw [WideShapes.add_plain, Nat.zero_add] at e1 e2
    exact ⟨g, cap, rfl, e1, e2⟩
end

theorem info_tail : (Try.prog.info? 104).map (fun i => (i.zero, i.size, i.bytes)) = some (some (.agg #[.string ⟨#[]⟩, .int .i64 0]), 2, 24) := by kernel_rfl

/-- append of tails, that lie in a row. -/
theorem run_appK {w : World} (B : Nat) (v : Value) (K K' : List (List UInt8 × Nat)) (g c : Nat) (hown : OwnK w B v K) (hx : ∀ j u, (kc K')[j]? = some u → w.cell? ⟨g, j, none⟩ = some u) (hb : K.length + K'.length ≤ 1000000) (hB : B ≤ w.heap.size) :
    ∃ a' c' w', (Builtin.append_ #[35, 35] 35 #[v, .slice (some ⟨g, 0, none⟩) K'.length c]).run Try.prog w = .ok (.slice a' (K.length + K'.length) c') w' ∧ OwnK w' B (.slice a' (K.length + K'.length) c') (K ++ K') ∧ Aside (fun b => v.ownBlock = some b) w w' := by
  obtain ⟨i0, hi, hz0, hz1, hz2⟩ := info_parts info_tail
  obtain ⟨v', w', h1, h2, h3, _⟩ := run_append_own (P := Try.prog) w B 35 35 104 i0 _ 2 24 Try.underlying35 hi hz0 hz1 hz2 rfl (by decide) v K.length (kc K) hown ⟨g, 0, none⟩ K'.length c (kc K') (kc_len K')
    (fun j u hu => by rw [WideShapes.add_plain, Nat.zero_add]; exact hx j u hu) (kc_one K') (by unfold maxLen; omega) (by omega) hB
  have h4 : OwnK w' B v' (K ++ K') := by
    unfold OwnK
    rw [List.length_append, kc_app]
    exact h2
  obtain ⟨a', c', hv⟩ := h4.shape
  rw [List.length_append] at hv
  subst hv
  exact ⟨a', c', w', h1, h4, Aside.grown h3 fun _ h => h⟩

/-- append of no tails. -/
theorem run_appK0 {w : World} (B : Nat) (v : Value) (K : List (List UInt8 × Nat)) (hown : OwnK w B v K) :
    (Builtin.append_ #[35, 35] 35 #[v, .slice none 0 0]).run Try.prog w = .ok v w := by
  obtain ⟨i0, hi, hz0, hz1, hz2⟩ := info_parts info_tail
  exact run_append_owned_none (P := Try.prog) (w := w) B _ _ _ i0 2 Try.underlying35 hi v K.length (kc K) hown

/-- append of tails that the call made. -/
theorem run_appKs {w : World} (B B' : Nat) (v v2 : Value) (K K' : List (List UInt8 × Nat)) (hown : OwnK w B v K) (h2 : OwnK w B' v2 K') (hb : K.length + K'.length ≤ 1000000) (hB : B ≤ w.heap.size) :
    ∃ a' c' w', (Builtin.append_ #[35, 35] 35 #[v, v2]).run Try.prog w = .ok (.slice a' (K.length + K'.length) c') w' ∧ OwnK w' B (.slice a' (K.length + K'.length) c') (K ++ K') ∧ Aside (fun b => v.ownBlock = some b) w w' := by
  have hc := fun g hg => World.ownsRow.cells h2 (g := g) hg
  rcases h2.2 with ⟨rfl, h0⟩ | ⟨g, cap, cur, rfl, _⟩
  · have e : K' = [] := List.eq_nil_of_length_eq_zero h0
    subst e
    have h1 := run_appK0 B v K hown
    obtain ⟨a', c', rfl⟩ := hown.shape
    exact ⟨a', c', w, h1, by rw [List.append_nil]; exact hown, Aside.refl _ _⟩
  · exact run_appK B v K K' g cap hown (fun j u hu => by have := hc g rfl j u hu; rwa [WideShapes.add_plain, Nat.zero_add] at this) hb hB

/-- Rows of bytes and of tails lie in different blocks. -/
theorem apart_BK {w : World} {B B' : Nat} {v v' : Value} {l : List UInt8} {K : List (List UInt8 × Nat)} (h : OwnB w B v l) (h' : OwnK w B' v' K) (b : Nat) (h1 : v.ownBlock = some b) (h2 : v'.ownBlock = some b) : False := by
  rcases h with ⟨rfl, _⟩ | ⟨g, cap, fz, rfl, _, _, _, _, hg⟩
  · simp [Value.ownBlock] at h1
  · rcases h'.2 with ⟨rfl, _⟩ | ⟨g', cap', cur, rfl, _, hg', _⟩
    · simp [Value.ownBlock] at h2
    · simp [Value.ownBlock] at h1 h2
      subst h1; subst h2
      rw [hg] at hg'
      injection hg' with hg'
      injection hg' with _ h3 _
      exact absurd h3 (by decide)

/-- Block q is the document's packer: it knows the tails K, in the row v; its last name ended at e. -/
structure Rk (w : World) (B q : Nat) (v : Value) (K : List (List UInt8 × Nat)) (e : Nat) : Prop where
  row : w.cell? ⟨q, 0, none⟩ = some v
  fin : w.cell? ⟨q, 1, none⟩ = some (.int .i64 e)
  free : ∀ j, w.frozen? ⟨q, j, none⟩ = false
  own : OwnK w B v K
  lt : q < B
  size : B ≤ w.heap.size

theorem Rk.aside {w w' : World} {B q e : Nat} {v : Value} {K : List (List UInt8 × Nat)} {G : Nat → Prop} (h : Rk w B q v K e) (ha : Aside G w w') (hq : ¬ G q) (hG : ∀ b, v.ownBlock = some b → ¬ G b) : Rk w' B q v K e := by
  have hlt : q < w.heap.size := World.block_lt_of_cell? w _ h.row
  exact ⟨ha.cell_lt h.row hq, ha.cell_lt h.fin hq, fun j => (ha.frozen (p := ⟨q, j, none⟩) hlt hq).trans (h.free j), h.own.aside ha hG, h.lt, Nat.le_trans h.size ha.size⟩
theorem Rk.later {w w' : World} {B q e : Nat} {v : Value} {K : List (List UInt8 × Nat)} (h : Rk w B q v K e) (hb : Below w.heap.size w w') : Rk w' B q v K e := h.aside (G := fun _ => False) (Aside.of_all hb) (fun h => h) fun _ _ h => h

theorem plc_hit {K : List (List UInt8 × Nat)} {t : List UInt8} {k : Nat} (hk : k < K.length) (h : plc (K.take k) t = none) (e : K[k].1 = t) : plc K t = some K[k].2 := by
  obtain ⟨y, hy⟩ : ∃ y, K[k] = y := ⟨_, rfl⟩
  rw [hy] at e ⊢
  have : K = K.take k ++ ([y] ++ K.drop (k + 1)) := by
    conv => lhs; rw [← List.take_append_drop k K, List.drop_eq_getElem_cons hk, hy]
    rfl
  rw [this, plc_app, h, Option.none_or, plc_app]
  have h1 : plc [y] t = some y.2 := by
    have := plc_one y.1 t y.2
    rw [if_pos e] at this
    exact this
  rw [h1, Option.some_or]
theorem plc_miss {K : List (List UInt8 × Nat)} {t : List UInt8} {k : Nat} (hk : k < K.length) (h : plc (K.take k) t = none) (e : ¬ K[k].1 = t) : plc (K.take (k + 1)) t = none := by
  rw [List.take_add_one, List.getElem?_eq_getElem hk, Option.toList_some, plc_app, h, Option.none_or]
  have := plc_one K[k].1 t K[k].2
  rw [if_neg e] at this
  exact this

set_option maxHeartbeats 1000000 in
theorem place_any {w : World} {B q e : Nat} {v : Value} {K : List (List UInt8 × Nat)} (h : Rk w B q v K e) (hK : K.length ≤ 1000000) (t : List UInt8) :
    Calls Try.prog 63 #[.pointer (some ⟨q, 0, none⟩), .string (bs t)] w fun x w' => x = .returned (.int .i64 (match plc K t with | some x => (x : Int) | none => -1)) ∧ w = w' := by
  have HO := Lib.hid h.own
  have c1 := h.row
  obtain ⟨av, cv, rfl⟩ := h.own.shape
  obtain ⟨r, hr⟩ : ∃ r : Int, (match plc K t with | some x => (x : Int) | none => -1) = r := ⟨_, rfl⟩
  rw [hr]
  have HR := Lib.hid hr
  clear hr h
  go_enter Try.func63, Try.ntmps63
  go_wp2
  go_loopg [5] K.length (fun g v3 wr => ∃ k : Nat, k + g = K.length ∧ v3 = .int .i64 k ∧ Hid (plc (K.take k) t = none) ∧ w = wr)
  case atStart => exact ⟨0, by omega, rfl, rfl, rfl⟩
  case round =>
    obtain ⟨k, hk, rfl, HP, rfl⟩ := hrel
    by_cases hkl : k < K.length
    · obtain ⟨g, c, he, k0, k1⟩ := HO.out.at_ k hkl
      injection he with he1 he2 he3
      subst he1
      clear he2 he3
      by_cases heq : K[k].1 = t
      · have HE := Lib.hid (show r = (K[k].2 : Nat) by rw [← HR.out, plc_hit hkl HP.out heq])
        obtain ⟨z, hz⟩ : ∃ z, K[k].2 = z := ⟨_, rfl⟩
        rw [hz] at k1 HE
        rw [heq] at k0
        have ht : ((bs t).toList == (bs t).toList) = true := by simp
        clear hz HP heq
        go_wp2_with fail
        go_ret
        exact ⟨by rw [HE.out]; rfl, rfl⟩
      · have HM := Lib.hid (plc_miss hkl HP.out heq)
        obtain ⟨y, hy⟩ : ∃ y, K[k].1 = y := ⟨_, rfl⟩
        rw [hy] at k0 heq
        have ht : ((bs y).toList == (bs t).toList) = false := by rw [bs_toList, bs_toList]; simpa using heq
        clear hy HP heq
        go_wp2_with fail
        go_roundg (K.length - (k + 1))
        case measure => omega
        case rel => exact ⟨k + 1, by omega, by go_num, HM, rfl⟩
    · have HE := Lib.hid (show r = -1 by rw [← HR.out]; have := HP.out; rw [List.take_of_length_le (by omega)] at this; rw [this])
      clear HP
      have t1 : ¬ ((k : Int) < K.length) := by omega
      go_wp2_with fail
      go_ret
      exact ⟨by rw [HE.out]; rfl, rfl⟩
end Go.Proofs.Ytkiahaodajecfaa
