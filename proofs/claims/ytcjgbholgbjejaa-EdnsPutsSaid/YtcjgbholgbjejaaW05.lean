/-
  What a record of the type says: read.
-/
import Derived.Test.YtcjgbholgbjejaaW04
import Derived.Test.YtcjgbholgbjejaaW01
import Derived.Test.YtcjgbholgbjejaaW02
import Derived.Test.YtcjgbholgbjejaaW03
namespace Go.Proofs.Ytcjgbholgbjejaa
open Go.RowKit Go.Shelf
set_option linter.unusedVariables false
set_option linter.unusedSimpArgs false
set_option maxRecDepth 100000
attribute [local go_sem] Oper.semAt_some

theorem i64_and255 (n : Int) : bits .and .i64 n 255 = n % 256 := by
  have h15 : (BitVec.ofInt 64 255).toNat = 2 ^ 8 - 1 := by decide
  have key : (BitVec.ofInt 64 n &&& BitVec.ofInt 64 255).toNat = (n % ((2 ^ 64 : Nat) : Int)).toNat % 2 ^ 8 := by
    rw [BitVec.toNat_and, BitVec.toNat_ofInt, h15, Nat.and_two_pow_sub_one_eq_mod]
  show IntKind.i64.wrap ((BitVec.ofInt 64 n &&& BitVec.ofInt 64 255).toNat : Nat) = n % 256
  rw [key, IntKind.wrap_i64]
  omega
theorem i64_and1 (n : Int) : bits .and .i64 n 1 = n % 2 := by
  have h15 : (BitVec.ofInt 64 1).toNat = 2 ^ 1 - 1 := by decide
  have key : (BitVec.ofInt 64 n &&& BitVec.ofInt 64 1).toNat = (n % ((2 ^ 64 : Nat) : Int)).toNat % 2 ^ 1 := by
    rw [BitVec.toNat_and, BitVec.toNat_ofInt, h15, Nat.and_two_pow_sub_one_eq_mod]
  show IntKind.i64.wrap ((BitVec.ofInt 64 n &&& BitVec.ofInt 64 1).toNat : Nat) = n % 2
  rw [key, IntKind.wrap_i64]
  omega
theorem bs_list (l : List UInt8) : (bs l).toList = l := ByteArray.toList_mk _

/-- While options are being read: the boxes of the answer, and of what is said. -/
structure Rdo (w W : World) (N D : Nat) (s x v : Int) (b : Bool) (ov : Value) (L : List Ot) : Prop where
  bel : Below N w W
  z : Cel W (N + 1) [.int .i64 0, .int .i64 0, .int .i64 0, .bool false, .slice none 0 0]
  f : Cel W (N + 2) [.int .i64 0]
  e : W.heap[N + 3]? = some (.cells #[.int .i64 s, .int .i64 x, .int .i64 v, .bool b, ov] 30)
  own : OwnO W (D + 2) ov L
  size : N + 4 ≤ W.heap.size
section
variable {w W W' : World} {N D : Nat} {s x v : Int} {b : Bool} {ov : Value} {L : List Ot}
theorem Rdo.aside {G : Nat → Prop} (h : Rdo w W N D s x v b ov L) (ha : Aside G W W') (hG : ∀ k, G k → N + 3 < k ∧ k < D + 2) : Rdo w W' N D s x v b ov L :=
  ⟨below_aside h.bel ha (fun k hk => ⟨by have := h.size; omega, fun hg => by have := hG k hg; omega⟩), h.z.aside (by simp) ha (fun hg => by have := hG _ hg; omega), h.f.aside (by simp) ha (fun hg => by have := hG _ hg; omega),
    (ha.block _ (Array.getElem?_eq_some_iff.mp h.e).1 (fun hg => by have := hG _ hg; omega)).trans h.e, row_aside h.own ha (fun k hk hg => by have := (World.ownsRow.lt h.own k hk).1; have := hG _ hg; omega), Nat.le_trans h.size ha.size⟩
theorem Rdo.later (h : Rdo w W N D s x v b ov L) (hb : Below W.heap.size W W') : Rdo w W' N D s x v b ov L := h.aside (Aside.of_all hb : Aside (fun _ => False) W W') fun _ h => h.elim
theorem heap_setCell_same {g : Nat} {a0 a1 a2 a3 a4 u : Value} {T : TypeId} (h : W.heap[g]? = some (.cells #[a0, a1, a2, a3, a4] T)) : (W.setCell ⟨g, 4, none⟩ u).heap[g]? = some (.cells #[a0, a1, a2, a3, u] T) := by
  have hl := (Array.getElem?_eq_some_iff.mp h).1
  have h2 := (Array.getElem?_eq_some_iff.mp h).2
  simp only [World.setCell]
  rw [Array.getElem?_eq_getElem (by simpa using hl), Array.getElem_modify, if_pos rfl, h2]
  rfl
theorem Rdo.cells (h : Rdo w W N D s x v b ov L) : W.cell? ⟨N + 3, 0, none⟩ = some (.int .i64 s) ∧ W.cell? ⟨N + 3, 1, none⟩ = some (.int .i64 x) ∧ W.cell? ⟨N + 3, 2, none⟩ = some (.int .i64 v) ∧ W.cell? ⟨N + 3, 3, none⟩ = some (.bool b) ∧ W.cell? ⟨N + 3, 4, none⟩ = some ov := by
  have h := h.e
  exact ⟨by simp [World.cell?, h], by simp [World.cell?, h], by simp [World.cell?, h], by simp [World.cell?, h], by simp [World.cell?, h]⟩
theorem Rdo.fz (h : Rdo w W N D s x v b ov L) (j : Nat) : W.frozen? ⟨N + 3, j, none⟩ = false := by
  have h := h.e
  simp [World.frozen?, h]
theorem row_not {B : Nat} {v : Value} {l : List Ot} (h : OwnO W B v l) {k : Nat} {o : Obj} (ho : W.heap[k]? = some o) (hf : IsF o) : v.ownBlock ≠ some k := by
  obtain ⟨cs, fz, rfl⟩ := hf
  intro he
  rcases h.2 with ⟨rfl, _⟩ | ⟨g, cap, cur, rfl, _, hg, _⟩
  · simp [Value.ownBlock] at he
  · have e : g = k := by simpa [Value.ownBlock] using he
    subst e
    rw [ho] at hg
    injection hg with hg
    injection hg with _ hg
    cases hg
/-- An option more. -/
theorem Rdo.app (h : Rdo w W N D s x v b ov L) {g : Nat} {y : Ot} (hD : D + 2 ≤ W.heap.size) (hND : N + 3 < D) (hc : W.heap[g]? = some (.cells #[.int .i64 y.c, .string (bs y.d)] 61)) (hl : L.length + 1 ≤ 1000000) :
    ∃ a c w6, (Builtin.append_ #[28, 28] 28 #[ov, .slice (some ⟨g, 0, none⟩) 1 1]).run Try.prog W = .ok (.slice a (L.length + 1) c) w6 ∧ w6.cell? ⟨N + 3, 4, none⟩ = some ov ∧ w6.frozen? ⟨N + 3, 4, none⟩ = false ∧
      Rdo w (w6.setCell ⟨N + 3, 4, none⟩ (.slice a (L.length + 1) c)) N D s x v b (.slice a (L.length + 1) c) (L ++ [y]) ∧
      Aside (fun k => k = N + 3 ∨ D + 2 ≤ k) W (w6.setCell ⟨N + 3, 4, none⟩ (.slice a (L.length + 1) c)) ∧
      ∀ (k : Nat) (o : Obj), W.heap[k]? = some o → IsF o → (w6.setCell ⟨N + 3, 4, none⟩ (.slice a (L.length + 1) c)).heap[k]? = some o := by
  have hg := (Array.getElem?_eq_some_iff.mp hc).1
  have hx : SO W (g + 1) (.slice (some ⟨g, 0, none⟩) 1 1) [y] := ⟨_, 1, rfl, by simp, fun h => by simp at h, fun _ => ⟨g, 0, rfl, by omega, fun i u hu => by
    rw [Nat.zero_add]
    match i, hu with
    | 0, hu => simpa [aco, co, World.cell?, hc] using hu
    | 1, hu => simpa [aco, co, World.cell?, hc] using hu
    | i + 2, hu => simp [aco, co] at hu⟩⟩
  obtain ⟨a, c, w6, h1, h2, h3, _⟩ := run_appOt h.own hx hl hD
  simp only [List.length_singleton] at h1 h2
  have hlt := World.ownsRow.lt h.own
  have h3' : Aside (fun k => D + 2 ≤ k) W w6 := h3.mono fun k _ hk => (hlt k hk).1
  have e6 : w6.heap[N + 3]? = _ := (h3'.block _ (by have := h.size; omega) (by omega)).trans h.e
  have hst : Aside (fun k => k = N + 3) w6 (w6.setCell ⟨N + 3, 4, none⟩ (.slice a (L.length + 1) c)) := Aside.setCell w6 (p := ⟨N + 3, 4, none⟩) _ rfl
  have hs6 := Nat.le_trans h.size h3'.size
  refine ⟨a, c, w6, h1, by simp [World.cell?, e6], by simp [World.frozen?, e6], ⟨?_, ?_, ?_, heap_setCell_same e6, row_aside h2 hst fun k hk hg => by have := (World.ownsRow.lt h2 k hk).1; omega, Nat.le_trans hs6 hst.size⟩, ?_, fun k o ho hf => ?_⟩
  · exact below_aside (below_aside h.bel h3' (fun k hk => ⟨by have := h.size; omega, by omega⟩)) hst (fun k hk => ⟨by omega, by omega⟩)
  · exact (h.z.aside (by simp) h3' (by omega)).other (a := ⟨N + 3, 4, none⟩) (by show N + 3 ≠ N + 1; omega) _
  · exact (h.f.aside (by simp) h3' (by omega)).other (a := ⟨N + 3, 4, none⟩) (by show N + 3 ≠ N + 2; omega) _
  · exact (h3'.mono fun _ _ h => .inr h).trans (hst.mono fun _ _ h => .inl h)
  · have hne : k ≠ N + 3 := by
      rintro rfl
      rw [h.e] at ho
      injection ho with ho
      subst ho
      obtain ⟨cs, fz, hf⟩ := hf
      injection hf with _ hf
      cases hf
    have hk := (Array.getElem?_eq_some_iff.mp ho).1
    have := (h3.block k hk (row_not h.own ho hf)).trans ho
    exact (hst.block k (Array.getElem?_eq_some_iff.mp this).1 hne).trans this
end

theorem yl_get {b : List UInt8} {n p k : Nat} {y : Yo} (h : (yl b n p)[k]? = some y) : (∃ hk : k < (otsR b n p).1.length, y = yOk ((otsR b n p).1[k]'hk)) ∨ (k = (otsR b n p).1.length ∧ (otsR b n p).2 = false ∧ y = yBad b.length) := by
  unfold yl at h
  rcases Nat.lt_or_ge k (otsR b n p).1.length with h1 | h1
  · left
    rw [List.getElem?_append_left (by rw [List.length_map]; exact h1), List.getElem?_map, List.getElem?_eq_getElem h1] at h
    injection h with h
    exact ⟨h1, h.symm⟩
  · right
    rw [List.getElem?_append_right (by rw [List.length_map]; exact h1), List.length_map] at h
    cases hc : (otsR b n p).2 with
    | true => rw [hc] at h; simp at h
    | false =>
      rw [hc] at h
      simp only [Bool.false_eq_true, if_false] at h
      have h0 : k - (otsR b n p).1.length = 0 := by
        rcases Nat.eq_zero_or_pos (k - (otsR b n p).1.length) with h2 | h2
        · exact h2
        · rw [List.getElem?_eq_none (by simp; omega)] at h; cases h
      rw [h0] at h
      injection h with h
      exact ⟨by omega, rfl, h.symm⟩
theorem yl_len (b : List UInt8) (n p : Nat) : (yl b n p).length ≤ (otsR b n p).1.length → (otsR b n p).2 = true := by
  intro h
  unfold yl at h
  rw [List.length_append, List.length_map] at h
  cases hc : (otsR b n p).2 with
  | true => rfl
  | false => rw [hc] at h; simp at h; omega
theorem otsR_len (b : List UInt8) : ∀ n p, (otsR b n p).1.length ≤ n
  | 0, _ => Nat.le_refl _
  | n + 1, p => by
    unfold otsR
    split
    · simp
    · split
      · simp
      · have := otsR_len b n
        simp
        exact this _

/-- What read tells. -/
def RdPost (w : World) (x : Rc) (e : Ending) (w' : World) : Prop := ∃ v, e = .returned (.tuple #[v, .int .i64 (recR x).2]) ∧ Egw w' w.heap.size v (recR x).1 ∧ Below w.heap.size w w'

set_option maxHeartbeats 4000000 in
theorem readx_any (x : Rc) (w : World) (hd : x.d.length ≤ 900000) :
    Calls Try.prog 32 #[.agg #[.string (bs x.n), .int .i64 x.t, .int .i64 x.c, .int .i64 x.l, .string (bs x.d)]] w (RdPost w x) := by
  obtain ⟨n, t, c, l, d⟩ := x
  simp only at hd ⊢
  have H1 := Lib.hid (fun wx => bounded_any c 65535 wx)
  have H2 := Lib.hid (fun wx => bounded_any l 2147483647 wx)
  obtain ⟨b1, hb1⟩ : ∃ b, bnd c 65535 = b := ⟨_, rfl⟩
  obtain ⟨b2, hb2⟩ : ∃ b, bnd l 2147483647 = b := ⟨_, rfl⟩
  rw [hb1] at H1
  rw [hb2] at H2
  by_cases hgood : n = [0] ∧ b1 = true ∧ b2 = true
  · obtain ⟨rfl, rfl, rfl⟩ := hgood
    have hlst : (bs [0]).toList = [0] := bs_list [0]
    have hB1 : 0 ≤ c ∧ c ≤ 65535 := by unfold bnd at hb1; simpa using hb1
    have hB2 : 0 ≤ l ∧ l ≤ 2147483647 := by unfold bnd at hb2; simpa using hb2
    obtain ⟨N, hN⟩ : ∃ N, w.heap.size = N := ⟨_, rfl⟩
    have ha1 := i64_and255 (l / 65536)
    have ha2 := i64_and1 (l / 32768)
    obtain ⟨B, hB⟩ : ∃ B, (l / 32768 % 2 == 1) = B := ⟨_, rfl⟩
    obtain ⟨X, hX⟩ : ∃ X, l / 16777216 = X := ⟨_, rfl⟩
    obtain ⟨Vv, hV⟩ : ∃ X, l / 65536 % 256 = X := ⟨_, rfl⟩
    rw [hV] at ha1
    have ha3 : (bits .and .i64 (l / 32768) 1 == 1) = B := by rw [ha2]; exact hB
    have hR1 : (recR ⟨[0], t, c, l, d⟩) = if (otsR d d.length 0).2 = true then (⟨c, X, Vv, B, (otsR d d.length 0).1⟩, 0) else (ed0, 4) := by
      have hBd : B = decide (l / 32768 % 2 = 1) := by rw [← hB]; rfl
      unfold recR
      simp only [hB1, hB2, and_self, true_and, hX, hV, ← hBd]
    unfold RdPost
    rw [hR1]
    obtain ⟨GL, hGL⟩ : ∃ x, (otsR d d.length 0).1 = x := ⟨_, rfl⟩
    obtain ⟨OKB, hOK⟩ : ∃ x, (otsR d d.length 0).2 = x := ⟨_, rfl⟩
    have HGL := Lib.hid (show GL.length ≤ 900000 by rw [← hGL]; exact Nat.le_trans (otsR_len _ _ _) hd)
    rw [hGL, hOK]
    obtain ⟨W0, hW0⟩ : ∃ Y, (((w.alloc (.cells #[.string (bs [0]), .int .i64 t, .int .i64 c, .int .i64 l, .string (bs d)] 48)).alloc (.cells #[.int .i64 0, .int .i64 0, .int .i64 0, .bool false, .slice none 0 0] 30)).alloc (.cells #[.int .i64 0] 31)).alloc (.cells #[.int .i64 c, .int .i64 X, .int .i64 Vv, .bool B, .slice none 0 0] 30) = Y := ⟨_, rfl⟩
    have s0 : W0.heap.size = N + 4 := by rw [← hW0]; simp [hN]
    have z0 : Cel W0 (N + 1) [.int .i64 0, .int .i64 0, .int .i64 0, .bool false, .slice none 0 0] := by
      rw [← hW0]
      have := ((cel_new (w.alloc (.cells #[.string (bs [0]), .int .i64 t, .int .i64 c, .int .i64 l, .string (bs d)] 48)) (.int .i64 0) (.int .i64 0) (.int .i64 0) (.bool false) (.slice none 0 0) 30).below (by simp) ((Below.refl _ _).alloc (Nat.le_refl _) (.cells #[.int .i64 0] 31))).below (by simp) ((Below.refl _ _).alloc (Nat.le_refl _) (.cells #[.int .i64 c, .int .i64 X, .int .i64 Vv, .bool B, .slice none 0 0] 30))
      rwa [World.size_alloc, hN] at this
    have f0 : Cel W0 (N + 2) [.int .i64 0] := by
      rw [← hW0]
      have := (cel_new1 ((w.alloc (.cells #[.string (bs [0]), .int .i64 t, .int .i64 c, .int .i64 l, .string (bs d)] 48)).alloc (.cells #[.int .i64 0, .int .i64 0, .int .i64 0, .bool false, .slice none 0 0] 30)) (.int .i64 0) 31).below (by simp) ((Below.refl _ _).alloc (Nat.le_refl _) (.cells #[.int .i64 c, .int .i64 X, .int .i64 Vv, .bool B, .slice none 0 0] 30))
      rwa [World.size_alloc, World.size_alloc, hN] at this
    have e0 : W0.heap[N + 3]? = some (.cells #[.int .i64 c, .int .i64 X, .int .i64 Vv, .bool B, .slice none 0 0] 30) := by
      rw [← hW0]
      have := World.alloc_heap_new (((w.alloc (.cells #[.string (bs [0]), .int .i64 t, .int .i64 c, .int .i64 l, .string (bs d)] 48)).alloc (.cells #[.int .i64 0, .int .i64 0, .int .i64 0, .bool false, .slice none 0 0] 30)).alloc (.cells #[.int .i64 0] 31)) (.cells #[.int .i64 c, .int .i64 X, .int .i64 Vv, .bool B, .slice none 0 0] 30)
      rwa [World.size_alloc, World.size_alloc, World.size_alloc, hN] at this
    have b0 : Below N w W0 := by
      rw [← hW0]
      exact ((((Below.refl _ _).alloc (by omega) _).alloc (by simp; omega) _).alloc (by simp; omega) _).alloc (by simp; omega) _
    obtain ⟨cap, W1, hconv, hob, hb1', _⟩ := conv_B W0 d (by omega)
    have s1 := hb1'.size
    obtain ⟨S1, hS1⟩ : ∃ x, W1.heap.size = x := ⟨_, rfl⟩
    have hsl := hob.sl
    rw [s0] at hconv hob s1 hsl
    rw [hS1] at s1 hsl
    have hP1 : Rdo w W1 N (S1 + 1) c X Vv B (.slice none 0 0) [] := ⟨b0.trans (hb1'.mono (by omega)), z0.below (by simp) hb1', f0.below (by simp) hb1', (hb1'.block _ (by omega)).trans e0, World.ownsRow_nil _ _ _ _, by omega⟩
    have hst : StO S1 (N + 4) S1 (.slice (some ⟨N + 4, 0, none⟩) d.length cap) d (W1.alloc (.cells #[.slice (some ⟨N + 4, 0, none⟩) d.length cap] 67)) := by
      have hba : Below W1.heap.size W1 (W1.alloc (.cells #[.slice (some ⟨N + 4, 0, none⟩) d.length cap] 67)) := (Below.refl _ _).alloc (Nat.le_refl _) _
      refine ⟨?_, hsl.below hba (by omega), by simp; omega, by simp; omega⟩
      have := (cel_new1 W1 (.slice (some ⟨N + 4, 0, none⟩) d.length cap) 67).c 0 (by simp)
      rw [hS1] at this
      exact this
    have HOP := Lib.hid (options_any (some ⟨N + 4, 0, none⟩) d.length cap W1)
    have HST := Lib.hid hst
    have HP := Lib.hid (hP1.later ((Below.refl _ _).alloc (Nat.le_refl _) (.cells #[.slice (some ⟨N + 4, 0, none⟩) d.length cap] 67)))
    have HSZ := Lib.hid (show N + 4 ≤ S1 from s1)
    rw [hS1] at HOP
    rw [← hW0] at hconv
    clear hW0 s0 hob hsl hP1 hst z0 f0 e0 b0 hb1' hB1 hB2 hb1 hb2 hR1 s1
    refine calls_of_wp_marks Try.func32 rfl ?_
    simp only [Try.ntmps32, List.size_toArray, List.length_cons, List.length_nil, Nat.reduceAdd, Nat.reduceSub, Array.replicate_succ,
       Array.replicate_zero, List.push_toArray, List.append_toArray, List.nil_append, List.cons_append]
    go_wp2_with fail
    refine (H1.out _).mono ?_; rintro e w2 ⟨rfl, rfl⟩
    go_wp2_with fail
    refine (H2.out _).mono ?_; rintro e w2 ⟨rfl, rfl⟩
    go_wp2_with fail
    refine HOP.out.mono ?_; rintro e w2 ⟨rfl, rfl⟩
    go_wp2_with fail
    obtain ⟨WL, hWL⟩ : ∃ x, W1.alloc (.cells #[.slice (some ⟨N + 4, 0, none⟩) d.length cap] 67) = x := ⟨_, rfl⟩
    have hWS : WL.heap.size = S1 + 1 := by rw [← hWL, World.size_alloc, hS1]
    rw [hWL] at HP HST ⊢
    clear hWL hconv H1 H2 ha1 ha2 ha3
    apply wp_rangeFunc_V (D := S1 + 1) (hD := hWS) (enc := encY) (ys := yl d d.length 0) (K := fun k => k = S1 ∨ (N + 4 ≤ k ∧ k < S1)) (G := fun _ => False) (H := IsF) (M := fun b => b = N + 1 ∨ b = N + 2 ∨ b = N + 3 ∨ S1 + 1 + 2 ≤ b) (fin := none) (hg := rfl)
      (eg := enters_of Try.func56 (by kernel_rfl) rfl) (hseq := opts_seq d S1 (N + 4) S1 (.slice (some ⟨N + 4, 0, none⟩) d.length cap) (by omega)) (hSt := HST.out)
      (wa := fun y W => (W.alloc (.cells #[.int .i64 y.c, .string (bs y.d)] 61)).alloc (.cells #[.int .i64 y.f, .int .i64 y.a] 76))
      (I := fun k W => k ≤ GL.length ∧ ∃ ov, Rdo w W N (S1 + 1) c X Vv B ov (GL.take k))
      (Ix := fun cc k W => cc = .ret ∧ OKB = false ∧ Below N w W ∧ Cel W (N + 1) [.int .i64 0, .int .i64 0, .int .i64 0, .bool false, .slice none 0 0] ∧ Cel W (N + 2) [.int .i64 4] ∧ N + 4 ≤ W.heap.size)
    case hassign =>
      intro li k y W K hk hK
      unfold encY
      gi_wp2
      exact hK
    case hHl =>
      rintro r ⟨cs, fz, h⟩
      cases h
    case hwa => exact fun y W => ((Below.refl _ _).alloc (Nat.le_refl _) _).alloc (by simp) _
    case hStK => exact fun A B h hk hs => h.kept hk hs
    case hK => intro b hb; have := HSZ.out; omega
    case hM => intro b hb; have := HSZ.out; omega
    case hGK => exact fun _ h => h.elim
    case hps => exact fun _ => rfl
    case hI =>
      rintro k A Bw ⟨h1, ov, h2⟩ ha
      exact ⟨h1, ov, h2.aside ha fun b hb => by have := HSZ.out; rcases hb with h | h | h; exact h.elim; omega; omega⟩
    case hIx =>
      rintro cc k A Bw ⟨h0, h1, h2, h3, h4, h5⟩ ha
      have hG : ∀ b, (False ∨ b = S1 + 1 ∨ b = S1 + 1 + 1) → N + 4 < b := fun b hb => by have := HSZ.out; rcases hb with h | h | h; exact h.elim; omega; omega
      exact ⟨h0, h1, below_aside h2 ha (fun k hk => ⟨by omega, fun hg => by have := hG k hg; omega⟩), h3.aside (by simp) ha (fun hg => by have := hG _ hg; omega), h4.aside (by simp) ha (fun hg => by have := hG _ hg; omega), Nat.le_trans h5 ha.size⟩
    case h0 => exact ⟨Nat.zero_le _, _, HP.out⟩
    case hbody =>
      rintro li k y W V o hy hs hV ⟨hk, ov, hR⟩
      obtain ⟨g, hg⟩ : ∃ x, W.heap.size = x := ⟨_, rfl⟩
      have hsV : V.heap.size = g + 2 := by rw [hV]; simp [hg]
      have v1 : V.heap[g]? = some (.cells #[.int .i64 y.c, .string (bs y.d)] 61) := by
        rw [hV]
        refine (World.putObj_heap_other (by omega)).trans ?_
        have := World.alloc_heap_new W (.cells #[.int .i64 y.c, .string (bs y.d)] 61)
        rw [hg] at this
        exact (Below.heap_alloc _ _ _ (by simp; omega)).trans this
      have v2 : V.heap[g + 1]? = some (.cells #[.int .i64 y.f, .int .i64 y.a] 76) := by
        rw [hV]
        refine (World.putObj_heap_other (by omega)).trans ?_
        have := World.alloc_heap_new (W.alloc (.cells #[.int .i64 y.c, .string (bs y.d)] 61)) (.cells #[.int .i64 y.f, .int .i64 y.a] 76)
        rwa [World.size_alloc, hg] at this
      have q0 : V.cell? ⟨g, 0, none⟩ = some (.int .i64 y.c) := by simp [World.cell?, v1]
      have q1 : V.cell? ⟨g, 1, none⟩ = some (.string (bs y.d)) := by simp [World.cell?, v1]
      have p0 : V.cell? ⟨g + 1, 0, none⟩ = some (.int .i64 y.f) := by simp [World.cell?, v2]
      have hgD : S1 + 1 + 2 ≤ g := by omega
      clear hV v1 v2 hs
      rcases yl_get hy with ⟨hk2, rfl⟩ | ⟨hke, hbad, rfl⟩
      · have hkG : k < GL.length := by rw [← hGL]; exact hk2
        have hxe : (otsR d d.length 0).1[k]'hk2 = GL[k] := by simp only [hGL]
        obtain ⟨x, hx⟩ : ∃ x, (otsR d d.length 0).1[k]'hk2 = x := ⟨_, rfl⟩
        rw [hx] at q0 q1 p0 hxe ⊢
        have HTK := Lib.hid (show GL.take (k + 1) = GL.take k ++ [x] by rw [List.take_add_one, List.getElem?_eq_getElem hkG, hxe]; rfl)
        have r0 : V.cell? ⟨g, 0, none⟩ = some (.int .i64 x.c) := q0
        have r1 : V.cell? ⟨g, 1, none⟩ = some (.string (bs x.d)) := q1
        have r2 : V.cell? ⟨g + 1, 0, none⟩ = some (.int .i64 0) := p0
        have htl : (GL.take k).length = k := by rw [List.length_take]; omega
        have hRn := hR.later ((Below.refl _ _).alloc (Nat.le_refl _) (.cells #[.int .i64 x.c, .string (bs x.d)] 61))
        obtain ⟨a6, c6, w6, h1, hc6, hf6, hR2, hA, hH⟩ := hRn.app (g := V.heap.size) (y := x) (by simp; omega) (by have := HSZ.out; omega) (World.alloc_heap_new V _) (by have := HGL.out; omega)
        rw [htl] at h1 hR2 hA hH
        obtain ⟨oa, oc, rfl⟩ := row_shape hR.own
        obtain ⟨_, _, _, _, e4⟩ := hR.cells
        try rw [htl] at h1
        try rw [htl] at e4
        try rw [htl] at hc6
        have hAl : Aside (fun b => b = N + 1 ∨ b = N + 2 ∨ b = N + 3 ∨ S1 + 1 + 2 ≤ b) V (V.alloc (.cells #[.int .i64 x.c, .string (bs x.d)] 61)) := Aside.alloc _ _
        have HI := Lib.hid (show Aside (fun b => b = N + 1 ∨ b = N + 2 ∨ b = N + 3 ∨ S1 + 1 + 2 ≤ b) V (w6.setCell ⟨N + 3, 4, none⟩ (.slice a6 (k + 1) c6)) ∧ (∀ (b : Nat) (o : Obj), V.heap[b]? = some o → IsF o → (w6.setCell ⟨N + 3, 4, none⟩ (.slice a6 (k + 1) c6)).heap[b]? = some o) ∧ (k + 1 ≤ GL.length ∧ ∃ ov, Rdo w (w6.setCell ⟨N + 3, 4, none⟩ (.slice a6 (k + 1) c6)) N (S1 + 1) c X Vv B ov (GL.take (k + 1))) from
          ⟨hAl.trans (hA.mono fun b _ hb => by omega), fun b o hb ho => hH b o ((Below.heap_alloc _ _ _ (Array.getElem?_eq_some_iff.mp hb).1).trans hb) ho, hkG, _, by rw [HTK.out]; exact hR2⟩)
        rw [hsV] at h1
        have HR1 := Lib.hid h1
        clear hR hy hx hxe hk2 htl hRn h1 hR2 hA hH hAl q0 q1 p0 hkG
        gi_wp2_with (gi_at_builtin; refine wpListIn_append_run (.tmp 51) (.tmp 53) 28 28 rfl rfl rfl rfl HR1.out ?_)
        exact ⟨HI.out.1, HI.out.2.1, HI.out.2.2⟩
      · have r2 : V.cell? ⟨g + 1, 0, none⟩ = some (.int .i64 4) := p0
        obtain ⟨z0, z1, z2, z3, z4⟩ := hR.z.five
        have fz := hR.z.fz
        have f0 : V.cell? ⟨N + 2, 0, none⟩ = some (.int .i64 0) := hR.f.c 0 (by simp)
        have ff := hR.f.fz
        have HRr := Lib.hid hR
        have HBAD := Lib.hid (show OKB = false by rw [← hOK]; exact hbad)
        have n1 : N + 1 ≠ g + 1 := by have := HSZ.out; omega
        have n2 : g + 1 ≠ N + 1 := by have := HSZ.out; omega
        have n3 : N + 2 ≠ g + 1 := by have := HSZ.out; omega
        have n4 : g + 1 ≠ N + 2 := by have := HSZ.out; omega
        clear hR hy hke hbad q0 q1 p0
        gi_wp2_with fail
        have st : ∀ (x : World) (q o : Nat) (v : Value), Aside (fun k => k = q) x (x.setCell ⟨q, o, none⟩ v) := fun x q o v => Aside.setCell x (p := ⟨q, o, none⟩) v rfl
        have ha1 := aside_put5 V (N + 1) (.int .i64 0) (.int .i64 0) (.int .i64 0) (.bool false) (.slice none 0 0)
        have ha2 := st (put5 V (N + 1) (.int .i64 0) (.int .i64 0) (.int .i64 0) (.bool false) (.slice none 0 0)) (N + 1 + 1) 0 (.int .i64 4)
        have hbd : Below ((put5 V (N + 1) (.int .i64 0) (.int .i64 0) (.int .i64 0) (.bool false) (.slice none 0 0)).setCell ⟨N + 1 + 1, 0, none⟩ (.int .i64 4)).heap.size ((put5 V (N + 1) (.int .i64 0) (.int .i64 0) (.int .i64 0) (.bool false) (.slice none 0 0)).setCell ⟨N + 1 + 1, 0, none⟩ (.int .i64 4)) ((put5 V (N + 1) (.int .i64 0) (.int .i64 0) (.int .i64 0) (.bool false) (.slice none 0 0)).setCell ⟨N + 1 + 1, 0, none⟩ (.int .i64 4)).drew := (Below.refl _ _).drew
        have hsv := HRr.out.size
        have hs1 := ha1.size
        have hs2 := ha2.size
        have c1 := (cel_put5 HRr.out.z (.int .i64 0) (.int .i64 0) (.int .i64 0) (.bool false) (.slice none 0 0)).aside (by simp) ha2 (by omega)
        have c2 := (HRr.out.f.aside (by simp) ha1 (by omega)).set (o := 0) (by simp) (.int .i64 4)
        have HFIN := Lib.hid (show Aside (fun b => b = N + 1 ∨ b = N + 2 ∨ b = N + 3 ∨ S1 + 1 + 2 ≤ b) V ((put5 V (N + 1) (.int .i64 0) (.int .i64 0) (.int .i64 0) (.bool false) (.slice none 0 0)).setCell ⟨N + 1 + 1, 0, none⟩ (.int .i64 4)).drew ∧ (Code.ret = Code.ret ∧ OKB = false ∧ Below N w ((put5 V (N + 1) (.int .i64 0) (.int .i64 0) (.int .i64 0) (.bool false) (.slice none 0 0)).setCell ⟨N + 1 + 1, 0, none⟩ (.int .i64 4)).drew ∧
            Cel ((put5 V (N + 1) (.int .i64 0) (.int .i64 0) (.int .i64 0) (.bool false) (.slice none 0 0)).setCell ⟨N + 1 + 1, 0, none⟩ (.int .i64 4)).drew (N + 1) [.int .i64 0, .int .i64 0, .int .i64 0, .bool false, .slice none 0 0] ∧ Cel ((put5 V (N + 1) (.int .i64 0) (.int .i64 0) (.int .i64 0) (.bool false) (.slice none 0 0)).setCell ⟨N + 1 + 1, 0, none⟩ (.int .i64 4)).drew (N + 2) [.int .i64 4] ∧
            N + 4 ≤ ((put5 V (N + 1) (.int .i64 0) (.int .i64 0) (.int .i64 0) (.bool false) (.slice none 0 0)).setCell ⟨N + 1 + 1, 0, none⟩ (.int .i64 4)).drew.heap.size) from
          ⟨((ha1.mono fun b _ hb => .inl hb).trans (ha2.mono fun b _ hb => by omega)).trans (Aside.of_all hbd), rfl, HBAD.out, (below_aside (below_aside HRr.out.bel ha1 (fun k hk => ⟨by omega, by omega⟩)) ha2 (fun k hk => ⟨by omega, by omega⟩)).drew, c1.below (by simp) hbd, c2.below (by simp) hbd, by have := hbd.size; omega⟩)
        unfold put5 at HFIN
        clear st ha1 ha2 hbd hsv hs1 hs2 c1 c2 HRr HBAD
        gi_region
        all_goals gi_wp2_with fail
        all_goals exact ⟨HFIN.out.1, rfl, HFIN.out.2.2⟩
    case hdone =>
      rintro _ W ⟨hk, ov, hR⟩ hsz hD
      have hok : OKB = true := by rw [← hOK]; exact yl_len _ _ _ (by rw [hGL]; exact hk)
      have htk : GL.take (yl d d.length 0).length = GL := by
        refine List.take_of_length_le ?_
        unfold yl
        rw [List.length_append, List.length_map, hGL]
        omega
      rw [htk] at hR
      obtain ⟨oa, oc, rfl⟩ := row_shape hR.own
      have HRr := Lib.hid hR
      have HDD := Lib.hid hD
      obtain ⟨x0, x1, x2, x3, x4⟩ := hR.cells
      obtain ⟨z0, z1, z2, z3, z4⟩ := hR.z.five
      have fz := hR.z.fz
      have f0 : W.cell? ⟨N + 2, 0, none⟩ = some (.int .i64 0) := hR.f.c 0 (by simp)
      have ff := hR.f.fz
      clear hR hD htk
      go_wp2_with fail
      clear x0 x1 x2 x3 x4 z0 z1 z2 z3 z4 fz f0 ff
      have st : ∀ (x : World) (q o : Nat) (v : Value), Aside (fun k => k = q) x (x.setCell ⟨q, o, none⟩ v) := fun x q o v => Aside.setCell x (p := ⟨q, o, none⟩) v rfl
      have hN4 := HSZ.out
      have ha1 := aside_put5 W (N + 1) (.int .i64 c) (.int .i64 X) (.int .i64 Vv) (.bool B) (.slice oa GL.length oc)
      have ha2 := st (put5 W (N + 1) (.int .i64 c) (.int .i64 X) (.int .i64 Vv) (.bool B) (.slice oa GL.length oc)) (N + 1 + 1) 0 (.int .i64 0)
      have ha3 : Aside (fun b => b = S1 + 1) ((put5 W (N + 1) (.int .i64 c) (.int .i64 X) (.int .i64 Vv) (.bool B) (.slice oa GL.length oc)).setCell ⟨N + 1 + 1, 0, none⟩ (.int .i64 0)) (((put5 W (N + 1) (.int .i64 c) (.int .i64 X) (.int .i64 Vv) (.bool B) (.slice oa GL.length oc)).setCell ⟨N + 1 + 1, 0, none⟩ (.int .i64 0)).putObj (S1 + 1) (.deferred none)) := Aside.putObj _ _ rfl
      have hs1 := ha1.size
      have hs2 := ha2.size
      have c1 := ((cel_put5 HRr.out.z (.int .i64 c) (.int .i64 X) (.int .i64 Vv) (.bool B) (.slice oa GL.length oc)).aside (by simp) ha2 (by omega)).aside (by simp) ha3 (by omega)
      have c2 := ((HRr.out.f.aside (by simp) ha1 (by omega)).set (o := 0) (by simp) (.int .i64 0)).aside (by simp) ha3 (by omega)
      have hrow := row_aside (row_aside (row_aside HRr.out.own ha1 fun k hk hg => by have := (World.ownsRow.lt HRr.out.own k hk).1; omega) ha2 fun k hk hg => by have := (World.ownsRow.lt HRr.out.own k hk).1; omega) ha3 fun k hk hg => by have := (World.ownsRow.lt HRr.out.own k hk).1; omega
      have hbF := below_aside (below_aside (below_aside HRr.out.bel ha1 (fun k hk => ⟨by have := HRr.out.size; omega, by omega⟩)) ha2 (fun k hk => ⟨by have := HRr.out.size; omega, by omega⟩)) ha3 (fun k hk => ⟨by have := HRr.out.size; omega, by omega⟩)
      have hDf := (ha2.block (S1 + 1) (by omega) (by omega)).trans ((ha1.block (S1 + 1) (by omega) (by omega)).trans HDD.out)
      obtain ⟨m0, m1, m2, m3, m4⟩ := c1.five
      have m5 := c2.c 0 (by simp)
      unfold put5 at m0 m1 m2 m3 m4 m5 hrow hbF hDf
      refine marks_ret hDf (.tuple #[.agg #[.int .i64 c, .int .i64 X, .int .i64 Vv, .bool B, .slice oa GL.length oc], .int .i64 0]) (by simp [results, Try.results32, go_sem, m0, m1, m2, m3, m4, m5]) ?_
      try rw [if_pos hok]
      have hgl9 := HGL.out
      exact ⟨_, rfl, ⟨_, rfl, by first | exact row_base hrow (by omega) | (rw [hN]; exact row_base hrow (by omega))⟩, by first | exact hbF | (rw [hN]; exact hbF)⟩
    case hstop =>
      rintro cc k W hk ⟨rfl, hbad, hb, hz, hf, hsz⟩ hD
      have hN4 := HSZ.out
      have ha3 : Aside (fun b => b = S1 + 1) W (W.putObj (S1 + 1) (.deferred none)) := Aside.putObj _ _ rfl
      obtain ⟨m0, m1, m2, m3, m4⟩ := (hz.aside (by simp) ha3 (by omega)).five
      have m5 : (W.putObj (S1 + 1) (.deferred none)).cell? ⟨N + 1 + 1, 0, none⟩ = some (.int .i64 4) := (hf.aside (by simp) ha3 (by omega)).c 0 (by simp)
      have hbF := below_aside hb ha3 (fun k hk => ⟨by omega, by omega⟩)
      refine wp_ret (marks_ret hD (.tuple #[.agg #[.int .i64 0, .int .i64 0, .int .i64 0, .bool false, .slice none 0 0], .int .i64 4]) (by simp [results, Try.results32, go_sem, m0, m1, m2, m3, m4, m5]) ?_)
      try rw [hbad, if_neg (by simp)]
      exact ⟨_, rfl, egw_zero _ _, by first | exact hbF | (rw [hN]; exact hbF)⟩
    case hpanic => exact fun ch h => by cases h
  · have hR1 : recR ⟨n, t, c, l, d⟩ = (ed0, 4) := by
      unfold recR
      rw [if_neg]
      rintro ⟨h1, h2, h3, _⟩
      refine hgood ⟨h1, ?_, ?_⟩
      · rw [← hb1]; unfold bnd; simp [h2.1, h2.2]
      · rw [← hb2]; unfold bnd; simp [h3.1, h3.2]
    unfold RdPost
    rw [hR1]
    clear hR1
    by_cases hn : n = [0]
    · subst hn
      have hlst : (bs [0]).toList = [0] := bs_list [0]
      cases b1 with
      | false =>
        clear hgood
        go_enter Try.func32, Try.ntmps32
        go_wp2_with fail
        refine (H1.out _).mono ?_; rintro e w2 ⟨rfl, rfl⟩
        go_wp2_with fail
        refine bodyPost_ret (v := .tuple #[.agg #[.int .i64 0, .int .i64 0, .int .i64 0, .bool false, .slice none 0 0], .int .i64 4]) (by simp [results, Try.results32, go_sem]) rfl ?_
        exact ⟨_, rfl, egw_zero _ _, (((Below.refl _ _).alloc (Nat.le_refl _) _).alloc (by simp) _).alloc (by simp; omega) _⟩
      | true =>
        cases b2 with
        | true => exact absurd ⟨rfl, rfl, rfl⟩ hgood
        | false =>
          clear hgood
          go_enter Try.func32, Try.ntmps32
          go_wp2_with fail
          refine (H1.out _).mono ?_; rintro e w2 ⟨rfl, rfl⟩
          go_wp2_with fail
          refine (H2.out _).mono ?_; rintro e w2 ⟨rfl, rfl⟩
          go_wp2_with fail
          refine bodyPost_ret (v := .tuple #[.agg #[.int .i64 0, .int .i64 0, .int .i64 0, .bool false, .slice none 0 0], .int .i64 4]) (by simp [results, Try.results32, go_sem]) rfl ?_
          exact ⟨_, rfl, egw_zero _ _, (((Below.refl _ _).alloc (Nat.le_refl _) _).alloc (by simp) _).alloc (by simp; omega) _⟩
    · have hlst : ((bs n).toList == [0]) = false := by rw [bs_list]; simpa using hn
      clear hgood
      go_enter Try.func32, Try.ntmps32
      go_wp2_with fail
      refine bodyPost_ret (v := .tuple #[.agg #[.int .i64 0, .int .i64 0, .int .i64 0, .bool false, .slice none 0 0], .int .i64 4]) (by simp [results, Try.results32, go_sem]) rfl ?_
      exact ⟨_, rfl, egw_zero _ _, (((Below.refl _ _).alloc (Nat.le_refl _) _).alloc (by simp) _).alloc (by simp; omega) _⟩
end Go.Proofs.Ytcjgbholgbjejaa

/-
  What a message says besides, its whole code, how many bytes its sender takes: Of, Code, Room.
-/
namespace Go.Proofs.Ytcjgbholgbjejaa
open Go.RowKit Go.Shelf
set_option linter.unusedVariables false
set_option linter.unusedSimpArgs false
set_option maxRecDepth 100000

/-- A message in its box, and the answer's. -/
structure Of2 (w wr : World) (N : Nat) (i f : Int) (q a n r : Value) : Prop where
  bel : Below N w wr
  x : Cel wr N [.int .i64 i, .int .i64 f, q, a, n, r]
  z : Cel wr (N + 1) [.int .i64 0, .int .i64 0, .int .i64 0, .bool false, .slice none 0 0]
  size : N + 2 ≤ wr.heap.size
section
variable {w wr w' : World} {N : Nat} {i f : Int} {q a n r : Value}
theorem Of2.later (h : Of2 w wr N i f q a n r) (hb : Below wr.heap.size wr w') : Of2 w w' N i f q a n r :=
  ⟨below_aside h.bel (Aside.of_all hb : Aside (fun _ => False) wr w') (fun k hk => ⟨by have := h.size; omega, id⟩), h.x.below (by simp) hb, h.z.below (by simp) hb, Nat.le_trans h.size hb.size⟩
theorem of2_start (w : World) (i f : Int) (q a n r : Value) (hN : w.heap.size = N) :
    Of2 w ((w.alloc (.cells #[.int .i64 i, .int .i64 f, q, a, n, r] 25)).alloc (.cells #[.int .i64 0, .int .i64 0, .int .i64 0, .bool false, .slice none 0 0] 30)) N i f q a n r := by
  subst hN
  have hz := cel_new (w.alloc (.cells #[.int .i64 i, .int .i64 f, q, a, n, r] 25)) (.int .i64 0) (.int .i64 0) (.int .i64 0) (.bool false) (.slice none 0 0) 30
  rw [World.size_alloc] at hz
  exact ⟨((Below.refl _ _).alloc (Nat.le_refl _) _).alloc (by simp) _, (cel_new6 w (.int .i64 i) (.int .i64 f) q a n r 25).below (by simp) ((Below.refl _ _).alloc (Nat.le_refl _) _), hz, by simp⟩
theorem Of2.fin (h : Of2 w wr N i f q a n r) (v0 v1 v2 v3 v4 : Value) : Below N w (put5 wr (N + 1) v0 v1 v2 v3 v4) ∧ Cel (put5 wr (N + 1) v0 v1 v2 v3 v4) (N + 1) [v0, v1, v2, v3, v4] ∧ Aside (fun k => k = N + 1) wr (put5 wr (N + 1) v0 v1 v2 v3 v4) :=
  ⟨below_aside h.bel (aside_put5 _ _ _ _ _ _ _) (fun k hk => ⟨by have := h.size; omega, by omega⟩), cel_put5 h.z _ _ _ _ _, aside_put5 _ _ _ _ _ _ _⟩
end

/-- What Of tells. -/
def OfPost (w : World) (m : Ms) (e : Ending) (w' : World) : Prop := ∃ v, e = .returned (.tuple #[v, .bool (ofM m).2.1, .int .i64 (ofM m).2.2]) ∧ Egw w' w.heap.size v (ofM m).1 ∧ Below w.heap.size w w'
theorem opL_len (l : List Rc) : (opL l).length ≤ l.length := List.length_filter_le _ _
theorem opL_mem {l : List Rc} {x : Rc} (h : x ∈ opL l) : x ∈ l := (List.mem_filter.mp h).1

/-- What is told of so many records elsewhere, and these here. -/
def ofL (s : Nat) (L : List Rc) : Ed × Bool × Int :=
  if s = 0 ∧ L = [] then (ed0, false, 0)
  else match s, L with
    | 0, [x] => ((recR x).1, decide ((recR x).2 = 0), (recR x).2)
    | _, _ => (ed0, false, 4)
theorem ofL_none : ofL 0 [] = (ed0, false, 0) := rfl
theorem ofL_one (x : Rc) : ofL 0 [x] = ((recR x).1, decide ((recR x).2 = 0), (recR x).2) := rfl
theorem ofL_bad {s : Nat} {L : List Rc} (h0 : ¬ (s = 0 ∧ L = [])) (h1 : ¬ (s = 0 ∧ L.length = 1)) : ofL s L = (ed0, false, 4) := by
  unfold ofL
  rw [if_neg h0]
  match s, L with
  | 0, [] => exact absurd ⟨rfl, rfl⟩ h0
  | 0, [x] => exact absurd ⟨rfl, rfl⟩ h1
  | 0, _ :: _ :: _ => rfl
  | _ + 1, _ => rfl

set_option maxHeartbeats 4000000 in
theorem of_any {w : World} {hi : Nat} {u : Value} {m : Ms} (h : Mg w hi u m) (h1 : hi ≤ w.heap.size) (hm : Mild m) :
    Calls Try.prog 9 #[u] w (OfPost w m) := by
  obtain ⟨i0, f0, l, lan, lns, lar⟩ := m
  obtain ⟨q, a, n, r, rfl, hq, h2, h3, h4⟩ := h
  have hl := hm.1
  have hmd := hm.2.2.2.2
  unfold OfPost
  rw [show ofM ⟨i0, f0, l, lan, lns, lar⟩ = ofL ((opL lan).length + (opL lns).length) (opL lar) from rfl]
  simp only at hl hmd hq h2 h3 h4 ⊢
  obtain ⟨N, hN⟩ : ∃ g, w.heap.size = g := ⟨_, rfl⟩
  have HCA := Lib.hid (fun wx (hb : Below N w wx) => opts_any (Lst.below h2 hb (by omega)) (Nat.le_trans (by omega : hi ≤ N) (by have := hb.size; omega)) (by omega))
  have HCN := Lib.hid (fun wx (hb : Below N w wx) => opts_any (Lst.below h3 hb (by omega)) (Nat.le_trans (by omega : hi ≤ N) (by have := hb.size; omega)) (by omega))
  have HCR := Lib.hid (fun wx (hb : Below N w wx) => opts_any (Lst.below h4 hb (by omega)) (Nat.le_trans (by omega : hi ≤ N) (by have := hb.size; omega)) (by omega))
  have hoa := opL_len lan
  have hon := opL_len lns
  have hor := opL_len lar
  have HMD := Lib.hid (show ∀ x ∈ opL lar, x.d.length ≤ 900000 from fun x hx => (hmd x (opL_mem hx)).2)
  obtain ⟨xa, xc, rfl⟩ := Lst.shape hq
  obtain ⟨aa, ac, rfl⟩ := Lst.shape h2
  obtain ⟨na, nc, rfl⟩ := Lst.shape h3
  obtain ⟨ra, rc, rfl⟩ := Lst.shape h4
  obtain ⟨la, hla⟩ : ∃ i, lan.length = i := ⟨_, rfl⟩
  obtain ⟨ln, hln⟩ : ∃ i, lns.length = i := ⟨_, rfl⟩
  obtain ⟨lr, hlr⟩ : ∃ i, lar.length = i := ⟨_, rfl⟩
  obtain ⟨lq, hlq⟩ : ∃ i, l.length = i := ⟨_, rfl⟩
  obtain ⟨LA, hLA⟩ : ∃ i, opL lan = i := ⟨_, rfl⟩
  obtain ⟨LN, hLN⟩ : ∃ i, opL lns = i := ⟨_, rfl⟩
  obtain ⟨LR, hLR⟩ : ∃ i, opL lar = i := ⟨_, rfl⟩
  rw [hla, hLA] at HCA
  rw [hln, hLN] at HCN
  rw [hlr, hLR] at HCR
  rw [hLR] at HMD
  rw [hLA, hLN, hLR, hla, hln, hlr, hlq]
  rw [hla, hLA] at hoa
  rw [hln, hLN] at hon
  rw [hlr, hLR] at hor
  rw [hla, hln, hlr, hlq] at hl
  obtain ⟨kA, hkA⟩ : ∃ i, LA.length = i := ⟨_, rfl⟩
  obtain ⟨kN, hkN⟩ : ∃ i, LN.length = i := ⟨_, rfl⟩
  obtain ⟨kR, hkR⟩ : ∃ i, LR.length = i := ⟨_, rfl⟩
  rw [hkA, hkN]
  obtain ⟨RE, hRE⟩ : ∃ x, ofL (kA + kN) LR = x := ⟨_, rfl⟩
  rw [hRE]
  rw [hkA] at hoa
  rw [hkN] at hon
  rw [hkR] at hor
  have HB := Lib.hid (show kA ≤ 900000 ∧ kN ≤ 900000 ∧ kR ≤ 900000 by omega)
  have HKA := Lib.hid hkA
  have HKN := Lib.hid hkN
  have HKR := Lib.hid hkR
  have hw1 : IntKind.i64.wrap ((kA : Int) + kN) = (kA : Int) + kN := wr64 _ (by omega) (by omega)
  have HP := Lib.hid ((of2_start w i0 f0 (.slice xa lq xc) (.slice aa la ac) (.slice na ln nc) (.slice ra lr rc) hN).later (Below.refl _ _).drew)
  clear hq h2 h3 h4 h1 hm hl hmd hla hln hlr hlq hLA hLN hLR hoa hon hor hkA hkN hkR
  go_enter Try.func9, Try.ntmps9
  go_wp2_with fail
  refine wp_region_held_drew (S := (fun wx => wx.cell? ⟨N, 3, none⟩ = some (.slice aa la ac) ∧ wx.cell? ⟨N, 4, none⟩ = some (.slice na ln nc) ∧ wx.cell? ⟨N, 5, none⟩ = some (.slice ra lr rc))) (by kernel_rfl) ⟨HP.out.x.c 3 (by simp), HP.out.x.c 4 (by simp), HP.out.x.c 5 (by simp)⟩ (fun hHeld => ?_)
  refine wpAnyH_take (i := 0) (oi := { dst := some 9, op := Op.fieldAddr 25 (Operand.tmp 1) 3, type := 0, pos := "edns.go:25", after := #[], guard := none }) (v := ?_) rfl (by kernel_rfl) (by kernel_rfl) (by kernel_rfl) (fun _ _ _ h => h) (Or.inl ⟨by rfl, ?_⟩) (by assumption) ?_
  rotate_left 1
  · intro w hSw; (try dsimp only at hSw); go_simp; try (with_reducible rfl)
  try simp only [Act.put, List.setIfInBounds_toArray, List.set_cons_zero, List.set_cons_succ]
  refine wpAnyH_take (i := 1) (oi := { dst := some 10, op := Op.load 23 (Operand.tmp 9), type := 23, pos := "edns.go:25", after := #[{ on := 0, ground := Ground.data }], guard := none }) (v := ?_) rfl (by kernel_rfl) (by kernel_rfl) (by kernel_rfl) (fun _ _ _ h => h) (Or.inl ⟨by rfl, ?_⟩) (by assumption) ?_
  rotate_left 1
  · intro w hSw; (try dsimp only at hSw); go_simp; try (with_reducible rfl)
  try simp only [Act.put, List.setIfInBounds_toArray, List.set_cons_zero, List.set_cons_succ]
  refine wpAnyH_take (i := 4) (oi := { dst := some 13, op := Op.fieldAddr 25 (Operand.tmp 1) 4, type := 0, pos := "edns.go:25", after := #[], guard := none }) (v := ?_) rfl (by kernel_rfl) (by kernel_rfl) (by kernel_rfl) (fun _ _ _ h => h) (Or.inl ⟨by rfl, ?_⟩) (by assumption) ?_
  rotate_left 1
  · intro w hSw; (try dsimp only at hSw); go_simp; try (with_reducible rfl)
  try simp only [Act.put, List.setIfInBounds_toArray, List.set_cons_zero, List.set_cons_succ]
  refine wpAnyH_take (i := 5) (oi := { dst := some 14, op := Op.load 23 (Operand.tmp 13), type := 23, pos := "edns.go:25", after := #[{ on := 4, ground := Ground.data }], guard := none }) (v := ?_) rfl (by kernel_rfl) (by kernel_rfl) (by kernel_rfl) (fun _ _ _ h => h) (Or.inl ⟨by rfl, ?_⟩) (by assumption) ?_
  rotate_left 1
  · intro w hSw; (try dsimp only at hSw); go_simp; try (with_reducible rfl)
  try simp only [Act.put, List.setIfInBounds_toArray, List.set_cons_zero, List.set_cons_succ]
  refine wpAnyH_take (i := 9) (oi := { dst := some 18, op := Op.fieldAddr 25 (Operand.tmp 1) 5, type := 0, pos := "edns.go:25", after := #[], guard := none }) (v := ?_) rfl (by kernel_rfl) (by kernel_rfl) (by kernel_rfl) (fun _ _ _ h => h) (Or.inl ⟨by rfl, ?_⟩) (by assumption) ?_
  rotate_left 1
  · intro w hSw; (try dsimp only at hSw); go_simp; try (with_reducible rfl)
  try simp only [Act.put, List.setIfInBounds_toArray, List.set_cons_zero, List.set_cons_succ]
  refine wpAnyH_take (i := 10) (oi := { dst := some 19, op := Op.load 23 (Operand.tmp 18), type := 23, pos := "edns.go:25", after := #[{ on := 9, ground := Ground.data }], guard := none }) (v := ?_) rfl (by kernel_rfl) (by kernel_rfl) (by kernel_rfl) (fun _ _ _ h => h) (Or.inl ⟨by rfl, ?_⟩) (by assumption) ?_
  rotate_left 1
  · intro w hSw; (try dsimp only at hSw); go_simp; try (with_reducible rfl)
  try simp only [Act.put, List.setIfInBounds_toArray, List.set_cons_zero, List.set_cons_succ]
  refine wpAnyH_ready (rs := [2]) (by kernel_rfl) (by simp) ?_
  refine AllReadyH.cons (o := { dst := some 11, op := Op.call { callee := Callee.value (Operand.func 31), args := #[Operand.tmp 10], argTypes := #[23] }, type := 23, pos := "edns.go:25", after := #[{ on := 1, ground := Ground.data }], guard := none }) rfl (fun K hK => ?_) (AllReadyH.nil)
  go_simp
  refine (HCA.out _ HP.out.bel).mono ?_; rintro e w1 ⟨vva, rfl, ho, hb⟩
  obtain ⟨ava, cva, rfl⟩ := ho.shape
  rw [HKA.out]
  have HRR := Lib.hid ho
  replace HP := Lib.hid (HP.out.later hb)
  clear ho hb
  try go_wp2_with fail
  refine hK.out _ _ ⟨HP.out.x.c 3 (by simp), HP.out.x.c 4 (by simp), HP.out.x.c 5 (by simp)⟩ (fun hHeld => ?_)
  clear hK K
  try simp only [Act.put, List.setIfInBounds_toArray, List.set_cons_zero, List.set_cons_succ]
  refine wpAnyH_take (i := 3) (oi := { dst := some 12, op := Op.call { callee := Callee.builtin Builtin.len, args := #[Operand.tmp 11], argTypes := #[23] }, type := 3, pos := "edns.go:25", after := #[{ on := 2, ground := Ground.data }], guard := none }) (v := ?_) rfl (by kernel_rfl) (by kernel_rfl) (by kernel_rfl) (fun _ _ _ h => h) (Or.inl ⟨by rfl, ?_⟩) (by assumption) ?_
  rotate_left 1
  · intro w hSw; (try dsimp only at hSw); go_simp; try (with_reducible rfl)
  try simp only [Act.put, List.setIfInBounds_toArray, List.set_cons_zero, List.set_cons_succ]
  refine wpAnyH_ready (rs := [6]) (by kernel_rfl) (by simp) ?_
  refine AllReadyH.cons (o := { dst := some 15, op := Op.call { callee := Callee.value (Operand.func 31), args := #[Operand.tmp 14], argTypes := #[23] }, type := 23, pos := "edns.go:25", after := #[{ on := 5, ground := Ground.data }, { on := 2, ground := Ground.chain }], guard := none }) rfl (fun K hK => ?_) (AllReadyH.nil)
  go_simp
  refine (HCN.out _ HP.out.bel).mono ?_; rintro e w2 ⟨vvn, rfl, ho, hb⟩
  obtain ⟨avn, cvn, rfl⟩ := ho.shape
  rw [HKN.out]
  have HRR := Lib.hid ho
  replace HP := Lib.hid (HP.out.later hb)
  clear ho hb
  try go_wp2_with fail
  refine hK.out _ _ ⟨HP.out.x.c 3 (by simp), HP.out.x.c 4 (by simp), HP.out.x.c 5 (by simp)⟩ (fun hHeld => ?_)
  clear hK K
  try simp only [Act.put, List.setIfInBounds_toArray, List.set_cons_zero, List.set_cons_succ]
  refine wpAnyH_take (i := 7) (oi := { dst := some 16, op := Op.call { callee := Callee.builtin Builtin.len, args := #[Operand.tmp 15], argTypes := #[23] }, type := 3, pos := "edns.go:25", after := #[{ on := 6, ground := Ground.data }], guard := none }) (v := ?_) rfl (by kernel_rfl) (by kernel_rfl) (by kernel_rfl) (fun _ _ _ h => h) (Or.inl ⟨by rfl, ?_⟩) (by assumption) ?_
  rotate_left 1
  · intro w hSw; (try dsimp only at hSw); go_simp; try (with_reducible rfl)
  try simp only [Act.put, List.setIfInBounds_toArray, List.set_cons_zero, List.set_cons_succ]
  refine wpAnyH_take (i := 8) (oi := { dst := some 17, op := Op.binOp BinOp.add 3 (Operand.tmp 12) (Operand.tmp 16) 3, type := 3, pos := "edns.go:25", after := #[{ on := 3, ground := Ground.data }, { on := 7, ground := Ground.data }], guard := none }) (v := ?_) rfl (by kernel_rfl) (by kernel_rfl) (by kernel_rfl) (fun _ _ _ h => h) (Or.inl ⟨by rfl, ?_⟩) (by assumption) ?_
  rotate_left 1
  · intro w hSw; (try dsimp only at hSw); go_simp; try (with_reducible rfl)
  try simp only [Act.put, List.setIfInBounds_toArray, List.set_cons_zero, List.set_cons_succ]
  refine wpAnyH_ready (rs := [11]) (by kernel_rfl) (by simp) ?_
  refine AllReadyH.cons (o := { dst := some 20, op := Op.call { callee := Callee.value (Operand.func 31), args := #[Operand.tmp 19], argTypes := #[23] }, type := 23, pos := "edns.go:25", after := #[{ on := 10, ground := Ground.data }, { on := 6, ground := Ground.chain }], guard := none }) rfl (fun K hK => ?_) (AllReadyH.nil)
  go_simp
  refine (HCR.out _ HP.out.bel).mono ?_; rintro e w3 ⟨vvr, rfl, ho, hb⟩
  obtain ⟨avr, cvr, rfl⟩ := ho.shape
  rw [HKR.out]
  have HRR := Lib.hid ho
  replace HP := Lib.hid (HP.out.later hb)
  clear ho hb
  try go_wp2_with fail
  refine hK.out _ _ ⟨HP.out.x.c 3 (by simp), HP.out.x.c 4 (by simp), HP.out.x.c 5 (by simp)⟩ (fun hHeld => ?_)
  clear hK K
  try simp only [Act.put, List.setIfInBounds_toArray, List.set_cons_zero, List.set_cons_succ]
  refine wpAnyH_take (i := 12) (oi := { dst := some 5, op := Op.assign (Operand.tmp 17), type := 3, pos := "edns.go:25", after := #[{ on := 8, ground := Ground.data }, { on := 11, ground := Ground.chain }, { on := 0, ground := Ground.phase }, { on := 1, ground := Ground.phase }, { on := 2, ground := Ground.phase }, { on := 3, ground := Ground.phase }, { on := 4, ground := Ground.phase }, { on := 5, ground := Ground.phase }, { on := 6, ground := Ground.phase }, { on := 7, ground := Ground.phase }, { on := 8, ground := Ground.phase }, { on := 9, ground := Ground.textOnly Departure.lateStores }, { on := 10, ground := Ground.textOnly Departure.lateStores }, { on := 11, ground := Ground.textOnly Departure.lateStoresUnsure }], guard := none }) (v := ?_) rfl (by kernel_rfl) (by kernel_rfl) (by kernel_rfl) (fun _ _ _ h => h) (Or.inl ⟨by rfl, ?_⟩) (by assumption) ?_
  rotate_left 1
  · intro w hSw; (try dsimp only at hSw); go_simp; try (with_reducible rfl)
  try simp only [Act.put, List.setIfInBounds_toArray, List.set_cons_zero, List.set_cons_succ]
  refine wpAnyH_take (i := 13) (oi := { dst := some 6, op := Op.assign (Operand.tmp 20), type := 23, pos := "edns.go:25", after := #[{ on := 11, ground := Ground.data }, { on := 12, ground := Ground.chain }, { on := 0, ground := Ground.phase }, { on := 1, ground := Ground.phase }, { on := 2, ground := Ground.phase }, { on := 3, ground := Ground.phase }, { on := 4, ground := Ground.phase }, { on := 5, ground := Ground.phase }, { on := 6, ground := Ground.phase }, { on := 7, ground := Ground.phase }, { on := 8, ground := Ground.phase }, { on := 9, ground := Ground.phase }, { on := 10, ground := Ground.phase }, { on := 11, ground := Ground.phase }, { on := 12, ground := Ground.phase }], guard := none }) (v := ?_) rfl (by kernel_rfl) (by kernel_rfl) (by kernel_rfl) (fun _ _ _ h => h) (Or.inl ⟨by rfl, ?_⟩) (by assumption) ?_
  rotate_left 1
  · intro w hSw; (try dsimp only at hSw); go_simp; try (with_reducible rfl)
  try simp only [Act.put, List.setIfInBounds_toArray, List.set_cons_zero, List.set_cons_succ]
  refine wpAnyH_done (by kernel_rfl) ?_ _
  clear hHeld
  obtain ⟨WR, hWR⟩ : ∃ X, w3 = X := ⟨_, rfl⟩
  rw [hWR] at HP HRR ⊢
  clear hWR
  obtain ⟨z0, z1, z2, z3, z4⟩ := HP.out.z.five
  have fz := HP.out.z.fz
  have hB := HB.out
  by_cases hA : kA + kN = 0 ∧ LR = []
  · obtain ⟨hA1, rfl⟩ := hA
    have hk0 : kR = 0 := HKR.out.symm
    subst hk0
    have e1 : ((kA : Int) + kN == 0) = true := by simp; omega
    rw [hA1, ofL_none] at hRE
    subst hRE
    clear hA1
    go_wp2_with fail
    have hk := HP.out.fin (.int .i64 0) (.int .i64 0) (.int .i64 0) (.bool false) (.slice none 0 0)
    obtain ⟨m0, m1, m2, m3, m4⟩ := hk.2.1.five
    have hbF := hk.1
    unfold put5 at m0 m1 m2 m3 m4 hbF
    clear z0 z1 z2 z3 z4 fz
    refine bodyPost_ret (v := .tuple #[.agg #[.int .i64 0, .int .i64 0, .int .i64 0, .bool false, .slice none 0 0], .bool false, .int .i64 0]) (by simp [results, Try.results9, go_sem, m0, m1, m2, m3, m4]) rfl ⟨_, rfl, egw_zero _ _, by first | exact hbF | (rw [hN]; exact hbF)⟩
  · by_cases hC : kA + kN = 0 ∧ kR = 1
    · obtain ⟨hC1, rfl⟩ := hC
      obtain ⟨x, rfl⟩ : ∃ x, LR = [x] := List.length_eq_one_iff.mp HKR.out
      have e0 : ((kA : Int) + kN == 0) = true := by simp; omega
      have e1 : ¬ ((0 : Int) < (kA : Int) + kN) := by omega
      have e2 : decide ((0 : Int) < (kA : Int) + kN) = false := by simp; omega
      rw [hC1, ofL_one] at hRE
      have hsr := HRR.out.sr (by simp)
      obtain ⟨b, off, c2, he, hb, hc⟩ := SR.at_ hsr 0 (by simp)
      injection he with he hn3 hc3
      clear hn3 hc3
      subst he
      obtain ⟨c0, c1, c2, c3, c4⟩ := hc
      simp only [List.getElem_cons_zero, Nat.zero_mul, Nat.add_zero] at c0 c1 c2 c3 c4
      have HRD := Lib.hid (readx_any x WR (HMD.out x (by simp)))
      obtain ⟨r1, hr1⟩ : ∃ y, (recR x).1 = y := ⟨_, rfl⟩
      obtain ⟨r2, hr2⟩ : ∃ y, (recR x).2 = y := ⟨_, rfl⟩
      unfold RdPost at HRD
      rw [hr1, hr2] at HRD
      rw [hr1, hr2] at hRE
      subst hRE
      clear hC1 hsr hb hA hr1 hr2
      go_wp2_with fail
      refine HRD.out.mono ?_; rintro e w5 ⟨v, rfl, hv, hb⟩
      have HV := Lib.hid (hv.base HP.out.size)
      replace HP := Lib.hid (HP.out.later hb)
      obtain ⟨o, rfl, hso⟩ := hv
      obtain ⟨oa, oc, rfl⟩ := row_shape hso
      obtain ⟨g, hg⟩ : ∃ g, w5.heap.size = g := ⟨_, rfl⟩
      have hb6 : Below w5.heap.size w5 (w5.alloc (.cells #[.int .i64 r1.s, .int .i64 r1.x, .int .i64 r1.v, .bool r1.b, .slice oa r1.o.length oc] 30)) := (Below.refl _ _).alloc (Nat.le_refl _) _
      have HP6 := Lib.hid (HP.out.later hb6)
      have HV6 := Lib.hid (HV.out.below hb6)
      have hbox := cel_new w5 (.int .i64 r1.s) (.int .i64 r1.x) (.int .i64 r1.v) (.bool r1.b) (.slice oa r1.o.length oc) 30
      rw [hg] at hbox
      obtain ⟨y0, y1, y2, y3, y4⟩ := hbox.five
      clear z0 z1 z2 z3 z4 fz hb hso hb6 hbox HV HRD c0 c1 c2 c3 c4
      obtain ⟨z0, z1, z2, z3, z4⟩ := HP6.out.z.five
      have fz := HP6.out.z.fz
      have hne : N + 1 ≠ g := by have := HP.out.size; omega
      go_wp2_with fail
      have hk := HP6.out.fin (.int .i64 r1.s) (.int .i64 r1.x) (.int .i64 r1.v) (.bool r1.b) (.slice oa r1.o.length oc)
      obtain ⟨m0, m1, m2, m3, m4⟩ := hk.2.1.five
      have hbF := hk.1
      have hvF := (HV6.out.aside hk.2.2 (fun k hk => by omega)).base (show N ≤ N + 2 by omega)
      unfold put5 at m0 m1 m2 m3 m4 hbF hvF
      clear z0 z1 z2 z3 z4 fz y0 y1 y2 y3 y4
      refine bodyPost_ret (v := .tuple #[.agg #[.int .i64 r1.s, .int .i64 r1.x, .int .i64 r1.v, .bool r1.b, .slice oa r1.o.length oc], .bool (r2 == 0), .int .i64 r2]) (by simp [results, Try.results9, go_sem, m0, m1, m2, m3, m4]) rfl ⟨_, rfl, by first | exact hvF | (rw [hN]; exact hvF), by first | exact hbF | (rw [hN]; exact hbF)⟩
    · rw [ofL_bad hA (by rw [HKR.out]; exact hC)] at hRE
      subst hRE
      by_cases hz : kA + kN = 0
      · have e0 : ((kA : Int) + kN == 0) = true := by simp; omega
        have hk2 : 1 < kR := by
          have h0 : kR ≠ 0 := fun h => hA ⟨hz, List.length_eq_zero_iff.mp (by rw [HKR.out, h])⟩
          have h1 : kR ≠ 1 := fun h => hC ⟨hz, h⟩
          omega
        have e1 : ((kR : Int) == 0) = false := by simp; omega
        have e2 : decide ((0 : Int) < (kA : Int) + kN) = false := by simp; omega
        have e3 : decide ((1 : Int) < (kR : Int)) = true := by simp; omega
        clear hA hC hz hk2
        go_wp2_with fail
        have hk := HP.out.fin (.int .i64 0) (.int .i64 0) (.int .i64 0) (.bool false) (.slice none 0 0)
        obtain ⟨m0, m1, m2, m3, m4⟩ := hk.2.1.five
        have hbF := hk.1
        unfold put5 at m0 m1 m2 m3 m4 hbF
        clear z0 z1 z2 z3 z4 fz
        refine bodyPost_ret (v := .tuple #[.agg #[.int .i64 0, .int .i64 0, .int .i64 0, .bool false, .slice none 0 0], .bool false, .int .i64 4]) (by simp [results, Try.results9, go_sem, m0, m1, m2, m3, m4]) rfl ⟨_, rfl, egw_zero _ _, by first | exact hbF | (rw [hN]; exact hbF)⟩
      · have e0 : ((kA : Int) + kN == 0) = false := by simp; omega
        have e2 : decide ((0 : Int) < (kA : Int) + kN) = true := by simp; omega
        clear hA hC hz
        go_wp2_with fail
        have hk := HP.out.fin (.int .i64 0) (.int .i64 0) (.int .i64 0) (.bool false) (.slice none 0 0)
        obtain ⟨m0, m1, m2, m3, m4⟩ := hk.2.1.five
        have hbF := hk.1
        unfold put5 at m0 m1 m2 m3 m4 hbF
        clear z0 z1 z2 z3 z4 fz
        refine bodyPost_ret (v := .tuple #[.agg #[.int .i64 0, .int .i64 0, .int .i64 0, .bool false, .slice none 0 0], .bool false, .int .i64 4]) (by simp [results, Try.results9, go_sem, m0, m1, m2, m3, m4]) rfl ⟨_, rfl, egw_zero _ _, by first | exact hbF | (rw [hN]; exact hbF)⟩
end Go.Proofs.Ytcjgbholgbjejaa

/-
  The document's own Of.
-/
namespace Go.Proofs.Ytcjgbholgbjejaa
open Go.RowKit Go.Shelf
set_option linter.unusedVariables false
set_option linter.unusedSimpArgs false
set_option maxRecDepth 100000

theorem rshort9_any (n : Int) (b : Bool) (hb : decide (0 ≤ n ∧ n ≤ 65535) = b) (w : World) : Calls Try.prog 35 #[.int .i64 n] w fun e w' => e = .returned (.bool b) ∧ w = w' := by
  subst hb
  by_cases h0 : 0 ≤ n
  · by_cases h1 : n ≤ 65535
    · rw [decide_eq_true ⟨h0, h1⟩]
      go_enter Try.func35, Try.ntmps35
      go_wp2
      go_ret
      simp [h0, h1]
    · rw [decide_eq_false (fun h => h1 h.2)]
      have t1 : ¬ (n ≤ 65535) := h1
      go_enter Try.func35, Try.ntmps35
      go_wp2
      go_ret
      simp [h0, h1]
  · rw [decide_eq_false (fun h => h0 h.1)]
    have t1 : ¬ (0 ≤ n) := h0
    go_enter Try.func35, Try.ntmps35
    go_wp2
    go_ret
    simp [h0]
end Go.Proofs.Ytcjgbholgbjejaa

/-
  The document's own: options as bytes (data), and whether they may be said (Check).
-/
namespace Go.Proofs.Ytcjgbholgbjejaa
open Go.RowKit Go.Shelf
set_option linter.unusedVariables false
set_option linter.unusedSimpArgs false
set_option maxRecDepth 100000

/-- Two bytes of a number that fits into them. -/
theorem rtwo_any (n : Int) (w : World) (h0 : 0 ≤ n) (h1 : n ≤ 65535) : Calls Try.prog 55 #[.int .i64 n] w fun e w' =>
    ∃ g c, e = .returned (.tuple #[.slice (some ⟨g, 0, none⟩) 2 c, .int .i64 0]) ∧ (∀ j, j < (b2 n).length → w'.cell? ⟨g, j, none⟩ = some (.int .u8 (((b2 n).getD j 0).toNat : Nat))) ∧ w.heap.size ≤ g ∧ Below w.heap.size w w' := by
  refine (rput16_any n w).mono ?_
  rintro e w' ⟨v, rfl, ho, hb⟩
  have eE : putE 65535 n = 0 := by unfold putE; rw [if_pos ⟨h0, h1⟩]
  have eL : putL2 n = [n / 256, n % 256] := by unfold putL2; rw [if_pos ⟨h0, h1⟩]
  rw [eL] at ho
  rw [eE]
  have hs := OwnR.sl ho
  rcases ho.2 with ⟨_, h⟩ | ⟨g, cap, cur, rfl, hg, _⟩
  · cases h
  · obtain ⟨a, c, he, _, _, hx⟩ := hs
    injection he with he _ _
    obtain ⟨b, off, hab, _, _, hc⟩ := hx (by simp)
    rw [← he] at hab
    injection hab with hab
    injection hab with hb1 hb2 _
    subst hb1; subst hb2
    refine ⟨g, cap, rfl, fun j hj => ?_, hg, hb⟩
    rw [b2_len] at hj
    have e1 : (UInt8.ofNat (n / 256).toNat).toNat = (n / 256).toNat := by rw [UInt8.toNat_ofNat']; omega
    have e2 : (UInt8.ofNat (n % 256).toNat).toNat = (n % 256).toNat := by rw [UInt8.toNat_ofNat']; omega
    have a1 : ((n / 256).toNat : Int) = n / 256 := by omega
    have a2 : ((n % 256).toNat : Int) = n % 256 := by omega
    have h3 := hc j hj
    rw [Nat.zero_add] at h3
    match j, hj with
    | 0, _ => simpa [b2, e1, a1] using h3
    | 1, _ => simpa [b2, e2, a2] using h3

/-- The bytes while they are being made. -/
structure Rdt (w wr : World) (N : Nat) (v : Value) (b : List UInt8) : Prop where
  bel : Below N w wr
  own : OwnU wr N v b
  size : N ≤ wr.heap.size
section
variable {w wr w' : World} {N : Nat} {v : Value} {b : List UInt8}
theorem Rdt.later (h : Rdt w wr N v b) (hb : Below wr.heap.size wr w') : Rdt w w' N v b :=
  ⟨below_aside h.bel (Aside.of_all hb : Aside (fun _ => False) wr w') (fun k hk => ⟨by have := h.size; omega, id⟩), h.own.below hb, Nat.le_trans h.size hb.size⟩
theorem Rdt.app (h : Rdt w wr N v b) (l : List UInt8) (g c : Nat) (hx : ∀ j, j < l.length → wr.cell? ⟨g, j, none⟩ = some (.int .u8 ((l.getD j 0).toNat : Nat))) (hb : b.length + l.length ≤ 1000000) :
    ∃ a' c' w', (Builtin.append_ #[67, 67] 67 #[v, .slice (some ⟨g, 0, none⟩) l.length c]).run Try.prog wr = .ok (.slice a' (b.length + l.length) c') w' ∧ Rdt w w' N (.slice a' (b.length + l.length) c') (b ++ l) ∧ Aside (fun k => v.ownBlock = some k) wr w' := by
  obtain ⟨a', c', w', h1, h2, h3⟩ := run_appU N v b l g c h.own hx hb h.size
  have ha : Aside (fun k => v.ownBlock = some k) wr w' := Aside.grown h3 fun _ hk => hk
  exact ⟨a', c', w', h1, ⟨below_aside h.bel ha (fun k hk => ⟨by have := h.size; omega, fun hg => by have := h.own.row k hg; omega⟩), h2, Nat.le_trans h.size ha.size⟩, ha⟩
theorem Rdt.appS (h : Rdt w wr N v b) (l : List UInt8) (hb : b.length + l.length ≤ 1000000) :
    ∃ a' c' w', (Builtin.append_ #[67, 9] 67 #[v, .string (bs l)]).run Try.prog wr = .ok (.slice a' (b.length + l.length) c') w' ∧ Rdt w w' N (.slice a' (b.length + l.length) c') (b ++ l) := by
  obtain ⟨a', c', w', h1, h2, h3⟩ := run_appS N v b l h.own hb h.size
  have ha : Aside (fun k => v.ownBlock = some k) wr w' := Aside.grown h3 fun _ hk => hk
  exact ⟨a', c', w', h1, ⟨below_aside h.bel ha (fun k hk => ⟨by have := h.size; omega, fun hg => by have := h.own.row k hg; omega⟩), h2, Nat.le_trans h.size ha.size⟩⟩
end

set_option maxHeartbeats 4000000 in
theorem rdata9_any {w : World} {hi : Nat} {u : Value} {l : List Ot} (h : SO w hi u l) (h1 : hi ≤ w.heap.size) (hin : ∀ x ∈ l, 0 ≤ x.c ∧ x.c ≤ 65535) (hsz : szO l ≤ 65535) :
    Calls Try.prog 44 #[u] w (fun e w' => ∃ v, e = .returned v ∧ OwnU w' w.heap.size v (otsB l) ∧ Below w.heap.size w w') := by
  have HS := Lib.hid h
  have HN := Lib.hid (Lst.len h)
  obtain ⟨a, c, rfl⟩ := Lst.shape h
  obtain ⟨N, hN⟩ : ∃ N, w.heap.size = N := ⟨_, rfl⟩
  have HHI := Lib.hid (show hi ≤ N by omega)
  have HI3 := Lib.hid hin
  have HSZ := Lib.hid hsz
  have HP := Lib.hid (show Rdt w w N (.slice none 0 0) [] from ⟨Below.refl _ _, OwnU.nil _ _, by omega⟩)
  clear h h1 hin hsz
  go_enter Try.func44, Try.ntmps44
  go_wp2_with fail
  go_loopg [3, 4] l.length (fun g v3 v4 wr => ∃ k : Nat, k + g = l.length ∧ v4 = .int .i64 k ∧ Hid (Rdt w wr N v3 (otsB (l.take k))))
  case atStart => exact ⟨0, by omega, rfl, HP⟩
  case round =>
    clear HP
    obtain ⟨k, hk, rfl, HP⟩ := hrel
    have hlen := HN.out
    by_cases hlt : k < l.length
    · obtain ⟨b, off, c2', he, hb, hc⟩ := HS.out.at_ k hlt
      injection he with he hn3 hc3
      clear hn3 hc3
      subst he
      have htk : l.take (k + 1) = l.take k ++ [l[k]] := by rw [List.take_add_one, List.getElem?_eq_getElem hlt]; rfl
      have hin := HI3.out l[k] (List.getElem_mem hlt)
      have hds := szO_mem (List.getElem_mem hlt)
      have hsz1 : szO (l.take k) + szO (l.drop k) = szO l := by rw [← szO_app, List.take_append_drop]
      obtain ⟨x, hx⟩ : ∃ x, l[k] = x := ⟨_, rfl⟩
      rw [hx] at hc htk hin hds
      have hszl := HSZ.out
      have HTK := Lib.hid (show otsB (l.take (k + 1)) = otsB (l.take k) ++ (b2 x.c ++ (b2 x.d.length ++ x.d)) by rw [htk, otsB_app, otsB_one])
      have hbl := otsB_len (l.take k)
      obtain ⟨bb, hbb⟩ : ∃ b, otsB (l.take k) = b := ⟨_, rfl⟩
      rw [hbb] at HP HTK hbl
      have HL := Lib.hid (show bb.length ≤ 65535 ∧ x.d.length ≤ 65535 by omega)
      have HC1 := Lib.hid (fun wx => rtwo_any x.c wx hin.1 hin.2)
      have HC2 := Lib.hid (fun wx => rtwo_any (x.d.length : Nat) wx (by omega) (by omega))
      have HAT := Lib.hid (fun wx (hB : Below N w wx) => hc.keep fun o => hB.cell (p := ⟨b, o, none⟩) (Nat.lt_of_lt_of_le hb HHI.out))
      have hdsz : (bs x.d).size = x.d.length := bs_size x.d
      obtain ⟨av, cv, rfl, _⟩ := HP.out.own.shape
      clear hc hx hb hin hds hsz1 hszl hbl hbb htk
      obtain ⟨p0, p1⟩ := HAT.out _ HP.out.bel
      go_wp2_with fail
      refine (HC1.out _).mono ?_; rintro e w3 ⟨g3, d3, rfl, hc3, hg3, hb⟩
      have hgl : ∀ k, (Value.slice av bb.length cv).ownBlock = some k → k < g3 := fun k hk => Nat.lt_of_lt_of_le (World.ownsRowF.lt HP.out.own k hk).2 hg3
      have hgs : g3 < w3.heap.size := World.block_lt_of_cell? w3 _ (hc3 0 (by rw [b2_len]; omega))
      have HGL := Lib.hid (And.intro hgl hgs)
      have HC3 := Lib.hid hc3
      replace HP := Lib.hid (HP.out.later hb)
      clear hb hc3 hg3 hgl hgs p0 p1
      obtain ⟨p0, p1⟩ := HAT.out _ HP.out.bel
      go_wp2_with fail
      refine (HC2.out _).mono ?_; rintro e w5 ⟨g5, d5, rfl, hc5, hg5, hb⟩
      have hc3 : ∀ j, j < (b2 x.c).length → w5.cell? ⟨g3, j, none⟩ = some (.int .u8 (((b2 x.c).getD j 0).toNat : Nat)) := fun j hj => (hb.cell (p := ⟨g3, j, none⟩) HGL.out.2).trans (HC3.out j hj)
      have hg53 : g3 < g5 := Nat.lt_of_lt_of_le HGL.out.2 hg5
      have hgs5 : g5 < w5.heap.size := World.block_lt_of_cell? w5 _ (hc5 0 (by rw [b2_len]; omega))
      replace HP := Lib.hid (HP.out.later hb)
      obtain ⟨a6, c6, w6, hr6, hp6, ha6⟩ := HP.out.app (b2 x.c) g3 d3 hc3 (by have := HL.out.1; rw [b2_len]; omega)
      rw [b2_len] at hr6 hp6
      have HR6 := Lib.hid hr6
      have hc56 : ∀ j, j < (b2 (x.d.length : Nat)).length → w6.cell? ⟨g5, j, none⟩ = some (.int .u8 (((b2 (x.d.length : Nat)).getD j 0).toNat : Nat)) := fun j hj => (World.cell?_of_block (a := ⟨g5, j, none⟩) (ha6.block g5 hgs5 (fun hg => by have := HGL.out.1 g5 hg; omega))).trans (hc5 j hj)
      have hbl2 : (bb ++ b2 x.c).length = bb.length + 2 := by rw [List.length_append, b2_len]
      obtain ⟨a7, c7, w7, hr7, hp7, _⟩ := hp6.app (b2 (x.d.length : Nat)) g5 d5 hc56 (by have := HL.out.1; rw [hbl2, b2_len]; omega)
      rw [b2_len, hbl2] at hr7 hp7
      have HR7 := Lib.hid hr7
      have HP7 := Lib.hid hp7
      have hbl3 : ((bb ++ b2 x.c) ++ b2 (x.d.length : Nat)).length = bb.length + 2 + 2 := by rw [List.length_append, hbl2, b2_len]
      obtain ⟨a8, c8, w8, hr8, hp8⟩ := hp7.appS x.d (by have := HL.out; rw [hbl3]; omega)
      rw [hbl3] at hr8 hp8
      have HR8 := Lib.hid hr8
      have HP8 := Lib.hid (show Rdt w w8 N (.slice a8 (bb.length + 2 + 2 + x.d.length) c8) (otsB (l.take (k + 1))) by rw [HTK.out, ← List.append_assoc, ← List.append_assoc]; exact hp8)
      clear hb hc3 hc5 hg5 hg53 hgs5 hr6 hp6 ha6 hc56 hbl2 hr7 hp7 hbl3 hr8 hp8 HP p0 p1 HGL HC3
      obtain ⟨p0, p1⟩ := HAT.out _ HP7.out.bel
      go_wp2_with (first | (at_builtin; refine wpList_append_run (.tmp 34) (.tmp 35) 67 67 rfl rfl rfl rfl HR6.out ?_) | (at_builtin; refine wpList_append_run (.tmp 37) (.tmp 38) 67 67 rfl rfl rfl rfl HR7.out ?_) | (at_builtin; refine wpList_append_run (.tmp 40) (.tmp 45) 67 9 rfl rfl rfl rfl HR8.out ?_))
      go_roundg (l.length - (k + 1))
      case measure => omega
      case rel => exact ⟨k + 1, by omega, by go_num, HP8⟩
    · have t1 : ¬ ((k : Int) < l.length) := by omega
      have hkl : l.take k = l := List.take_of_length_le (by omega)
      rw [hkl] at HP
      clear hkl
      go_wp2_with fail
      go_ret
      exact ⟨_, rfl, by first | exact HP.out.own | (rw [hN]; exact HP.out.own), by first | exact HP.out.bel | (rw [hN]; exact HP.out.bel)⟩
end Go.Proofs.Ytcjgbholgbjejaa

/-
  The document's own Check: whether something may be said.
-/
namespace Go.Proofs.Ytcjgbholgbjejaa
open Go.RowKit Go.Shelf
set_option linter.unusedVariables false
set_option linter.unusedSimpArgs false
set_option maxRecDepth 100000

theorem bnd_dec (n m : Int) : decide (0 ≤ n ∧ n ≤ m) = bnd n m := by unfold bnd; rw [Bool.decide_and]
/-- Which of the tests fails first, if any. -/
theorem chk_ways (s x v : Int) : (bnd s 65535 = false ∧ (bnd s 65535 && (bnd x 127 && bnd v 255)) = false) ∨ (bnd s 65535 = true ∧ (¬ 0 ≤ x) ∧ (bnd s 65535 && (bnd x 127 && bnd v 255)) = false) ∨
    (bnd s 65535 = true ∧ 0 ≤ x ∧ (¬ x ≤ 127) ∧ (bnd s 65535 && (bnd x 127 && bnd v 255)) = false) ∨ (bnd s 65535 = true ∧ 0 ≤ x ∧ x ≤ 127 ∧ (¬ 0 ≤ v) ∧ (bnd s 65535 && (bnd x 127 && bnd v 255)) = false) ∨
    (bnd s 65535 = true ∧ 0 ≤ x ∧ x ≤ 127 ∧ 0 ≤ v ∧ (¬ v ≤ 255) ∧ (bnd s 65535 && (bnd x 127 && bnd v 255)) = false) ∨ (bnd s 65535 = true ∧ 0 ≤ x ∧ x ≤ 127 ∧ 0 ≤ v ∧ v ≤ 255 ∧ (bnd s 65535 && (bnd x 127 && bnd v 255)) = true) := by
  cases hs : bnd s 65535
  · exact .inl ⟨rfl, by simp⟩
  · unfold bnd
    by_cases h0 : 0 ≤ x
    · by_cases h1 : x ≤ 127
      · by_cases h2 : 0 ≤ v
        · by_cases h3 : v ≤ 255
          · simp [h0, h1, h2, h3]
          · simp [h0, h1, h2, h3]
        · simp [h0, h1, h2]
      · simp [h0, h1]
    · simp [h0]

set_option maxHeartbeats 4000000 in
theorem rcheckE9_any {w : World} {hi : Nat} {u : Value} {e : Ed} (h : Eg w hi u e) (h1 : hi ≤ w.heap.size) (hl : e.o.length ≤ 900000) (hd : ∀ x ∈ e.o, x.d.length ≤ 1000000) :
    Calls Try.prog 27 #[u] w (Tells w (.int .i64 (chkE e))) := by
  obtain ⟨o, rfl, hs⟩ := h
  obtain ⟨es, ex, ev, eb, l⟩ := e
  obtain ⟨r, hr⟩ : ∃ r, chkE ⟨es, ex, ev, eb, l⟩ = r := ⟨_, rfl⟩
  rw [hr]
  simp only at hs hl hd ⊢
  obtain ⟨B, hB⟩ : ∃ B, (bnd es 65535 && (bnd ex 127 && bnd ev 255)) = B := ⟨_, rfl⟩
  have HR := Lib.hid (show (if (B && l.all fun x => bnd x.c 65535) = true then (if 65535 < szO l then (2 : Int) else 0) else 5) = r by
    rw [← hr, ← hB]; unfold chkE
    simp only [Bool.and_eq_true, and_assoc])
  have hw := chk_ways es ex ev
  rw [hB] at hw
  obtain ⟨b0, hb0⟩ : ∃ b, bnd es 65535 = b := ⟨_, rfl⟩
  rw [hb0] at hw
  have HS0 := Lib.hid (fun wx => rshort9_any es b0 (by rw [bnd_dec]; exact hb0) wx)
  have HN := Lib.hid (Lst.len hs)
  have HD := Lib.hid hd
  have HL := Lib.hid hl
  obtain ⟨a, c, rfl⟩ := Lst.shape hs
  have hbl : Below w.heap.size w (w.alloc (.cells #[.int .i64 es, .int .i64 ex, .int .i64 ev, .bool eb, .slice a l.length c] 30)) := (Below.refl _ _).alloc (Nat.le_refl _) _
  have hx := cel_new w (.int .i64 es) (.int .i64 ex) (.int .i64 ev) (.bool eb) (.slice a l.length c) 30
  have HS := Lib.hid (show SO w hi _ l from hs)
  have HB := Lib.hid hbl
  obtain ⟨N, hN⟩ : ∃ N, w.heap.size = N := ⟨_, rfl⟩
  obtain ⟨W, hW⟩ : ∃ W, w.alloc (.cells #[.int .i64 es, .int .i64 ex, .int .i64 ev, .bool eb, .slice a l.length c] 30) = W := ⟨_, rfl⟩
  rw [hW] at HB hx
  rw [hN] at hx HB
  have HX := Lib.hid hx
  have HSW := Lib.hid (show N + 1 ≤ W.heap.size by rw [← hW, World.size_alloc, hN]; exact Nat.le_refl _)
  have HHI := Lib.hid (show hi ≤ N by omega)
  clear hs hbl hx hb0 hB h1 hl hd hr
  rcases hw with ⟨rfl, rfl⟩ | ⟨rfl, t1, rfl⟩ | ⟨rfl, t1, t2, rfl⟩ | ⟨rfl, t1, t2, t3, rfl⟩ | ⟨rfl, t1, t2, t3, t4, rfl⟩ | ⟨rfl, t1, t2, t3, t4, rfl⟩
  iterate 6
    · obtain ⟨c0, c1, c2, c3, c4⟩ := HX.out.five
      first | have HT := Lib.hid (decide_eq_false t4) | have HT := Lib.hid (decide_eq_true t4) | skip
      go_enter Try.func27, Try.ntmps27
      go_wp2_with fail
      refine (HS0.out _).mono ?_; rintro e w2 ⟨rfl, rfl⟩
      go_wp2_with fail
      clear c0 c1 c2 c3 c4
      try clear t1
      try clear t2
      try clear t3
      try clear t4
      go_loopg [3, 4, 5] l.length (fun g v3 v4 v5 wr => ∃ k : Nat, k + g = l.length ∧ v5 = .int .i64 k ∧ v4 = .int .i64 (szO (l.take k)) ∧ (∃ f : Bool, v3 = .bool f ∧ Hid ((if (f && (l.drop k).all fun x => bnd x.c 65535) = true then (if 65535 < szO l then (2 : Int) else 0) else 5) = r)) ∧ W = wr)
      case atStart => exact ⟨0, by omega, rfl, rfl, ⟨_, rfl, by first | exact Lib.hid HR.out | exact Lib.hid (by rw [HT.out]; exact HR.out)⟩, by first | rfl | exact hW.symm⟩
      case round =>
        clear HR hW
        obtain ⟨k, hk, rfl, rfl, ⟨f, rfl, HR⟩, rfl⟩ := hrel
        have hlen := HN.out
        obtain ⟨c0, c1, c2, c3, c4⟩ := HX.out.five
        by_cases hlt : k < l.length
        · obtain ⟨b, off, c2', he, hb, hc⟩ := HS.out.at_ k hlt
          injection he with he hn3 hc3
          clear hn3 hc3
          subst he
          obtain ⟨p0, p1⟩ := hc.keep fun o => HB.out.cell (p := ⟨b, o, none⟩) (Nat.lt_of_lt_of_le hb HHI.out)
          have htk : l.take (k + 1) = l.take k ++ [l[k]] := by rw [List.take_add_one, List.getElem?_eq_getElem hlt]; rfl
          have hdk : l.drop k = l[k] :: l.drop (k + 1) := List.drop_eq_getElem_cons hlt
          have hdx := HD.out l[k] (List.getElem_mem hlt)
          obtain ⟨x, hx⟩ : ∃ x, l[k] = x := ⟨_, rfl⟩
          rw [hx] at p0 p1 htk hdx hdk
          obtain ⟨bb, hbb⟩ : ∃ b, bnd x.c 65535 = b := ⟨_, rfl⟩
          have HC := Lib.hid (fun wx => rshort9_any x.c bb (by rw [bnd_dec]; exact hbb) wx)
          have HR6 := Lib.hid (show (if ((f && bb) && (l.drop (k + 1)).all fun x => bnd x.c 65535) = true then (if 65535 < szO l then (2 : Int) else 0) else 5) = r by have h := HR.out; rw [hdk, List.all_cons, hbb] at h; rw [Bool.and_assoc]; exact h)
          have hs1 := szO_le 1000000 (l.take k) (fun y hy => HD.out y (List.mem_of_mem_take hy))
          have hs2 : (l.take k).length = k := by rw [List.length_take]; omega
          have hs4 : szO (l.take (k + 1)) = szO (l.take k) + (4 + x.d.length) := by rw [htk, szO_app]; simp [szO]
          obtain ⟨s, hsk⟩ : ∃ s, szO (l.take k) = s := ⟨_, rfl⟩
          rw [hs2, hsk] at hs1
          rw [hsk] at hs4 ⊢
          have HS4 := Lib.hid hs4
          have hl9 := HL.out
          have hw1 : IntKind.i64.wrap ((s : Int) + 4) = (s : Int) + 4 := wr64 _ (by omega) (by omega)
          have hw2 : IntKind.i64.wrap ((s : Int) + 4 + x.d.length) = (s : Int) + 4 + x.d.length := wr64 _ (by omega) (by omega)
          have hds : (bs x.d).size = x.d.length := bs_size x.d
          clear hc hx hb hbb hs1 hs2 hs4 hsk htk hdk HR
          cases f with
          | true =>
            replace HR6 := Lib.hid (show (if (bb && (l.drop (k + 1)).all fun x => bnd x.c 65535) = true then (if 65535 < szO l then (2 : Int) else 0) else 5) = r from HR6.out)
            go_wp2_with fail
            refine (HC.out _).mono ?_; rintro e w2 ⟨rfl, rfl⟩
            go_wp2_with fail
            go_roundg (l.length - (k + 1))
            case measure => omega
            case rel => exact ⟨k + 1, by omega, by go_num, by rw [HS4.out]; go_num, ⟨_, rfl, HR6⟩, rfl⟩
          | false =>
            replace HR6 := Lib.hid (show (if (false && (l.drop (k + 1)).all fun x => bnd x.c 65535) = true then (if 65535 < szO l then (2 : Int) else 0) else 5) = r from HR6.out)
            go_wp2_with fail
            go_roundg (l.length - (k + 1))
            case measure => omega
            case rel => exact ⟨k + 1, by omega, by go_num, by rw [HS4.out]; go_num, ⟨_, rfl, HR6⟩, rfl⟩
        · have t1 : ¬ ((k : Int) < l.length) := by omega
          have hkl : l.take k = l := List.take_of_length_le (by omega)
          have hkd : l.drop k = [] := List.drop_eq_nil_of_le (by omega)
          have hr2 := HR.out
          rw [hkd, List.all_nil, Bool.and_true] at hr2
          rw [hkl]
          obtain ⟨s, hsk⟩ : ∃ s, szO l = s := ⟨_, rfl⟩
          rw [hsk] at hr2 ⊢
          clear hkl hsk hkd HR
          cases f with
          | false =>
            rw [if_neg (by simp)] at hr2
            subst hr2
            go_wp2_with fail
            go_ret
            exact ⟨rfl, by first | exact HB.out | (rw [hN]; exact HB.out)⟩
          | true =>
            rw [if_pos rfl] at hr2
            by_cases hbig : 65535 < s
            · rw [if_pos hbig] at hr2
              subst hr2
              have t2 : decide ((65535 : Int) < s) = true := by simp; omega
              go_wp2_with fail
              go_ret
              exact ⟨rfl, by first | exact HB.out | (rw [hN]; exact HB.out)⟩
            · rw [if_neg hbig] at hr2
              subst hr2
              have t2 : decide ((65535 : Int) < s) = false := by simp; omega
              go_wp2_with fail
              go_ret
              exact ⟨rfl, by first | exact HB.out | (rw [hN]; exact HB.out)⟩
end Go.Proofs.Ytcjgbholgbjejaa
