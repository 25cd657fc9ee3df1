/-
  The bare answer: Reply, and its flags.
-/
import Derived.Test.YtdikgjbpjdnodaaGreatZ14
import Derived.Test.YtdikgjbpjdnodaaGreatZ01
import Derived.Test.YtdikgjbpjdnodaaGreatZ10
import Derived.Test.YtdikgjbpjdnodaaGreatZ08
import Derived.SizedLaws
namespace Go.Proofs.YtdikgjbpjdnodaaGreat
open Go.RowKit Go.Shelf
set_option linter.unusedVariables false
set_option linter.unusedSimpArgs false
set_option maxRecDepth 100000

/-- The flags of a bare answer. -/
def rpB (f : Int) : Int := bits .or .i64 (bits .or .i64 (bits .and .i64 f 30992) 32768) 128
def rpF (f c : Int) : Int := wcF (rpB f) c

theorem and_shl (n m a : Nat) : n &&& (m <<< a) = ((n >>> a) &&& m) <<< a := by
  apply Nat.eq_of_testBit_eq
  intro i
  simp only [Nat.testBit_and, Nat.testBit_shiftLeft, Nat.testBit_shiftRight]
  by_cases h : a ≤ i
  · have e : a + (i - a) = i := by omega
    simp [h, e]
  · simp [h]
theorem and_30992 (n : Nat) : n &&& 30992 = 2048 * (n / 2048 % 16) + (256 * (n / 256 % 2) + 16 * (n / 16 % 2)) := by
  have e : (30992 : Nat) = (15 <<< 11) ||| ((1 <<< 8) ||| (1 <<< 4)) := by decide
  rw [e, Nat.and_or_distrib_left, Nat.and_or_distrib_left, and_shl, and_shl, and_shl]
  have e1 : n >>> 11 &&& 15 = n / 2048 % 16 := by
    have := Nat.and_two_pow_sub_one_eq_mod (n >>> 11) 4
    rw [Nat.shiftRight_eq_div_pow] at this ⊢
    exact this
  have e2 : n >>> 8 &&& 1 = n / 256 % 2 := by
    have := Nat.and_two_pow_sub_one_eq_mod (n >>> 8) 1
    rw [Nat.shiftRight_eq_div_pow] at this ⊢
    exact this
  have e3 : n >>> 4 &&& 1 = n / 16 % 2 := by
    have := Nat.and_two_pow_sub_one_eq_mod (n >>> 4) 1
    rw [Nat.shiftRight_eq_div_pow] at this ⊢
    exact this
  rw [e1, e2, e3, Nat.shiftLeft_eq, Nat.shiftLeft_eq, Nat.shiftLeft_eq]
  generalize n / 2048 % 16 = a
  have h2 : n / 256 % 2 < 2 := Nat.mod_lt _ (by decide)
  have h3 : n / 16 % 2 < 2 := Nat.mod_lt _ (by decide)
  generalize n / 256 % 2 = b at *
  generalize n / 16 % 2 = c at *
  rw [Nat.mul_comm a, Nat.mul_comm b, Nat.mul_comm c]
  have g1 := Nat.two_pow_add_eq_or_of_lt (i := 8) (b := 2 ^ 4 * c) (by omega) b
  have g2 := Nat.two_pow_add_eq_or_of_lt (i := 11) (b := 2 ^ 8 * b + 2 ^ 4 * c) (by omega) a
  rw [← g1, ← g2]
theorem or_two (s c : Nat) (hc : c < 2) : (256 * s + 16 * c) ||| 128 = 256 * s + (128 + 16 * c) := by
  have g1 := Nat.two_pow_add_eq_or_of_lt (i := 8) (b := 16 * c) (by omega) s
  have g2 := Nat.two_pow_add_eq_or_of_lt (i := 8) (b := 128 + 16 * c) (by omega) s
  have g3 : 16 * c ||| 128 = 128 + 16 * c := by
    have : c = 0 ∨ c = 1 := by omega
    rcases this with rfl | rfl <;> decide
  show 2 ^ 8 * s + 16 * c ||| 128 = 2 ^ 8 * s + (128 + 16 * c)
  rw [g1, g2, Nat.or_assoc, g3]

/-- The flags of a bare answer to flags of 16 bits. -/
theorem rpB_eq (f : Int) (h0 : 0 ≤ f) (h1 : f < 65536) : rpB f = 32768 + 2048 * (f / 2048 % 16) + 256 * (f / 256 % 2) + 128 + 16 * (f / 16 % 2) := by
  obtain ⟨n, rfl⟩ := Int.eq_ofNat_of_zero_le h0
  have hn : n < 65536 := by omega
  have o64 : ∀ k : Nat, k < 65536 → (BitVec.ofInt 64 (k : Int)).toNat = k := fun k hk => by rw [BitVec.toNat_ofInt]; omega
  have b1 : bits .and .i64 (n : Int) 30992 = ((n &&& 30992 : Nat) : Int) := by
    show IntKind.i64.wrap ((BitVec.ofInt 64 (n : Int) &&& BitVec.ofInt 64 30992).toNat : Nat) = _
    rw [BitVec.toNat_and, o64 n hn, show (BitVec.ofInt 64 30992).toNat = 30992 by decide, IntKind.wrap_i64, and_30992]
    omega
  have bor : ∀ a b : Nat, a < 65536 → b < 65536 → bits .or .i64 (a : Int) (b : Int) = ((a ||| b : Nat) : Int) := fun a b ha hb => by
    have hl : a ||| b < 2 ^ 16 := Nat.or_lt_two_pow ha hb
    show IntKind.i64.wrap ((BitVec.ofInt 64 (a : Int) ||| BitVec.ofInt 64 (b : Int)).toNat : Nat) = _
    rw [BitVec.toNat_or, o64 a ha, o64 b hb, IntKind.wrap_i64]
    omega
  have h2 : n / 256 % 2 < 2 := Nat.mod_lt _ (by decide)
  have h3 : n / 16 % 2 < 2 := Nat.mod_lt _ (by decide)
  have h4 : n / 2048 % 16 < 16 := Nat.mod_lt _ (by decide)
  have hs := and_30992 n
  generalize hS : n &&& 30992 = S at *
  have g1 : S ||| 32768 = 32768 + S := by
    have := Nat.two_pow_add_eq_or_of_lt (i := 15) (b := S) (by omega) 1
    rw [Nat.or_comm]
    exact this.symm
  have g2 : (32768 + S) ||| 128 = 32768 + S + 128 := by
    have := or_two (128 + (8 * (n / 2048 % 16) + n / 256 % 2)) (n / 16 % 2) h3
    rw [show 256 * (128 + (8 * (n / 2048 % 16) + n / 256 % 2)) + 16 * (n / 16 % 2) = 32768 + S by omega] at this
    rw [this]
    omega
  unfold rpB
  rw [b1, show (32768 : Int) = ((32768 : Nat) : Int) from rfl, bor _ _ (by omega) (by decide), g1, show (128 : Int) = ((128 : Nat) : Int) from rfl, bor _ _ (by omega) (by decide), g2]
  omega

/-- The answer while questions are being taken over. -/
structure Rp (w wr : World) (N : Nat) (i f : Int) (qv : Value) (l : List Qn) : Prop where
  bel : Below N w wr
  z : Cel wr (N + 1) [.int .i64 0, .int .i64 0, .slice none 0 0, .slice none 0 0, .slice none 0 0, .slice none 0 0]
  r : Cel wr (N + 2) [.int .i64 i, .int .i64 f, qv, .slice none 0 0, .slice none 0 0, .slice none 0 0]
  own : OwnQn wr (N + 3) qv l
  size : N + 3 ≤ wr.heap.size

section
variable {w wr w' : World} {N : Nat} {i f : Int} {qv : Value} {l : List Qn}
theorem Rp.later (h : Rp w wr N i f qv l) (hb : Below wr.heap.size wr w') : Rp w w' N i f qv l :=
  ⟨below_aside h.bel (Aside.of_all hb : Aside (fun _ => False) wr w') (fun k hk => ⟨by have := h.size; omega, id⟩), h.z.below (by simp) hb, h.r.below (by simp) hb, row_below h.own hb, Nat.le_trans h.size hb.size⟩
theorem Rp.aside {b : Nat} (h : Rp w wr N i f qv l) (ha : Aside (fun k => k = b) wr w') (hb : N + 3 ≤ b) (ho : ∀ k, qv.ownBlock = some k → k ≠ b) : Rp w w' N i f qv l :=
  ⟨below_aside h.bel ha (fun k hk => ⟨by have := h.size; omega, by omega⟩), h.z.aside (by simp) ha (by omega), h.r.aside (by simp) ha (by omega), row_aside h.own ha ho, Nat.le_trans h.size ha.size⟩
/-- A question is laid behind the others. -/
theorem Rp.app (h : Rp w wr N i f qv l) {hi : Nat} {u : Value} {x : Qn} (hx : SQ wr hi u [x]) (hl : l.length + 1 ≤ 1000000) :
    ∃ a c w6, (Builtin.append_ #[22, 22] 22 #[qv, u]).run Tryz.prog wr = .ok (.slice a (l.length + 1) c) w6 ∧ w6.frozen? ⟨N + 2, 2, none⟩ = false ∧ w6.cell? ⟨N + 2, 2, none⟩ = some qv ∧
      Rp w (w6.setCell ⟨N + 2, 2, none⟩ (.slice a (l.length + 1) c)) N i f (.slice a (l.length + 1) c) (l ++ [x]) ∧ (∀ b, (Value.slice a (l.length + 1) c).ownBlock = some b → qv.ownBlock = some b ∨ wr.heap.size ≤ b) := by
  obtain ⟨a, c, w6, h1, h2, h3, h4⟩ := run_appQn h.own hx hl h.size
  simp only [List.length_singleton] at h1 h2 h4
  have hlt := World.ownsRow.lt h.own
  have hG : ∀ k, k < N + 3 → ¬ qv.ownBlock = some k := fun k hk hg => by have := (hlt k hg).1; omega
  have z6 := h.z.aside (by simp) h3 (hG _ (by omega))
  have r6 := h.r.aside (by simp) h3 (hG _ (by omega))
  have hs := Nat.le_trans h.size h3.size
  have hst : Aside (fun k => k = N + 2) w6 (w6.setCell ⟨N + 2, 2, none⟩ (.slice a (l.length + 1) c)) := Aside.setCell w6 (p := ⟨N + 2, 2, none⟩) _ rfl
  refine ⟨a, c, w6, h1, r6.fz 2, r6.c 2 (by simp), ⟨?_, z6.other (a := ⟨N + 2, 2, none⟩) (by show N + 2 ≠ N + 1; omega) _, r6.set (o := 2) (by simp) _, row_aside h2 hst fun k hk hg => by have := (World.ownsRow.lt h2 k hk).1; omega, Nat.le_trans hs hst.size⟩, fun b hb => ?_⟩
  · exact below_aside (below_aside h.bel h3 (fun k hk => ⟨by have := h.size; omega, hG k (by omega)⟩)) hst (fun k hk => ⟨by omega, by omega⟩)
  · rcases h4 with h4 | h4
    · exact .inl (by rw [← h4]; exact hb)
    · right
      rw [h4] at hb
      injection hb with hb
      omega
end

section
variable {w : World} {q : Nat} {a0 a1 a2 a3 a4 a5 : Value}
/-- Six cells stored one after another. -/
def put6 (w : World) (q : Nat) (b0 b1 b2 b3 b4 b5 : Value) : World :=
  (((((w.setCell ⟨q, 0, none⟩ b0).setCell ⟨q, 1, none⟩ b1).setCell ⟨q, 2, none⟩ b2).setCell ⟨q, 3, none⟩ b3).setCell ⟨q, 4, none⟩ b4).setCell ⟨q, 5, none⟩ b5
theorem cel_put6 (h : Cel w q [a0, a1, a2, a3, a4, a5]) (b0 b1 b2 b3 b4 b5 : Value) : Cel (put6 w q b0 b1 b2 b3 b4 b5) q [b0, b1, b2, b3, b4, b5] := by
  have := (((((h.set (o := 0) (by simp) b0).set (o := 1) (by simp) b1).set (o := 2) (by simp) b2).set (o := 3) (by simp) b3).set (o := 4) (by simp) b4).set (o := 5) (by simp) b5
  simp only [List.set_cons_zero, List.set_cons_succ] at this
  exact this
theorem aside_put6 (w : World) (q : Nat) (b0 b1 b2 b3 b4 b5 : Value) : Aside (fun k => k = q) w (put6 w q b0 b1 b2 b3 b4 b5) := by
  have st : ∀ (x : World) (o : Nat) (v : Value), Aside (fun k => k = q) x (x.setCell ⟨q, o, none⟩ v) := fun x o v => Aside.setCell x (p := ⟨q, o, none⟩) v rfl
  exact (((((st _ _ _).trans (st _ _ _)).trans (st _ _ _)).trans (st _ _ _)).trans (st _ _ _)).trans (st _ _ _)
end

theorem row_base {w : World} {B B' k n : Nat} {e : TypeId} {v : Value} {xs : List Value} (h : w.ownsRow B e k v n xs) (hB : B' ≤ B) : w.ownsRow B' e k v n xs := by
  refine ⟨h.1, ?_⟩
  rcases h.2 with h2 | ⟨g, cap, cur, h2⟩
  · exact .inl h2
  · exact .inr ⟨g, cap, cur, h2.1, Nat.le_trans hB h2.2.1, h2.2.2⟩

theorem qn_take (l : List Qn) (k : Nat) (h : k < l.length) : l.take k ++ [l[k]] = l.take (k + 1) := by
  rw [List.take_add_one, List.getElem?_eq_getElem h, Option.toList_some]

/-- What Reply tells. -/
def RpPost (w : World) (m : Ms) (c : Int) (e : Ending) (w' : World) : Prop := ∃ q, e = .returned (.agg #[.int .i64 m.id, .int .i64 (rpF m.fl c), q, .slice none 0 0, .slice none 0 0, .slice none 0 0]) ∧ OwnQn w' w.heap.size q m.q ∧ Below w.heap.size w w'

set_option maxHeartbeats 8000000 in
theorem replyM_any {w : World} {hi : Nat} {u : Value} {m : Ms} (c : Int) (h : Mg w hi u m) (h1 : hi ≤ w.heap.size) (hl : m.q.length ≤ 900000) (hn : ∀ x ∈ m.q, x.n.length ≤ 1000000) :
    Calls Tryz.prog 19 #[u, .int .i64 c] w (RpPost w m c) := by
  obtain ⟨q, a, n, r, rfl, hq, _, _, _⟩ := h
  obtain ⟨xa, xc, rfl⟩ := Lst.shape hq
  obtain ⟨i0, hi0⟩ : ∃ i, m.id = i := ⟨_, rfl⟩
  obtain ⟨f0, hf0⟩ : ∃ i, m.fl = i := ⟨_, rfl⟩
  obtain ⟨l, hlq⟩ : ∃ l, m.q = l := ⟨_, rfl⟩
  unfold RpPost
  rw [hi0, hf0, hlq]
  rw [hlq] at hq hl hn
  clear hi0 hf0 hlq
  obtain ⟨fl, hfl⟩ : ∃ y, rpF f0 c = y := ⟨_, rfl⟩
  obtain ⟨ls, hls⟩ : ∃ n, l.length = n := ⟨_, rfl⟩
  obtain ⟨N, hN⟩ : ∃ g, w.heap.size = g := ⟨_, rfl⟩
  have HQ := Lib.hid hq
  have HLN := Lib.hid (Lst.len hq)
  have HL := Lib.hid hl
  have HNN := Lib.hid hn
  have HF := Lib.hid (fun wx => (by have := mwith_any (rpB f0) c wx; rw [show wcF (rpB f0) c = fl from hfl] at this; exact this : Calls Tryz.prog 27 #[.int .i64 (rpB f0), .int .i64 c] wx (Tell0 wx (.int .i64 fl))))
  have HHI := Lib.hid h1
  have HN := Lib.hid hN
  rw [hls] at HLN
  rw [hfl]
  clear hq hl hn h1 hfl hN
  unfold rpB at HF
  rw [hls]
  go_enter Tryz.func19, Tryz.ntmps19
  go_wp2_with fail
  obtain ⟨W1, hW1⟩ : ∃ X, w.alloc (.cells #[.int .i64 i0, .int .i64 f0, .slice xa ls xc, a, n, r] 25) = X := ⟨_, rfl⟩
  obtain ⟨W2, hW2⟩ : ∃ X, W1.alloc (.cells #[.int .i64 0, .int .i64 0, .slice none 0 0, .slice none 0 0, .slice none 0 0, .slice none 0 0] 25) = X := ⟨_, rfl⟩
  rw [hW1, hW2, HN.out]
  have s1 : W1.heap.size = N + 1 := by rw [← hW1, World.size_alloc, HN.out]
  have s2 : W2.heap.size = N + 2 := by rw [← hW2, World.size_alloc, s1]
  have x1 : Cel W1 N [.int .i64 i0, .int .i64 f0, .slice xa ls xc, a, n, r] := by
    have := cel_new6 w (.int .i64 i0) (.int .i64 f0) (.slice xa ls xc) a n r 25
    rwa [hW1, HN.out] at this
  have x2 : Cel W2 (N + 1) [.int .i64 0, .int .i64 0, .slice none 0 0, .slice none 0 0, .slice none 0 0, .slice none 0 0] := by
    have := cel_new6 W1 (.int .i64 0) (.int .i64 0) (.slice none 0 0) (.slice none 0 0) (.slice none 0 0) (.slice none 0 0) 25
    rwa [hW2, s1] at this
  have b2 : Below N w W2 := by rw [← hW2, ← hW1]; exact ((Below.refl _ _).alloc (by rw [HN.out]; exact Nat.le_refl _) _).alloc (by simp [HN.out]) _
  replace x1 : Cel W2 N [.int .i64 i0, .int .i64 f0, .slice xa ls xc, a, n, r] := x1.below (by simp) (by rw [← hW2]; exact (Below.refl _ _).alloc (Nat.le_refl _) _)
  obtain ⟨WX, hWX⟩ : ∃ X, W2.drew = X := ⟨_, rfl⟩
  have y1 : Cel WX N [.int .i64 i0, .int .i64 f0, .slice xa ls xc, a, n, r] := by rw [← hWX]; exact ⟨x1.c, x1.fz⟩
  have HX2 := Lib.hid (show Cel WX (N + 1) [.int .i64 0, .int .i64 0, .slice none 0 0, .slice none 0 0, .slice none 0 0, .slice none 0 0] by rw [← hWX]; exact ⟨x2.c, x2.fz⟩)
  have HB := Lib.hid (show Below N w WX by rw [← hWX]; exact b2.drew)
  have sX : WX.heap.size = N + 2 := by rw [← hWX]; exact s2
  have HX1 := Lib.hid y1
  have HX1o := HX1
  clear x1 x2 b2 s1 s2 hW2 hW1 y1
  refine wp_region_held_drew (S := (fun wx => wx.cell? ⟨N, 0, none⟩ = some (.int .i64 i0) ∧ wx.cell? ⟨N, 1, none⟩ = some (.int .i64 f0) ∧ wx.cell? ⟨N, 2, none⟩ = some (.slice xa ls xc))) (by kernel_rfl) (by rw [hWX]; exact ⟨HX1.out.c 0 (by simp), HX1.out.c 1 (by simp), HX1.out.c 2 (by simp)⟩) (fun hHeld => ?_)
  refine wpAnyH_take (i := 0) (oi := { dst := some 12, op := Op.fieldAddr 25 (Operand.tmp 2) 0, type := 0, pos := "msg.go:107", after := #[], guard := none }) (v := ?_) rfl (by kernel_rfl) (by kernel_rfl) (by kernel_rfl) (fun _ _ _ h => h) (Or.inl ⟨by rfl, ?_⟩) (by assumption) ?_
  rotate_left 1
  · intro w hSw; (try dsimp only at hSw); go_simp; try (with_reducible rfl)
  try simp only [Act.put, List.setIfInBounds_toArray, List.set_cons_zero, List.set_cons_succ]
  refine wpAnyH_take (i := 1) (oi := { dst := some 13, op := Op.load 3 (Operand.tmp 12), type := 3, pos := "msg.go:107", after := #[{ on := 0, ground := Ground.data }], guard := none }) (v := ?_) rfl (by kernel_rfl) (by kernel_rfl) (by kernel_rfl) (fun _ _ _ h => h) (Or.inl ⟨by rfl, ?_⟩) (by assumption) ?_
  rotate_left 1
  · intro w hSw; (try dsimp only at hSw); go_simp; try (with_reducible rfl)
  try simp only [Act.put, List.setIfInBounds_toArray, List.set_cons_zero, List.set_cons_succ]
  refine wpAnyH_take (i := 2) (oi := { dst := some 14, op := Op.move (Operand.tmp 5), type := 3, pos := "msg.go:107", after := #[], guard := none }) (v := ?_) rfl (by kernel_rfl) (by kernel_rfl) (by kernel_rfl) (fun _ _ _ h => h) (Or.inl ⟨by rfl, ?_⟩) (by assumption) ?_
  rotate_left 1
  · intro w hSw; (try dsimp only at hSw); go_simp; try (with_reducible rfl)
  try simp only [Act.put, List.setIfInBounds_toArray, List.set_cons_zero, List.set_cons_succ]
  refine wpAnyH_take (i := 3) (oi := { dst := some 15, op := Op.binOp BinOp.or 3 (Operand.tmp 14) (Operand.const (Value.int IntKind.i64 32768)) 3, type := 3, pos := "msg.go:107", after := #[{ on := 2, ground := Ground.data }], guard := none }) (v := ?_) rfl (by kernel_rfl) (by kernel_rfl) (by kernel_rfl) (fun _ _ _ h => h) (Or.inl ⟨by rfl, ?_⟩) (by assumption) ?_
  rotate_left 1
  · intro w hSw; (try dsimp only at hSw); go_simp; try (with_reducible rfl)
  try simp only [Act.put, List.setIfInBounds_toArray, List.set_cons_zero, List.set_cons_succ]
  refine wpAnyH_take (i := 4) (oi := { dst := some 16, op := Op.binOp BinOp.or 3 (Operand.tmp 15) (Operand.const (Value.int IntKind.i64 128)) 3, type := 3, pos := "msg.go:107", after := #[{ on := 3, ground := Ground.data }], guard := none }) (v := ?_) rfl (by kernel_rfl) (by kernel_rfl) (by kernel_rfl) (fun _ _ _ h => h) (Or.inl ⟨by rfl, ?_⟩) (by assumption) ?_
  rotate_left 1
  · intro w hSw; (try dsimp only at hSw); go_simp; try (with_reducible rfl)
  try simp only [Act.put, List.setIfInBounds_toArray, List.set_cons_zero, List.set_cons_succ]
  refine wpAnyH_take (i := 5) (oi := { dst := some 17, op := Op.move (Operand.tmp 1), type := 3, pos := "msg.go:107", after := #[], guard := none }) (v := ?_) rfl (by kernel_rfl) (by kernel_rfl) (by kernel_rfl) (fun _ _ _ h => h) (Or.inl ⟨by rfl, ?_⟩) (by assumption) ?_
  rotate_left 1
  · intro w hSw; (try dsimp only at hSw); go_simp; try (with_reducible rfl)
  try simp only [Act.put, List.setIfInBounds_toArray, List.set_cons_zero, List.set_cons_succ]
  refine wpAnyH_ready (rs := [6, 8]) (by kernel_rfl) (by simp) ?_
  refine AllReadyH.cons (o := { dst := some 18, op := Op.call { callee := Callee.value (Operand.func 27), args := #[Operand.tmp 16, Operand.tmp 17], argTypes := #[3, 3] }, type := 3, pos := "msg.go:107", after := #[{ on := 4, ground := Ground.data }, { on := 5, ground := Ground.data }], guard := none }) rfl (fun K hK => ?_) (AllReadyH.cons (o := { dst := some 6, op := Op.alloc 25, type := 0, pos := "msg.go:107", after := #[], guard := none }) rfl (fun K hK => ?_) (AllReadyH.nil))
  · go_simp
    refine (HF.out _).mono ?_; rintro e0 w5 ⟨rfl, rfl⟩
    try go_wp2_with fail
    refine hK.out _ _ ⟨HX1.out.c 0 (by simp), HX1.out.c 1 (by simp), HX1.out.c 2 (by simp)⟩ (fun hHeld => ?_)
    clear hK K
    try simp only [Act.put, List.setIfInBounds_toArray, List.set_cons_zero, List.set_cons_succ]
    refine wpAnyH_take (i := 7) (oi := { dst := some 19, op := Op.build 25 #[(0, Operand.tmp 13), (1, Operand.tmp 18)], type := 25, pos := "msg.go:107", after := #[{ on := 1, ground := Ground.data }, { on := 6, ground := Ground.data }], guard := none }) (v := ?_) rfl (by kernel_rfl) (by kernel_rfl) (by kernel_rfl) (fun _ _ _ h => h) (Or.inl ⟨by rfl, ?_⟩) (by assumption) ?_
    rotate_left 1
    · intro w hSw; (try dsimp only at hSw); go_simp; try (with_reducible rfl)
    try simp only [Act.put, List.setIfInBounds_toArray, List.set_cons_zero, List.set_cons_succ]
    refine wpAnyH_ready (rs := [8]) (by kernel_rfl) (by simp) ?_
    refine AllReadyH.cons (o := { dst := some 6, op := Op.alloc 25, type := 0, pos := "msg.go:107", after := #[], guard := none }) rfl (fun K hK => ?_) (AllReadyH.nil)
    go_simp
    replace HX1 := Lib.hid (HX1o.out.below (by simp) (show Below WX.heap.size WX (WX.alloc (.cells #[.int .i64 0, .int .i64 0, .slice none 0 0, .slice none 0 0, .slice none 0 0, .slice none 0 0] 25)) from (Below.refl _ _).alloc (Nat.le_refl _) _))
    refine hK.out _ _ ⟨HX1.out.c 0 (by simp), HX1.out.c 1 (by simp), HX1.out.c 2 (by simp)⟩ (fun hHeld => ?_)
    clear hK K
    try simp only [Act.put, List.setIfInBounds_toArray, List.set_cons_zero, List.set_cons_succ]
    refine wpAnyH_ready (rs := [9]) (by kernel_rfl) (by simp) ?_
    refine AllReadyH.cons (o := { dst := none, op := Op.store 25 (Operand.tmp 6) (Operand.tmp 19), type := 0, pos := "msg.go:107", after := #[{ on := 8, ground := Ground.data }, { on := 7, ground := Ground.data }, { on := 6, ground := Ground.chain }, { on := 0, ground := Ground.phase }, { on := 1, ground := Ground.phase }, { on := 2, ground := Ground.phase }, { on := 3, ground := Ground.phase }, { on := 4, ground := Ground.phase }, { on := 5, ground := Ground.phase }, { on := 6, ground := Ground.phase }, { on := 7, ground := Ground.phase }, { on := 8, ground := Ground.phase }], guard := none }) rfl (fun K hK => ?_) (AllReadyH.nil)
    go_simp
    have hb : Below WX.heap.size WX (WX.alloc (.cells #[.int .i64 i0, .int .i64 fl, .slice none 0 0, .slice none 0 0, .slice none 0 0, .slice none 0 0] 25)) := (Below.refl _ _).alloc (Nat.le_refl _) _
    replace HX1 := Lib.hid (HX1o.out.below (by simp) hb)
    have x3 : Cel (WX.alloc (.cells #[.int .i64 i0, .int .i64 fl, .slice none 0 0, .slice none 0 0, .slice none 0 0, .slice none 0 0] 25)) (N + 2) [.int .i64 i0, .int .i64 fl, .slice none 0 0, .slice none 0 0, .slice none 0 0, .slice none 0 0] := by
      have := cel_new6 WX (.int .i64 i0) (.int .i64 fl) (.slice none 0 0) (.slice none 0 0) (.slice none 0 0) (.slice none 0 0) 25
      rwa [sX] at this
    have HP := Lib.hid (show Rp w (WX.alloc (.cells #[.int .i64 i0, .int .i64 fl, .slice none 0 0, .slice none 0 0, .slice none 0 0, .slice none 0 0] 25)) N i0 fl (.slice none 0 0) [] from ⟨HB.out.alloc (by rw [sX]; omega) _, HX2.out.below (by simp) hb, x3, World.ownsRow_nil _ _ _ _, by rw [World.size_alloc, sX]; omega⟩)
    clear hb x3
    refine hK.out _ _ ⟨HX1.out.c 0 (by simp), HX1.out.c 1 (by simp), HX1.out.c 2 (by simp)⟩ (fun hHeld => ?_)
    clear hK K
    try simp only [Act.put, List.setIfInBounds_toArray, List.set_cons_zero, List.set_cons_succ]
    refine wpAnyH_done (by kernel_rfl) ?_ _
    clear hHeld
    obtain ⟨Y, hY⟩ : ∃ Y, WX.alloc (.cells #[.int .i64 i0, .int .i64 fl, .slice none 0 0, .slice none 0 0, .slice none 0 0, .slice none 0 0] 25) = Y := ⟨_, rfl⟩
    rw [hY] at HP HX1 ⊢
    have y2 : Y.cell? ⟨N, 2, none⟩ = some (.slice xa ls xc) := HX1.out.c 2 (by simp)
    clear hY HB HX2 HX1o sX hWX
    go_wp2_with fail
    clear y2 HX1
    go_loopg [23] ls (fun g v23 wr => ∃ k : Nat, k + g = ls ∧ v23 = .int .i64 k ∧ ∃ qv, Hid (Rp w wr N i0 fl qv (l.take k)))
    case atStart => exact ⟨0, by omega, rfl, _, HP⟩
    case round =>
      clear HP
      obtain ⟨k, hk, rfl, qv, HP⟩ := hrel
      have hlen := HLN.out
      by_cases hlt : k < ls
      · have hkl : k < l.length := by omega
        obtain ⟨b, off, c2, he, hb, hc⟩ := HQ.out.at_ k hkl
        injection he with he hn3 hc3
        clear hn3 hc3
        subst he
        obtain ⟨c0, c1, c2⟩ := hc.keep fun o => HP.out.bel.cell (p := ⟨b, o, none⟩) (by have := HHI.out; rw [HN.out] at this; exact Nat.lt_of_lt_of_le hb this)
        have HTK := Lib.hid (qn_take l k hkl)
        have HXN := Lib.hid (HNN.out l[k] (List.getElem_mem hkl))
        obtain ⟨x, hx⟩ : ∃ x, l[k] = x := ⟨_, rfl⟩
        rw [hx] at c0 c1 c2 HTK HXN
        have HTL := Lib.hid (show (l.take k).length = k by rw [List.length_take]; omega)
        obtain ⟨g, hg⟩ : ∃ g, wr.heap.size = g := ⟨_, rfl⟩
        have HQC := Lib.hid (show Cel (wr.alloc (.cells #[.string (bs x.n), .int .i64 x.t, .int .i64 x.c] 56)) g [.string (bs x.n), .int .i64 x.t, .int .i64 x.c] by
          have := cel_new3 wr (.string (bs x.n)) (.int .i64 x.t) (.int .i64 x.c) 56
          rwa [hg] at this)
        have HGN := Lib.hid (show N + 3 ≤ g by rw [← hg]; exact HP.out.size)
        have HGO := Lib.hid (show ∀ j, qv.ownBlock = some j → j ≠ g from fun j hj => by have := (World.ownsRow.lt HP.out.own j hj).2; omega)
        replace HP := Lib.hid (HP.out.later ((Below.refl wr.heap.size wr).alloc (Nat.le_refl _) (.cells #[.string (bs x.n), .int .i64 x.t, .int .i64 x.c] 56)))
        clear hc hx hb hkl
        go_wp2_with fail
        refine (clone_any _ (by rw [bs_size]; exact HXN.out) _).mono ?_; rintro e w3 ⟨rfl, hb⟩
        have HQ3 := Lib.hid (HQC.out.below (by simp) hb)
        have HP3 := Lib.hid (HP.out.later hb)
        have HS3 := Lib.hid (show g < w3.heap.size from HQ3.out.lt (by simp))
        have hst : Aside (fun j => j = g) w3 (w3.setCell ⟨g, 0, none⟩ (.string (bs x.n))) := Aside.setCell w3 (p := ⟨g, 0, none⟩) _ rfl
        have HP4 := Lib.hid (HP3.out.aside hst HGN.out HGO.out)
        have HQ4 := Lib.hid (show Cel (w3.setCell ⟨g, 0, none⟩ (.string (bs x.n))) g [.string (bs x.n), .int .i64 x.t, .int .i64 x.c] from HQ3.out.set (o := 0) (by simp) (.string (bs x.n)))
        have hb5 : Below (w3.setCell ⟨g, 0, none⟩ (.string (bs x.n))).heap.size (w3.setCell ⟨g, 0, none⟩ (.string (bs x.n))) ((w3.setCell ⟨g, 0, none⟩ (.string (bs x.n))).alloc (.cells #[.string (bs x.n), .int .i64 x.t, .int .i64 x.c] 56)) := (Below.refl _ _).alloc (Nat.le_refl _) _
        have HP5 := Lib.hid (HP4.out.later hb5)
        have hone := sq_one (w3.setCell ⟨g, 0, none⟩ (.string (bs x.n))) x
        rw [show (w3.setCell ⟨g, 0, none⟩ (.string (bs x.n))).heap.size = w3.heap.size from World.size_setCell _ _ _] at hone
        obtain ⟨a6, cp6, w6, hrun, hfz, hcl, hp6, _⟩ := HP5.out.app hone (by rw [HTL.out]; have := HL.out; omega)
        rw [HTL.out] at hrun hp6
        rw [HTK.out] at hp6
        have HRUN := Lib.hid hrun
        have HP6 := Lib.hid hp6
        have f3 : w3.frozen? ⟨g, 0, none⟩ = false := HQ3.out.fz 0
        have d0 : w3.cell? ⟨g, 0, none⟩ = some (.string (bs x.n)) := HQ3.out.c 0 (by simp)
        have e0 : (w3.setCell ⟨g, 0, none⟩ (.string (bs x.n))).cell? ⟨g, 0, none⟩ = some (.string (bs x.n)) := HQ4.out.c 0 (by simp)
        have e1 : (w3.setCell ⟨g, 0, none⟩ (.string (bs x.n))).cell? ⟨g, 1, none⟩ = some (.int .i64 x.t) := HQ4.out.c 1 (by simp)
        have e2 : (w3.setCell ⟨g, 0, none⟩ (.string (bs x.n))).cell? ⟨g, 2, none⟩ = some (.int .i64 x.c) := HQ4.out.c 2 (by simp)
        have e3 : (w3.setCell ⟨g, 0, none⟩ (.string (bs x.n))).cell? ⟨N + 2, 2, none⟩ = some qv := HP4.out.r.c 2 (by simp)
        clear hb hst hb5 hone hrun hp6 HP HP3 HP4 HP5 HQC HQ3 HQ4

        go_wp2_with (at_builtin; refine wpList_append_run (.tmp 32) (.tmp 34) 22 22 rfl rfl rfl rfl HRUN.out ?_)

        go_roundg (ls - (k + 1))
        case measure => omega
        case rel => exact ⟨k + 1, by omega, by go_num, _, HP6⟩
      · have t1 : ¬ ((k : Int) < ls) := by omega
        have hkl : l.take k = l := List.take_of_length_le (by omega)
        rw [hkl] at HP
        have r0 := HP.out.r.c 0 (by simp)
        have r1 := HP.out.r.c 1 (by simp)
        have r2 := HP.out.r.c 2 (by simp)
        have r3 := HP.out.r.c 3 (by simp)
        have r4 := HP.out.r.c 4 (by simp)
        have r5 := HP.out.r.c 5 (by simp)
        have z0 := HP.out.z.c 0 (by simp)
        have z1 := HP.out.z.c 1 (by simp)
        have z2 := HP.out.z.c 2 (by simp)
        have z3 := HP.out.z.c 3 (by simp)
        have z4 := HP.out.z.c 4 (by simp)
        have z5 := HP.out.z.c 5 (by simp)
        simp only [List.getElem_cons_zero, List.getElem_cons_succ] at r0 r1 r2 r3 r4 r5 z0 z1 z2 z3 z4 z5
        have f1 := HP.out.z.fz
        obtain ⟨qa, qc, rfl⟩ := row_shape HP.out.own

        go_wp2_with fail
        have k6 := cel_put6 HP.out.z (.int .i64 i0) (.int .i64 fl) (.slice qa l.length qc) (.slice none 0 0) (.slice none 0 0) (.slice none 0 0)
        have ha := aside_put6 wr (N + 1) (.int .i64 i0) (.int .i64 fl) (.slice qa l.length qc) (.slice none 0 0) (.slice none 0 0) (.slice none 0 0)
        rw [hls] at k6 ha
        have m0 := k6.c 0 (by simp)
        have m1 := k6.c 1 (by simp)
        have m2 := k6.c 2 (by simp)
        have m3 := k6.c 3 (by simp)
        have m4 := k6.c 4 (by simp)
        have m5 := k6.c 5 (by simp)
        simp only [List.getElem_cons_zero, List.getElem_cons_succ] at m0 m1 m2 m3 m4 m5
        unfold put6 at m0 m1 m2 m3 m4 m5 ha
        have hown := HP.out.own
        rw [hls] at hown
        clear r0 r1 r2 r3 r4 r5 z0 z1 z2 z3 z4 z5 f1
        refine bodyPost_ret (by simp [results, Tryz.results19, go_sem, m0, m1, m2, m3, m4, m5]) rfl ⟨.slice qa ls qc, rfl, ?_, ?_⟩
        · rw [HN.out]
          have h9 := row_aside hown ha fun j hj hg => by have := (World.ownsRow.lt hown j hj).1; omega
          exact row_base h9 (by omega)
        · rw [HN.out]
          exact below_aside HP.out.bel ha (fun j hj => ⟨by have := HP.out.size; omega, by omega⟩)
  · go_simp
    replace HX1 := Lib.hid (HX1o.out.below (by simp) (show Below WX.heap.size WX (WX.alloc (.cells #[.int .i64 0, .int .i64 0, .slice none 0 0, .slice none 0 0, .slice none 0 0, .slice none 0 0] 25)) from (Below.refl _ _).alloc (Nat.le_refl _) _))
    refine hK.out _ _ ⟨HX1.out.c 0 (by simp), HX1.out.c 1 (by simp), HX1.out.c 2 (by simp)⟩ (fun hHeld => ?_)
    clear hK K
    try simp only [Act.put, List.setIfInBounds_toArray, List.set_cons_zero, List.set_cons_succ]
    refine wpAnyH_ready (rs := [6]) (by kernel_rfl) (by simp) ?_
    refine AllReadyH.cons (o := { dst := some 18, op := Op.call { callee := Callee.value (Operand.func 27), args := #[Operand.tmp 16, Operand.tmp 17], argTypes := #[3, 3] }, type := 3, pos := "msg.go:107", after := #[{ on := 4, ground := Ground.data }, { on := 5, ground := Ground.data }], guard := none }) rfl (fun K hK => ?_) (AllReadyH.nil)
    go_simp
    refine (HF.out _).mono ?_; rintro e0 w5 ⟨rfl, rfl⟩
    try go_wp2_with fail
    refine hK.out _ _ ⟨HX1.out.c 0 (by simp), HX1.out.c 1 (by simp), HX1.out.c 2 (by simp)⟩ (fun hHeld => ?_)
    clear hK K
    try simp only [Act.put, List.setIfInBounds_toArray, List.set_cons_zero, List.set_cons_succ]
    refine wpAnyH_take (i := 7) (oi := { dst := some 19, op := Op.build 25 #[(0, Operand.tmp 13), (1, Operand.tmp 18)], type := 25, pos := "msg.go:107", after := #[{ on := 1, ground := Ground.data }, { on := 6, ground := Ground.data }], guard := none }) (v := ?_) rfl (by kernel_rfl) (by kernel_rfl) (by kernel_rfl) (fun _ _ _ h => h) (Or.inl ⟨by rfl, ?_⟩) (by assumption) ?_
    rotate_left 1
    · intro w hSw; (try dsimp only at hSw); go_simp; try (with_reducible rfl)
    try simp only [Act.put, List.setIfInBounds_toArray, List.set_cons_zero, List.set_cons_succ]
    refine wpAnyH_ready (rs := [9]) (by kernel_rfl) (by simp) ?_
    refine AllReadyH.cons (o := { dst := none, op := Op.store 25 (Operand.tmp 6) (Operand.tmp 19), type := 0, pos := "msg.go:107", after := #[{ on := 8, ground := Ground.data }, { on := 7, ground := Ground.data }, { on := 6, ground := Ground.chain }, { on := 0, ground := Ground.phase }, { on := 1, ground := Ground.phase }, { on := 2, ground := Ground.phase }, { on := 3, ground := Ground.phase }, { on := 4, ground := Ground.phase }, { on := 5, ground := Ground.phase }, { on := 6, ground := Ground.phase }, { on := 7, ground := Ground.phase }, { on := 8, ground := Ground.phase }], guard := none }) rfl (fun K hK => ?_) (AllReadyH.nil)
    go_simp
    have hb : Below WX.heap.size WX (WX.alloc (.cells #[.int .i64 i0, .int .i64 fl, .slice none 0 0, .slice none 0 0, .slice none 0 0, .slice none 0 0] 25)) := (Below.refl _ _).alloc (Nat.le_refl _) _
    replace HX1 := Lib.hid (HX1o.out.below (by simp) hb)
    have x3 : Cel (WX.alloc (.cells #[.int .i64 i0, .int .i64 fl, .slice none 0 0, .slice none 0 0, .slice none 0 0, .slice none 0 0] 25)) (N + 2) [.int .i64 i0, .int .i64 fl, .slice none 0 0, .slice none 0 0, .slice none 0 0, .slice none 0 0] := by
      have := cel_new6 WX (.int .i64 i0) (.int .i64 fl) (.slice none 0 0) (.slice none 0 0) (.slice none 0 0) (.slice none 0 0) 25
      rwa [sX] at this
    have HP := Lib.hid (show Rp w (WX.alloc (.cells #[.int .i64 i0, .int .i64 fl, .slice none 0 0, .slice none 0 0, .slice none 0 0, .slice none 0 0] 25)) N i0 fl (.slice none 0 0) [] from ⟨HB.out.alloc (by rw [sX]; omega) _, HX2.out.below (by simp) hb, x3, World.ownsRow_nil _ _ _ _, by rw [World.size_alloc, sX]; omega⟩)
    clear hb x3
    refine hK.out _ _ ⟨HX1.out.c 0 (by simp), HX1.out.c 1 (by simp), HX1.out.c 2 (by simp)⟩ (fun hHeld => ?_)
    clear hK K
    try simp only [Act.put, List.setIfInBounds_toArray, List.set_cons_zero, List.set_cons_succ]
    refine wpAnyH_done (by kernel_rfl) ?_ _
    clear hHeld
    obtain ⟨Y, hY⟩ : ∃ Y, WX.alloc (.cells #[.int .i64 i0, .int .i64 fl, .slice none 0 0, .slice none 0 0, .slice none 0 0, .slice none 0 0] 25) = Y := ⟨_, rfl⟩
    rw [hY] at HP HX1 ⊢
    have y2 : Y.cell? ⟨N, 2, none⟩ = some (.slice xa ls xc) := HX1.out.c 2 (by simp)
    clear hY HB HX2 HX1o sX hWX
    go_wp2_with fail
    clear y2 HX1
    go_loopg [23] ls (fun g v23 wr => ∃ k : Nat, k + g = ls ∧ v23 = .int .i64 k ∧ ∃ qv, Hid (Rp w wr N i0 fl qv (l.take k)))
    case atStart => exact ⟨0, by omega, rfl, _, HP⟩
    case round =>
      clear HP
      obtain ⟨k, hk, rfl, qv, HP⟩ := hrel
      have hlen := HLN.out
      by_cases hlt : k < ls
      · have hkl : k < l.length := by omega
        obtain ⟨b, off, c2, he, hb, hc⟩ := HQ.out.at_ k hkl
        injection he with he hn3 hc3
        clear hn3 hc3
        subst he
        obtain ⟨c0, c1, c2⟩ := hc.keep fun o => HP.out.bel.cell (p := ⟨b, o, none⟩) (by have := HHI.out; rw [HN.out] at this; exact Nat.lt_of_lt_of_le hb this)
        have HTK := Lib.hid (qn_take l k hkl)
        have HXN := Lib.hid (HNN.out l[k] (List.getElem_mem hkl))
        obtain ⟨x, hx⟩ : ∃ x, l[k] = x := ⟨_, rfl⟩
        rw [hx] at c0 c1 c2 HTK HXN
        have HTL := Lib.hid (show (l.take k).length = k by rw [List.length_take]; omega)
        obtain ⟨g, hg⟩ : ∃ g, wr.heap.size = g := ⟨_, rfl⟩
        have HQC := Lib.hid (show Cel (wr.alloc (.cells #[.string (bs x.n), .int .i64 x.t, .int .i64 x.c] 56)) g [.string (bs x.n), .int .i64 x.t, .int .i64 x.c] by
          have := cel_new3 wr (.string (bs x.n)) (.int .i64 x.t) (.int .i64 x.c) 56
          rwa [hg] at this)
        have HGN := Lib.hid (show N + 3 ≤ g by rw [← hg]; exact HP.out.size)
        have HGO := Lib.hid (show ∀ j, qv.ownBlock = some j → j ≠ g from fun j hj => by have := (World.ownsRow.lt HP.out.own j hj).2; omega)
        replace HP := Lib.hid (HP.out.later ((Below.refl wr.heap.size wr).alloc (Nat.le_refl _) (.cells #[.string (bs x.n), .int .i64 x.t, .int .i64 x.c] 56)))
        clear hc hx hb hkl
        go_wp2_with fail
        refine (clone_any _ (by rw [bs_size]; exact HXN.out) _).mono ?_; rintro e w3 ⟨rfl, hb⟩
        have HQ3 := Lib.hid (HQC.out.below (by simp) hb)
        have HP3 := Lib.hid (HP.out.later hb)
        have HS3 := Lib.hid (show g < w3.heap.size from HQ3.out.lt (by simp))
        have hst : Aside (fun j => j = g) w3 (w3.setCell ⟨g, 0, none⟩ (.string (bs x.n))) := Aside.setCell w3 (p := ⟨g, 0, none⟩) _ rfl
        have HP4 := Lib.hid (HP3.out.aside hst HGN.out HGO.out)
        have HQ4 := Lib.hid (show Cel (w3.setCell ⟨g, 0, none⟩ (.string (bs x.n))) g [.string (bs x.n), .int .i64 x.t, .int .i64 x.c] from HQ3.out.set (o := 0) (by simp) (.string (bs x.n)))
        have hb5 : Below (w3.setCell ⟨g, 0, none⟩ (.string (bs x.n))).heap.size (w3.setCell ⟨g, 0, none⟩ (.string (bs x.n))) ((w3.setCell ⟨g, 0, none⟩ (.string (bs x.n))).alloc (.cells #[.string (bs x.n), .int .i64 x.t, .int .i64 x.c] 56)) := (Below.refl _ _).alloc (Nat.le_refl _) _
        have HP5 := Lib.hid (HP4.out.later hb5)
        have hone := sq_one (w3.setCell ⟨g, 0, none⟩ (.string (bs x.n))) x
        rw [show (w3.setCell ⟨g, 0, none⟩ (.string (bs x.n))).heap.size = w3.heap.size from World.size_setCell _ _ _] at hone
        obtain ⟨a6, cp6, w6, hrun, hfz, hcl, hp6, _⟩ := HP5.out.app hone (by rw [HTL.out]; have := HL.out; omega)
        rw [HTL.out] at hrun hp6
        rw [HTK.out] at hp6
        have HRUN := Lib.hid hrun
        have HP6 := Lib.hid hp6
        have f3 : w3.frozen? ⟨g, 0, none⟩ = false := HQ3.out.fz 0
        have d0 : w3.cell? ⟨g, 0, none⟩ = some (.string (bs x.n)) := HQ3.out.c 0 (by simp)
        have e0 : (w3.setCell ⟨g, 0, none⟩ (.string (bs x.n))).cell? ⟨g, 0, none⟩ = some (.string (bs x.n)) := HQ4.out.c 0 (by simp)
        have e1 : (w3.setCell ⟨g, 0, none⟩ (.string (bs x.n))).cell? ⟨g, 1, none⟩ = some (.int .i64 x.t) := HQ4.out.c 1 (by simp)
        have e2 : (w3.setCell ⟨g, 0, none⟩ (.string (bs x.n))).cell? ⟨g, 2, none⟩ = some (.int .i64 x.c) := HQ4.out.c 2 (by simp)
        have e3 : (w3.setCell ⟨g, 0, none⟩ (.string (bs x.n))).cell? ⟨N + 2, 2, none⟩ = some qv := HP4.out.r.c 2 (by simp)
        clear hb hst hb5 hone hrun hp6 HP HP3 HP4 HP5 HQC HQ3 HQ4

        go_wp2_with (at_builtin; refine wpList_append_run (.tmp 32) (.tmp 34) 22 22 rfl rfl rfl rfl HRUN.out ?_)

        go_roundg (ls - (k + 1))
        case measure => omega
        case rel => exact ⟨k + 1, by omega, by go_num, _, HP6⟩
      · have t1 : ¬ ((k : Int) < ls) := by omega
        have hkl : l.take k = l := List.take_of_length_le (by omega)
        rw [hkl] at HP
        have r0 := HP.out.r.c 0 (by simp)
        have r1 := HP.out.r.c 1 (by simp)
        have r2 := HP.out.r.c 2 (by simp)
        have r3 := HP.out.r.c 3 (by simp)
        have r4 := HP.out.r.c 4 (by simp)
        have r5 := HP.out.r.c 5 (by simp)
        have z0 := HP.out.z.c 0 (by simp)
        have z1 := HP.out.z.c 1 (by simp)
        have z2 := HP.out.z.c 2 (by simp)
        have z3 := HP.out.z.c 3 (by simp)
        have z4 := HP.out.z.c 4 (by simp)
        have z5 := HP.out.z.c 5 (by simp)
        simp only [List.getElem_cons_zero, List.getElem_cons_succ] at r0 r1 r2 r3 r4 r5 z0 z1 z2 z3 z4 z5
        have f1 := HP.out.z.fz
        obtain ⟨qa, qc, rfl⟩ := row_shape HP.out.own

        go_wp2_with fail
        have k6 := cel_put6 HP.out.z (.int .i64 i0) (.int .i64 fl) (.slice qa l.length qc) (.slice none 0 0) (.slice none 0 0) (.slice none 0 0)
        have ha := aside_put6 wr (N + 1) (.int .i64 i0) (.int .i64 fl) (.slice qa l.length qc) (.slice none 0 0) (.slice none 0 0) (.slice none 0 0)
        rw [hls] at k6 ha
        have m0 := k6.c 0 (by simp)
        have m1 := k6.c 1 (by simp)
        have m2 := k6.c 2 (by simp)
        have m3 := k6.c 3 (by simp)
        have m4 := k6.c 4 (by simp)
        have m5 := k6.c 5 (by simp)
        simp only [List.getElem_cons_zero, List.getElem_cons_succ] at m0 m1 m2 m3 m4 m5
        unfold put6 at m0 m1 m2 m3 m4 m5 ha
        have hown := HP.out.own
        rw [hls] at hown
        clear r0 r1 r2 r3 r4 r5 z0 z1 z2 z3 z4 z5 f1
        refine bodyPost_ret (by simp [results, Tryz.results19, go_sem, m0, m1, m2, m3, m4, m5]) rfl ⟨.slice qa ls qc, rfl, ?_, ?_⟩
        · rw [HN.out]
          have h9 := row_aside hown ha fun j hj hg => by have := (World.ownsRow.lt hown j hj).1; omega
          exact row_base h9 (by omega)
        · rw [HN.out]
          exact below_aside HP.out.bel ha (fun j hj => ⟨by have := HP.out.size; omega, by omega⟩)

/-- The bare answer to a message. -/
def rpM (m : Ms) (c : Int) : Ms := ⟨m.id, rpF m.fl c, m.q, [], [], []⟩
theorem replyM_mg {w : World} {hi : Nat} {u : Value} {m : Ms} (c : Int) (h : Mg w hi u m) (h1 : hi ≤ w.heap.size) (hl : m.q.length ≤ 900000) (hn : ∀ x ∈ m.q, x.n.length ≤ 1000000) :
    Calls Tryz.prog 19 #[u, .int .i64 c] w (fun e w' => ∃ v, e = .returned v ∧ Mg w' w'.heap.size v (rpM m c) ∧ Below w.heap.size w w') := by
  refine (replyM_any c h h1 hl hn).mono ?_
  rintro e w' ⟨q, rfl, ho, hb⟩
  exact ⟨_, rfl, ⟨_, _, _, _, rfl, Lst.own ho (by show m.q.length ≤ 1000000; omega), Lst.nil _ _, Lst.nil _ _, Lst.nil _ _⟩, hb⟩
end Go.Proofs.YtdikgjbpjdnodaaGreat

/-
  A message of too many entries, or of too long names and data: BigMessage.
-/
namespace Go.Proofs.YtdikgjbpjdnodaaGreat
open Go.RowKit Go.Shelf
set_option linter.unusedVariables false
set_option linter.unusedSimpArgs false
set_option maxRecDepth 100000

def bigRm (M : Nat) (x : Rc) : Bool := decide (M < x.n.length) || decide (M < x.d.length)
def bigQm (M : Nat) (x : Qn) : Bool := decide (M < x.n.length)
/-- More than so many entries, or a name or data of more than so many bytes. -/
def bigMs (most M : Nat) (m : Ms) : Bool := decide (most < m.q.length + m.an.length + m.ns.length + m.ar.length) || (m.q.any (bigQm M) || (m.an.any (bigRm M) || (m.ns.any (bigRm M) || m.ar.any (bigRm M))))

set_option maxHeartbeats 2000000 in
theorem bigRs_any {w : World} {hi : Nat} {u : Value} {l : List Rc} (M : Nat) (hM : M ≤ 1000000) (h : SR w hi u l) (h1 : hi ≤ w.heap.size) :
    Calls Tryz.prog 51 #[u, .int .i64 M] w fun e w' => e = .returned (.bool (l.any (bigRm M))) ∧ w = w' := by
  obtain ⟨r, hr⟩ : ∃ r, l.any (bigRm M) = r := ⟨_, rfl⟩
  rw [hr]
  have HR := Lib.hid hr
  have HX := Lib.hid h
  have HN := Lib.hid (Lst.len h)
  obtain ⟨a, c, rfl⟩ := Lst.shape h
  clear hr h
  go_enter Tryz.func51, Tryz.ntmps51
  go_wp2
  go_loopg [5] l.length (fun k v5 wr => ∃ j : Nat, j + k = l.length ∧ v5 = .int .i64 j ∧ Hid ((l.take j).any (bigRm M) = false) ∧ w = wr)
  case atStart => exact ⟨0, by omega, rfl, by simp [Hid], rfl⟩
  case round =>
    obtain ⟨j, hj, rfl, HA, rfl⟩ := hrel
    have hlen := HN.out
    by_cases hlt : j < l.length
    · obtain ⟨b, off, c2, he, hb, c0, _, _, _, c4⟩ := HX.out.at_ j hlt
      injection he with he hn3 hc3
      clear hn3 hc3
      subst he
      have hany := HA.out
      have htk : l.take (j + 1) = l.take j ++ [l[j]] := by rw [List.take_add_one, List.getElem?_eq_getElem hlt]; rfl
      have HM := Lib.hid (List.getElem_mem hlt)
      obtain ⟨x, hx⟩ : ∃ x, l[j] = x := ⟨_, rfl⟩
      rw [hx] at c0 c4 htk HM
      obtain ⟨n, t, cl, tl, d⟩ := x
      simp only at c0 c4
      have hns : (bs n).size = n.length := bs_size n
      have hds : (bs d).size = d.length := bs_size d
      by_cases h1 : M < n.length
      · have HE := Lib.hid (show r = true by rw [← HR.out]; exact List.any_eq_true.mpr ⟨_, HM.out, by unfold bigRm; simp [h1]⟩)
        have t1 : decide ((M : Int) < n.length) = true := by simp; omega
        clear hany htk hx HA HM
        go_wp2_with fail
        go_ret
        exact ⟨by rw [HE.out]; rfl, rfl⟩
      · have t1 : decide ((M : Int) < n.length) = false := by simp; omega
        by_cases h2 : M < d.length
        · have HE := Lib.hid (show r = true by rw [← HR.out]; exact List.any_eq_true.mpr ⟨_, HM.out, by unfold bigRm; simp [h2]⟩)
          have t2 : decide ((M : Int) < d.length) = true := by simp; omega
          clear hany htk hx HA HM
          go_wp2_with fail
          go_ret
          exact ⟨by rw [HE.out]; rfl, rfl⟩
        · have t2 : decide ((M : Int) < d.length) = false := by simp; omega
          have HA2 := Lib.hid (show (l.take (j + 1)).any (bigRm M) = false by rw [htk, List.any_append, hany]; simp [bigRm]; omega)
          clear hany htk hx HA HM
          go_wp2_with fail
          go_roundg (l.length - (j + 1))
          case measure => omega
          case rel => exact ⟨j + 1, by omega, by go_num, HA2, rfl⟩
    · have hje : j = l.length := by omega
      have HE := Lib.hid (show r = false by
        rw [← HR.out]
        have := HA.out
        rw [List.take_of_length_le (by omega)] at this
        exact this)
      clear HA
      have t1 : ¬ ((j : Int) < l.length) := by omega
      go_wp2_with fail
      go_ret
      exact ⟨by rw [HE.out]; rfl, rfl⟩

set_option maxHeartbeats 4000000 in
theorem bigM_any {w : World} {hi : Nat} {u : Value} {m : Ms} (most M : Nat) (hmo : most ≤ 1000000) (hM : M ≤ 1000000) (h : Mg w hi u m) (h1 : hi ≤ w.heap.size) :
    Calls Tryz.prog 29 #[u, .int .i64 most, .int .i64 M] w (Tells w (.bool (bigMs most M m))) := by
  obtain ⟨q, a, n, r, rfl, hq, ha, hn, hr⟩ := h
  have HLQ := Lib.hid (Lst.len hq)
  have HLA := Lib.hid (Lst.len ha)
  have HLN := Lib.hid (Lst.len hn)
  have HLR := Lib.hid (Lst.len hr)
  have HCA := Lib.hid (fun wx (hb : Below w.heap.size w wx) => bigRs_any M hM (Lst.below ha hb h1) (Nat.le_trans h1 hb.size))
  have HCN := Lib.hid (fun wx (hb : Below w.heap.size w wx) => bigRs_any M hM (Lst.below hn hb h1) (Nat.le_trans h1 hb.size))
  have HCR := Lib.hid (fun wx (hb : Below w.heap.size w wx) => bigRs_any M hM (Lst.below hr hb h1) (Nat.le_trans h1 hb.size))
  have HQ := Lib.hid hq
  have HHI := Lib.hid h1
  obtain ⟨qa, qc, rfl⟩ := Lst.shape hq
  obtain ⟨aa, ac, rfl⟩ := Lst.shape ha
  obtain ⟨na, nc, rfl⟩ := Lst.shape hn
  obtain ⟨ra, rc, rfl⟩ := Lst.shape hr
  obtain ⟨i0, hi0⟩ : ∃ i, m.id = i := ⟨_, rfl⟩
  obtain ⟨f0, hf0⟩ : ∃ i, m.fl = i := ⟨_, rfl⟩
  obtain ⟨R, hR⟩ : ∃ r, bigMs most M m = r := ⟨_, rfl⟩
  rw [hi0, hf0, hR]
  unfold bigMs at hR
  obtain ⟨b1, hb1⟩ : ∃ r, m.an.any (bigRm M) = r := ⟨_, rfl⟩
  obtain ⟨b2, hb2⟩ : ∃ r, m.ns.any (bigRm M) = r := ⟨_, rfl⟩
  obtain ⟨b3, hb3⟩ : ∃ r, m.ar.any (bigRm M) = r := ⟨_, rfl⟩
  rw [hb1, hb2, hb3] at hR
  rw [hb1] at HCA
  rw [hb2] at HCN
  rw [hb3] at HCR
  obtain ⟨l, hlq⟩ : ∃ l, m.q = l := ⟨_, rfl⟩
  rw [hlq] at hR HQ HLQ ⊢
  obtain ⟨ln, hln⟩ : ∃ l, m.an.length = l := ⟨_, rfl⟩
  rw [hln] at hR HLA HCA ⊢
  obtain ⟨lm, hlm⟩ : ∃ l, m.ns.length = l := ⟨_, rfl⟩
  rw [hlm] at hR HLN HCN ⊢
  obtain ⟨lr, hlr⟩ : ∃ l, m.ar.length = l := ⟨_, rfl⟩
  rw [hlr] at hR HLR HCR ⊢
  have hb0 : Below w.heap.size w (w.alloc (.cells #[.int .i64 i0, .int .i64 f0, .slice qa l.length qc, .slice aa ln ac, .slice na lm nc, .slice ra lr rc] 25)) := (Below.refl _ _).alloc (Nat.le_refl _) _
  have HB := Lib.hid hb0
  have HX := Lib.hid (cel_new6 w (.int .i64 i0) (.int .i64 f0) (.slice qa l.length qc) (.slice aa ln ac) (.slice na lm nc) (.slice ra lr rc) 25)
  have HR := Lib.hid hR
  clear hb1 hb2 hb3 hlq hln hlm hlr hi0 hf0 hq ha hn hr h1 hb0 hR
  have g1 := HLQ.out
  have g2 := HLA.out
  have g3 := HLN.out
  have g4 := HLR.out
  by_cases hbig : most < l.length + ln + lm + lr
  · have t0 : decide ((most : Int) < (l.length : Int) + ln + lm + lr) = true := by simp; omega
    have HE := Lib.hid (show R = true by rw [← HR.out]; simp [hbig])
    go_enter Tryz.func29, Tryz.ntmps29
    go_wp2_with fail
    go_ret
    exact ⟨by rw [HE.out]; rfl, HB.out⟩
  · have t0 : decide ((most : Int) < (l.length : Int) + ln + lm + lr) = false := by simp; omega
    have e0 : decide (most < l.length + ln + lm + lr) = false := by simp; omega
    have HR2 := Lib.hid (show (l.any (bigQm M) || (b1 || (b2 || b3))) = R by rw [← HR.out, e0]; rfl)
    obtain ⟨W, hW⟩ : ∃ W, w.alloc (.cells #[.int .i64 i0, .int .i64 f0, .slice qa l.length qc, .slice aa ln ac, .slice na lm nc, .slice ra lr rc] 25) = W := ⟨_, rfl⟩
    obtain ⟨N, hN⟩ : ∃ N, w.heap.size = N := ⟨_, rfl⟩
    rw [hW] at HB HX
    rw [hN] at HX
    obtain ⟨c0, c1, c2, c3, c4, c5⟩ := HX.out.six
    clear e0 HR
    go_enter Tryz.func29, Tryz.ntmps29
    go_wp2_with fail
    clear t0 hbig
    go_loopg [7] l.length (fun k v7 wr => ∃ j : Nat, j + k = l.length ∧ v7 = .int .i64 j ∧ Hid ((l.take j).any (bigQm M) = false) ∧ W = wr)
    case atStart => exact ⟨0, by omega, rfl, by simp [Hid], by first | rfl | exact hW.symm⟩
    case round =>
      clear hW
      obtain ⟨j, hj, rfl, HA, rfl⟩ := hrel
      by_cases hlt : j < l.length
      · obtain ⟨b, off, cc, he, hb, hc⟩ := HQ.out.at_ j hlt
        obtain ⟨d0, d1, d2⟩ := hc.keep fun o => HB.out.cell (p := ⟨b, o, none⟩) (Nat.lt_of_lt_of_le hb HHI.out)
        injection he with he hn3 hc3
        clear hn3 hc3
        subst he
        have hany := HA.out
        have htk : l.take (j + 1) = l.take j ++ [l[j]] := by rw [List.take_add_one, List.getElem?_eq_getElem hlt]; rfl
        have HM := Lib.hid (List.getElem_mem hlt)
        obtain ⟨x, hx⟩ : ∃ x, l[j] = x := ⟨_, rfl⟩
        rw [hx] at d0 htk HM
        obtain ⟨n, t, cl⟩ := x
        simp only at d0
        have hns : (bs n).size = n.length := bs_size n
        by_cases h1 : M < n.length
        · have HE := Lib.hid (show R = true by rw [← HR2.out, show l.any (bigQm M) = true from List.any_eq_true.mpr ⟨_, HM.out, by unfold bigQm; simp [h1]⟩]; rfl)
          have t1 : decide ((M : Int) < n.length) = true := by simp; omega
          clear hany htk hx HA HM hc hb d1 d2
          go_wp2_with fail
          go_ret
          exact ⟨by rw [HE.out]; rfl, by rw [← hN] at *; exact HB.out⟩
        · have t1 : decide ((M : Int) < n.length) = false := by simp; omega
          have HA2 := Lib.hid (show (l.take (j + 1)).any (bigQm M) = false by rw [htk, List.any_append, hany]; simp [bigQm]; omega)
          clear hany htk hx HA HM hc hb d1 d2
          go_wp2_with fail
          go_roundg (l.length - (j + 1))
          case measure => omega
          case rel => exact ⟨j + 1, by omega, by go_num, HA2, rfl⟩
      · have hje : j = l.length := by omega
        have HE := Lib.hid (show (b1 || (b2 || b3)) = R by
          rw [← HR2.out]
          have := HA.out
          rw [List.take_of_length_le (by omega)] at this
          rw [this]
          rfl)
        clear HA
        have t1 : ¬ ((j : Int) < l.length) := by omega
        cases b1 with
        | true =>
          go_wp2_with fail
          refine (HCA.out _ HB.out).mono ?_; rintro e w1 ⟨rfl, rfl⟩
          go_wp2_with fail
          go_ret
          exact ⟨by rw [← HE.out]; rfl, HB.out⟩
        | false =>
          cases b2 with
          | true =>
            go_wp2_with fail
            refine (HCA.out _ HB.out).mono ?_; rintro e w1 ⟨rfl, rfl⟩
            go_wp2_with fail
            refine (HCN.out _ HB.out).mono ?_; rintro e w1 ⟨rfl, rfl⟩
            go_wp2_with fail
            go_ret
            exact ⟨by rw [← HE.out]; rfl, HB.out⟩
          | false =>
            go_wp2_with fail
            refine (HCA.out _ HB.out).mono ?_; rintro e w1 ⟨rfl, rfl⟩
            go_wp2_with fail
            refine (HCN.out _ HB.out).mono ?_; rintro e w1 ⟨rfl, rfl⟩
            go_wp2_with fail
            refine (HCR.out _ HB.out).mono ?_; rintro e w1 ⟨rfl, rfl⟩
            go_wp2_with fail
            go_ret
            exact ⟨by rw [← HE.out]; rfl, HB.out⟩

theorem bigMs_no {most M : Nat} {m : Ms} (h : bigMs most M m = false) : m.q.length + m.an.length + m.ns.length + m.ar.length ≤ most ∧ (∀ x ∈ m.q, x.n.length ≤ M) ∧ (∀ x ∈ m.an, x.n.length ≤ M ∧ x.d.length ≤ M) ∧ (∀ x ∈ m.ns, x.n.length ≤ M ∧ x.d.length ≤ M) ∧ (∀ x ∈ m.ar, x.n.length ≤ M ∧ x.d.length ≤ M) := by
  unfold bigMs at h
  simp only [Bool.or_eq_false_iff, List.any_eq_false, decide_eq_false_iff_not, Nat.not_lt] at h
  obtain ⟨h0, h1, h2, h3, h4⟩ := h
  have k : ∀ l : List Rc, (∀ x ∈ l, ¬ bigRm M x = true) → ∀ x ∈ l, x.n.length ≤ M ∧ x.d.length ≤ M := fun l hl x hx => by
    have := hl x hx
    unfold bigRm at this
    simp at this
    exact this
  refine ⟨h0, fun x hx => ?_, k _ h2, k _ h3, k _ h4⟩
  have := h1 x hx
  unfold bigQm at this
  simpa using this
end Go.Proofs.YtdikgjbpjdnodaaGreat

/-
  A bare answer to a message that may be: MsgReply.
-/
namespace Go.Proofs.YtdikgjbpjdnodaaGreat
open Go.RowKit Go.Shelf
set_option linter.unusedVariables false
set_option linter.unusedSimpArgs false
set_option maxRecDepth 100000

theorem i64_bit (n : Int) (h0 : 0 ≤ n) (h1 : n < 65536) (k : Nat) (hk : k ≤ 15) : bits .and .i64 n ((2 ^ k : Nat) : Int) = 2 ^ k * (n / 2 ^ k % 2) := by
  obtain ⟨m, rfl⟩ := Int.eq_ofNat_of_zero_le h0
  have h2k : (2 : Nat) ^ k ≤ 2 ^ 15 := Nat.pow_le_pow_right (by decide) hk
  have h15 : (2 : Nat) ^ 15 = 32768 := by decide
  have e := and_shl m 1 k
  rw [Nat.shiftLeft_eq, Nat.one_mul, Nat.and_one_is_mod, Nat.shiftRight_eq_div_pow, Nat.shiftLeft_eq] at e
  show IntKind.i64.wrap ((BitVec.ofInt 64 (m : Int) &&& BitVec.ofInt 64 ((2 ^ k : Nat) : Int)).toNat : Nat) = _
  have o64 : ∀ k : Nat, k < 65536 → (BitVec.ofInt 64 (k : Int)).toNat = k := fun k hk => by rw [BitVec.toNat_ofInt]; omega
  rw [BitVec.toNat_and, o64 m (by omega), o64 (2 ^ k) (by omega), e, IntKind.wrap_i64]
  have hlt : m / 2 ^ k % 2 < 2 := Nat.mod_lt _ (by decide)
  have hmul : m / 2 ^ k % 2 * 2 ^ k ≤ 1 * 2 ^ k := Nat.mul_le_mul_right _ (by omega)
  rw [show ((2 : Int) ^ k * ((m : Int) / 2 ^ k % 2)) = ((m / 2 ^ k % 2 * 2 ^ k : Nat) : Int) by
    rw [Int.mul_comm]
    push_cast
    rfl]
  omega
theorem rpF_eq (f c : Int) (h0 : 0 ≤ f) (h1 : f < 65536) : rpF f c = 32768 + 2048 * (f / 2048 % 16) + 256 * (f / 256 % 2) + 128 + 16 * (f / 16 % 2) + c % 16 := by
  unfold rpF wcF
  rw [rpB_eq f h0 h1]
  omega
/-- What is known of a bare answer's flags. -/
theorem rpF_facts (f c : Int) (h0 : 0 ≤ f) (h1 : f < 65536) : (0 ≤ rpF f c ∧ rpF f c < 65536) ∧ opF (rpF f c) = opF f ∧ cdF (rpF f c) = c % 16 ∧ bits .and .i64 (rpF f c) 32768 = 32768 ∧ bits .and .i64 (rpF f c) 512 = 0 ∧ bits .and .i64 (rpF f c) 256 = bits .and .i64 f 256 ∧ rpF (rpF f c) c = rpF f c := by
  have e := rpF_eq f c h0 h1
  obtain ⟨F, hF⟩ : ∃ F, rpF f c = F := ⟨_, rfl⟩
  rw [hF] at e ⊢
  have g0 : 0 ≤ F := by omega
  have g1 : F < 65536 := by omega
  have a1 : bits .and .i64 F 32768 = 32768 * (F / 32768 % 2) := by have := i64_bit F g0 g1 15 (by decide); simp only [Nat.reducePow, Int.reducePow] at this; exact this
  have a2 : bits .and .i64 F 512 = 512 * (F / 512 % 2) := by have := i64_bit F g0 g1 9 (by decide); simp only [Nat.reducePow, Int.reducePow] at this; exact this
  have a3 : bits .and .i64 F 256 = 256 * (F / 256 % 2) := by have := i64_bit F g0 g1 8 (by decide); simp only [Nat.reducePow, Int.reducePow] at this; exact this
  have a4 : bits .and .i64 f 256 = 256 * (f / 256 % 2) := by have := i64_bit f h0 h1 8 (by decide); simp only [Nat.reducePow, Int.reducePow] at this; exact this
  refine ⟨⟨g0, g1⟩, ?_, ?_, ?_, ?_, ?_, ?_⟩
  · unfold opF; omega
  · unfold cdF; omega
  · rw [a1]; omega
  · rw [a2]; omega
  · rw [a3, a4]; omega
  · rw [rpF_eq F c g0 g1]; omega

theorem chkM_nums {m : Ms} (h : chkM m = 0) : (0 ≤ m.id ∧ m.id < 65536) ∧ (0 ≤ m.fl ∧ m.fl < 65536) ∧ m.q.length < 65536 ∧ fst0 (m.its.map It.err) = 0 := by
  unfold chkM at h
  split at h
  · cases h
  · split at h
    · cases h
    · rename_i h1 h2
      exact ⟨by omega, by omega, by omega, h⟩
theorem chkM_rp {m : Ms} (c : Int) (h : chkM m = 0) : chkM (rpM m c) = 0 := by
  obtain ⟨h1, h2, h3, h4⟩ := chkM_nums h
  have hf := (rpF_facts m.fl c h2.1 h2.2).1
  unfold chkM rpM
  rw [if_neg (by simp only; omega), if_neg (by simp; omega)]
  refine fst0_all fun e he => fst0_zero h4 e ?_
  unfold Ms.its at he ⊢
  simp only [List.map_nil, List.append_nil] at he
  rw [List.map_append]
  exact List.mem_append_left _ he
theorem rpM_rp {m : Ms} (c : Int) (h : chkM m = 0) : rpM (rpM m c) c = rpM m c := by
  obtain ⟨h1, h2, h3, h4⟩ := chkM_nums h
  unfold rpM
  simp only [(rpF_facts m.fl c h2.1 h2.2).2.2.2.2.2.2]
theorem bigMs_fine {most : Nat} {m : Ms} {M : Nat} (hM : M ≤ 1000000) (h : bigMs most M m = false) : m.Fine := by
  obtain ⟨_, h1, h2, h3, h4⟩ := bigMs_no h
  exact ⟨fun x hx => Nat.le_trans (h1 x hx) hM, fun x hx => ⟨Nat.le_trans (h2 x hx).1 hM, Nat.le_trans (h2 x hx).2 hM⟩, fun x hx => ⟨Nat.le_trans (h3 x hx).1 hM, Nat.le_trans (h3 x hx).2 hM⟩, fun x hx => ⟨Nat.le_trans (h4 x hx).1 hM, Nat.le_trans (h4 x hx).2 hM⟩⟩
theorem rpM_fine {m : Ms} (c : Int) (h : m.Fine) : (rpM m c).Fine := ⟨h.q, fun _ hx => by simp [rpM] at hx, fun _ hx => by simp [rpM] at hx, fun _ hx => by simp [rpM] at hx⟩

set_option maxHeartbeats 8000000 in
theorem replyLaw_any {w : World} {hi : Nat} {u : Value} {m : Ms} (c : Int) (h : Mg w hi u m) (h1 : hi ≤ w.heap.size) : Calls Tryz.prog 6 #[u, .int .i64 c] w (Tells w (.bool true)) := by
  have HAw := Lib.hid (fun wx => awakeM_any wx)
  obtain ⟨q, a, n, r, rfl, hq, ha, hn, hr⟩ := h
  obtain ⟨qa, qc, rfl⟩ := Lst.shape hq
  obtain ⟨aa, ac, rfl⟩ := Lst.shape ha
  obtain ⟨na, nc, rfl⟩ := Lst.shape hn
  obtain ⟨ra, rc, rfl⟩ := Lst.shape hr
  have hm : Mg w w.heap.size (.agg #[.int .i64 m.id, .int .i64 m.fl, .slice qa m.q.length qc, .slice aa m.an.length ac, .slice na m.ns.length nc, .slice ra m.ar.length rc]) m := Mg.wide ⟨_, _, _, _, rfl, hq, ha, hn, hr⟩ h1
  obtain ⟨i0, hi0⟩ : ∃ i, m.id = i := ⟨_, rfl⟩
  obtain ⟨f0, hf0⟩ : ∃ i, m.fl = i := ⟨_, rfl⟩
  obtain ⟨lq, hlq⟩ : ∃ i, m.q.length = i := ⟨_, rfl⟩
  obtain ⟨la, hla⟩ : ∃ i, m.an.length = i := ⟨_, rfl⟩
  obtain ⟨ln, hln⟩ : ∃ i, m.ns.length = i := ⟨_, rfl⟩
  obtain ⟨lr, hlr⟩ : ∃ i, m.ar.length = i := ⟨_, rfl⟩
  obtain ⟨R, hR⟩ : ∃ r, bigMs 200 3000 m = r := ⟨_, rfl⟩
  obtain ⟨E, hE⟩ : ∃ r, chkM m = r := ⟨_, rfl⟩
  rw [hi0, hf0, hlq, hla, hln, hlr] at hm ⊢
  have hbox : Below w.heap.size w (w.alloc (.cells #[.int .i64 i0, .int .i64 f0, .slice qa lq qc, .slice aa la ac, .slice na ln nc, .slice ra lr rc] 25)) := (Below.refl _ _).alloc (Nat.le_refl _) _
  have hx := cel_new6 w (.int .i64 i0) (.int .i64 f0) (.slice qa lq qc) (.slice aa la ac) (.slice na ln nc) (.slice ra lr rc) 25
  obtain ⟨N, hN⟩ : ∃ N, w.heap.size = N := ⟨_, rfl⟩
  rw [hN] at hx
  have HB := Lib.hid hbox
  have HX := Lib.hid hx
  have HM := Lib.hid (hm.later hbox)
  have HSM := Lib.hid (show SQ (w.alloc (.cells #[.int .i64 i0, .int .i64 f0, .slice qa lq qc, .slice aa la ac, .slice na ln nc, .slice ra lr rc] 25)) (w.alloc (.cells #[.int .i64 i0, .int .i64 f0, .slice qa lq qc, .slice aa la ac, .slice na ln nc, .slice ra lr rc] 25)).heap.size (.slice qa lq qc) m.q by rw [hlq] at hq; exact Lst.later (Lst.wide hq h1) hbox)
  clear hq ha hn hr h1 hm hbox hx
  go_enter Tryz.func6, Tryz.ntmps6
  go_wp2_with fail
  refine (HAw.out _).mono ?_; rintro e w1 ⟨rfl, hb⟩
  replace HB := Lib.hid (bel_call HB.out hb)
  replace HX := Lib.hid (HX.out.below (by simp) hb)
  replace HM := Lib.hid (HM.out.later hb)
  replace HSM := Lib.hid (show SQ _ _ _ _ from Lst.later HSM.out hb)
  clear hb
  obtain ⟨c0, c1, c2, c3, c4, c5⟩ := HX.out.six
  go_wp2_with fail
  refine (bigM_any 200 3000 (by decide) (by decide) HM.out (Nat.le_refl _)).mono ?_; rw [hR]; rintro e w2 ⟨rfl, hb⟩
  clear c0 c1 c2 c3 c4 c5
  replace HB := Lib.hid (bel_call HB.out hb)
  replace HX := Lib.hid (HX.out.below (by simp) hb)
  replace HM := Lib.hid (HM.out.later hb)
  replace HSM := Lib.hid (show SQ _ _ _ _ from Lst.later HSM.out hb)
  clear hb
  cases R with
  | true =>
    go_wp2_with fail
    go_ret
    exact ⟨rfl, HB.out⟩
  | false =>
    have HF := Lib.hid (bigMs_fine (by decide) hR)
    have HBN := Lib.hid (bigMs_no hR)
    obtain ⟨c0, c1, c2, c3, c4, c5⟩ := HX.out.six
    go_wp2_with fail
    refine (checkM_any HM.out (Nat.le_refl _) HF.out).mono ?_; rw [hE]; rintro e w3 ⟨rfl, hb⟩
    clear c0 c1 c2 c3 c4 c5
    replace HB := Lib.hid (bel_call HB.out hb)
    replace HX := Lib.hid (HX.out.below (by simp) hb)
    replace HM := Lib.hid (HM.out.later hb)
    replace HSM := Lib.hid (show SQ _ _ _ _ from Lst.later HSM.out hb)
    clear hb
    by_cases hE0 : E = 0
    · subst hE0
      obtain ⟨hid, hfl, hql, _⟩ := chkM_nums hE
      rw [hf0] at hfl
      obtain ⟨hFr, hFo, hFc, hF1, hF2, hF3, hF4⟩ := rpF_facts f0 c hfl.1 hfl.2
      have HK := Lib.hid (chkM_rp c hE)
      have HRR := Lib.hid (rpM_rp c hE)
      have HRM := Lib.hid (show rpM m c = ⟨i0, rpF f0 c, m.q, [], [], []⟩ by unfold rpM; rw [hi0, hf0])
      obtain ⟨fl, hflv⟩ : ∃ x, rpF f0 c = x := ⟨_, rfl⟩
      rw [hflv] at hFo hFc hF1 hF2 hF3 HRM
      obtain ⟨o, ho⟩ : ∃ x, opF f0 = x := ⟨_, rfl⟩
      obtain ⟨d, hd⟩ : ∃ x, c % 16 = x := ⟨_, rfl⟩
      obtain ⟨y, hy⟩ : ∃ x, bits .and .i64 f0 256 = x := ⟨_, rfl⟩
      have HO1 := Lib.hid (fun wx => mop_any fl wx)
      have HO2 := Lib.hid (fun wx => mop_any f0 wx)
      have HC := Lib.hid (fun wx => mcode_any fl wx)
      rw [hFo, ho] at HO1
      rw [ho] at HO2
      rw [hFc, hd] at HC
      rw [hy] at hF3
      have hF5 : bits .and .i64 c 15 = d := by rw [i64_and15, hd]
      clear hFo hFc ho hd hFr hfl hid hF4
      obtain ⟨c0, c1, c2, c3, c4, c5⟩ := HX.out.six
      go_wp2_with fail
      refine (replyM_any c HM.out (Nat.le_refl _) (by omega) HF.out.q).mono ?_; rintro e w4 ⟨q', rfl, hoq, hb⟩
      rw [hi0, hf0, hflv]
      clear c0 c1 c2 c3 c4 c5
      replace HB := Lib.hid (bel_call HB.out hb)
      replace HX := Lib.hid (HX.out.below (by simp) hb)
      replace HM := Lib.hid (HM.out.later hb)
      replace HSM := Lib.hid (show SQ _ _ _ _ from Lst.later HSM.out hb)
      clear hb
      obtain ⟨qa', qc', rfl⟩ := row_shape hoq
      rw [hlq]
      have hsq := Lst.own hoq (by omega)
      rw [hlq] at hsq
      obtain ⟨g, hg⟩ : ∃ g, w4.heap.size = g := ⟨_, rfl⟩
      have hb : Below w4.heap.size w4 (w4.alloc (.cells #[.int .i64 i0, .int .i64 fl, .slice qa' lq qc', .slice none 0 0, .slice none 0 0, .slice none 0 0] 25)) := (Below.refl _ _).alloc (Nat.le_refl _) _
      have hy6 := cel_new6 w4 (.int .i64 i0) (.int .i64 fl) (.slice qa' lq qc') (.slice none 0 0) (.slice none 0 0) (.slice none 0 0) 25
      rw [hg] at hy6
      have HY := Lib.hid hy6
      have hmy : Mg w4 w4.heap.size (.agg #[.int .i64 i0, .int .i64 fl, .slice qa' lq qc', .slice none 0 0, .slice none 0 0, .slice none 0 0]) (rpM m c) := by rw [HRM.out]; exact ⟨_, _, _, _, rfl, by unfold SQ; simp only [hlq]; exact hsq, Lst.nil _ _, Lst.nil _ _, Lst.nil _ _⟩
      have HMY := Lib.hid (hmy.later hb)
      have HSQ := Lib.hid (show SQ (w4.alloc (.cells #[.int .i64 i0, .int .i64 fl, .slice qa' lq qc', .slice none 0 0, .slice none 0 0, .slice none 0 0] 25)) (w4.alloc (.cells #[.int .i64 i0, .int .i64 fl, .slice qa' lq qc', .slice none 0 0, .slice none 0 0, .slice none 0 0] 25)).heap.size (.slice qa' lq qc') m.q by unfold SQ; rw [hlq]; exact Lst.later hsq hb)
      replace HB := Lib.hid (bel_call HB.out hb)
      replace HX := Lib.hid (HX.out.below (by simp) hb)
      replace HM := Lib.hid (HM.out.later hb)
      replace HSM := Lib.hid (show SQ _ _ _ _ from Lst.later HSM.out hb)
      clear hb
      clear hmy hy6 hsq hoq
      obtain ⟨c0, c1, c2, c3, c4, c5⟩ := HX.out.six
      obtain ⟨d0, d1, d2, d3, d4, d5⟩ := HY.out.six
      go_wp2_with fail
      clear c0 c1 c2 c3 c4 c5 d0 d1 d2 d3 d4 d5 hg
      refine (checkM_any HMY.out (Nat.le_refl _) (rpM_fine c HF.out)).mono ?_; rw [HK.out]; rintro e w5 ⟨rfl, hb⟩
      replace HY := Lib.hid (HY.out.below (by simp) hb)
      replace HMY := Lib.hid (HMY.out.later hb)
      replace HSQ := Lib.hid (show SQ _ _ _ _ from Lst.later HSQ.out hb)
      replace HB := Lib.hid (bel_call HB.out hb)
      replace HX := Lib.hid (HX.out.below (by simp) hb)
      replace HM := Lib.hid (HM.out.later hb)
      replace HSM := Lib.hid (show SQ _ _ _ _ from Lst.later HSM.out hb)
      clear hb
      obtain ⟨c0, c1, c2, c3, c4, c5⟩ := HX.out.six
      obtain ⟨d0, d1, d2, d3, d4, d5⟩ := HY.out.six
      go_wp2_with fail
      clear c0 c1 c2 c3 c4 c5 d0 d1 d2 d3 d4 d5
      refine (sameQ_yes HSQ.out HSM.out (Nat.le_refl _) (Nat.le_refl _)).mono ?_; rintro e w6 ⟨rfl, hb⟩
      replace HY := Lib.hid (HY.out.below (by simp) hb)
      replace HMY := Lib.hid (HMY.out.later hb)
      replace HB := Lib.hid (bel_call HB.out hb)
      replace HX := Lib.hid (HX.out.below (by simp) hb)
      replace HM := Lib.hid (HM.out.later hb)
      replace HSM := Lib.hid (show SQ _ _ _ _ from Lst.later HSM.out hb)
      clear hb
      obtain ⟨c0, c1, c2, c3, c4, c5⟩ := HX.out.six
      obtain ⟨d0, d1, d2, d3, d4, d5⟩ := HY.out.six
      obtain ⟨WX, hWX⟩ : ∃ X, w6.drew = X := ⟨_, rfl⟩
      go_wp2_with fail
      clear c0 c1 c2 c3 c4 c5 d0 d1 d2 d3 d4 d5
      have hb : Below w6.heap.size w6 WX := by rw [← hWX]; exact (Below.refl _ _).drew
      replace HY := Lib.hid (HY.out.below (by simp) hb)
      replace HMY := Lib.hid (HMY.out.later hb)
      clear HSQ HSM
      replace HB := Lib.hid (bel_call HB.out hb)
      replace HX := Lib.hid (HX.out.below (by simp) hb)
      replace HM := Lib.hid (HM.out.later hb)
      clear hb
      refine wp_region_held_drew (S := (fun wx => wx.cell? ⟨N, 1, none⟩ = some (.int .i64 f0) ∧ wx.cell? ⟨g, 1, none⟩ = some (.int .i64 fl))) (by kernel_rfl) (by rw [hWX]; exact ⟨HX.out.c 1 (by simp), HY.out.c 1 (by simp)⟩) (fun hHeld => ?_)
      refine wpAnyH_take (i := 0) (oi := { dst := some 51, op := Op.fieldAddr 25 (Operand.tmp 6) 1, type := 0, pos := "outright.go:65", after := #[], guard := none }) (v := ?_) rfl (by kernel_rfl) (by kernel_rfl) (by kernel_rfl) (fun _ _ _ h => h) (Or.inl ⟨by rfl, ?_⟩) (by assumption) ?_
      rotate_left 1
      · intro w hSw; (try dsimp only at hSw); go_simp; try (with_reducible rfl)
      try simp only [Act.put, List.setIfInBounds_toArray, List.set_cons_zero, List.set_cons_succ]
      refine wpAnyH_take (i := 1) (oi := { dst := some 52, op := Op.load 3 (Operand.tmp 51), type := 3, pos := "outright.go:65", after := #[{ on := 0, ground := Ground.data }], guard := none }) (v := ?_) rfl (by kernel_rfl) (by kernel_rfl) (by kernel_rfl) (fun _ _ _ h => h) (Or.inl ⟨by rfl, ?_⟩) (by assumption) ?_
      rotate_left 1
      · intro w hSw; (try dsimp only at hSw); go_simp; try (with_reducible rfl)
      try simp only [Act.put, List.setIfInBounds_toArray, List.set_cons_zero, List.set_cons_succ]
      refine wpAnyH_take (i := 3) (oi := { dst := some 54, op := Op.fieldAddr 25 (Operand.tmp 2) 1, type := 0, pos := "outright.go:65", after := #[], guard := none }) (v := ?_) rfl (by kernel_rfl) (by kernel_rfl) (by kernel_rfl) (fun _ _ _ h => h) (Or.inl ⟨by rfl, ?_⟩) (by assumption) ?_
      rotate_left 1
      · intro w hSw; (try dsimp only at hSw); go_simp; try (with_reducible rfl)
      try simp only [Act.put, List.setIfInBounds_toArray, List.set_cons_zero, List.set_cons_succ]
      refine wpAnyH_take (i := 4) (oi := { dst := some 55, op := Op.load 3 (Operand.tmp 54), type := 3, pos := "outright.go:65", after := #[{ on := 3, ground := Ground.data }], guard := none }) (v := ?_) rfl (by kernel_rfl) (by kernel_rfl) (by kernel_rfl) (fun _ _ _ h => h) (Or.inl ⟨by rfl, ?_⟩) (by assumption) ?_
      rotate_left 1
      · intro w hSw; (try dsimp only at hSw); go_simp; try (with_reducible rfl)
      try simp only [Act.put, List.setIfInBounds_toArray, List.set_cons_zero, List.set_cons_succ]
      refine wpAnyH_ready (rs := [2]) (by kernel_rfl) (by simp) ?_
      refine AllReadyH.cons (o := { dst := some 53, op := Op.call { callee := Callee.value (Operand.func 23), args := #[Operand.tmp 52], argTypes := #[3] }, type := 3, pos := "outright.go:65", after := #[{ on := 1, ground := Ground.data }], guard := none }) rfl (fun K hK => ?_) (AllReadyH.nil)
      go_simp
      refine (HO1.out _).mono ?_; rintro e0 w7 ⟨rfl, rfl⟩
      try go_wp2_with fail
      refine hK.out _ _ ⟨HX.out.c 1 (by simp), HY.out.c 1 (by simp)⟩ (fun hHeld => ?_)
      clear hK K
      try simp only [Act.put, List.setIfInBounds_toArray, List.set_cons_zero, List.set_cons_succ]
      refine wpAnyH_ready (rs := [5]) (by kernel_rfl) (by simp) ?_
      refine AllReadyH.cons (o := { dst := some 56, op := Op.call { callee := Callee.value (Operand.func 23), args := #[Operand.tmp 55], argTypes := #[3] }, type := 3, pos := "outright.go:65", after := #[{ on := 4, ground := Ground.data }, { on := 2, ground := Ground.chain }], guard := none }) rfl (fun K hK => ?_) (AllReadyH.nil)
      go_simp
      refine (HO2.out _).mono ?_; rintro e0 w8 ⟨rfl, rfl⟩
      try go_wp2_with fail
      refine hK.out _ _ ⟨HX.out.c 1 (by simp), HY.out.c 1 (by simp)⟩ (fun hHeld => ?_)
      clear hK K
      try simp only [Act.put, List.setIfInBounds_toArray, List.set_cons_zero, List.set_cons_succ]
      refine wpAnyH_take (i := 6) (oi := { dst := some 57, op := Op.binOp BinOp.neq 3 (Operand.tmp 53) (Operand.tmp 56) 3, type := 4, pos := "outright.go:65", after := #[{ on := 2, ground := Ground.data }, { on := 5, ground := Ground.data }], guard := none }) (v := ?_) rfl (by kernel_rfl) (by kernel_rfl) (by kernel_rfl) (fun _ _ _ h => h) (Or.inl ⟨by rfl, ?_⟩) (by assumption) ?_
      rotate_left 1
      · intro w hSw; (try dsimp only at hSw); go_simp; try (with_reducible rfl)
      try simp only [Act.put, List.setIfInBounds_toArray, List.set_cons_zero, List.set_cons_succ]
      refine wpAnyH_take (i := 7) (oi := { dst := some 58, op := Op.move (Operand.tmp 57), type := 4, pos := "outright.go:65", after := #[{ on := 6, ground := Ground.data }, { on := 5, ground := Ground.chain }], guard := none }) (v := ?_) rfl (by kernel_rfl) (by kernel_rfl) (by kernel_rfl) (fun _ _ _ h => h) (Or.inl ⟨by rfl, ?_⟩) (by assumption) ?_
      rotate_left 1
      · intro w hSw; (try dsimp only at hSw); go_simp; try (with_reducible rfl)
      try simp only [Act.put, List.setIfInBounds_toArray, List.set_cons_zero, List.set_cons_succ]
      refine wpAnyH_take (i := 8) (oi := { dst := some 59, op := Op.fieldAddr 25 (Operand.tmp 6) 1, type := 0, pos := "outright.go:65", after := #[{ on := 7, ground := Ground.guard }], guard := some (7, false) }) (v := ?_) rfl (by kernel_rfl) (by kernel_rfl) (by kernel_rfl) (fun _ _ _ h => h) (Or.inl ⟨by rfl, ?_⟩) (by assumption) ?_
      rotate_left 1
      · intro w hSw; (try dsimp only at hSw); go_simp; try (with_reducible rfl)
      try simp only [Act.put, List.setIfInBounds_toArray, List.set_cons_zero, List.set_cons_succ]
      refine wpAnyH_take (i := 9) (oi := { dst := some 60, op := Op.load 3 (Operand.tmp 59), type := 3, pos := "outright.go:65", after := #[{ on := 8, ground := Ground.data }, { on := 7, ground := Ground.guard }], guard := some (7, false) }) (v := ?_) rfl (by kernel_rfl) (by kernel_rfl) (by kernel_rfl) (fun _ _ _ h => h) (Or.inl ⟨by rfl, ?_⟩) (by assumption) ?_
      rotate_left 1
      · intro w hSw; (try dsimp only at hSw); go_simp; try (with_reducible rfl)
      try simp only [Act.put, List.setIfInBounds_toArray, List.set_cons_zero, List.set_cons_succ]
      refine wpAnyH_take (i := 11) (oi := { dst := some 62, op := Op.move (Operand.tmp 1), type := 3, pos := "outright.go:65", after := #[{ on := 7, ground := Ground.guard }], guard := some (7, false) }) (v := ?_) rfl (by kernel_rfl) (by kernel_rfl) (by kernel_rfl) (fun _ _ _ h => h) (Or.inl ⟨by rfl, ?_⟩) (by assumption) ?_
      rotate_left 1
      · intro w hSw; (try dsimp only at hSw); go_simp; try (with_reducible rfl)
      try simp only [Act.put, List.setIfInBounds_toArray, List.set_cons_zero, List.set_cons_succ]
      refine wpAnyH_take (i := 12) (oi := { dst := some 63, op := Op.binOp BinOp.and 3 (Operand.tmp 62) (Operand.const (Value.int IntKind.i64 15)) 3, type := 3, pos := "outright.go:65", after := #[{ on := 11, ground := Ground.data }, { on := 7, ground := Ground.guard }], guard := some (7, false) }) (v := ?_) rfl (by kernel_rfl) (by kernel_rfl) (by kernel_rfl) (fun _ _ _ h => h) (Or.inl ⟨by rfl, ?_⟩) (by assumption) ?_
      rotate_left 1
      · intro w hSw; (try dsimp only at hSw); go_simp; try (with_reducible rfl)
      try simp only [Act.put, List.setIfInBounds_toArray, List.set_cons_zero, List.set_cons_succ]
      refine wpAnyH_ready (rs := [10]) (by kernel_rfl) (by simp) ?_
      refine AllReadyH.cons (o := { dst := some 61, op := Op.call { callee := Callee.value (Operand.func 25), args := #[Operand.tmp 60], argTypes := #[3] }, type := 3, pos := "outright.go:65", after := #[{ on := 9, ground := Ground.data }, { on := 7, ground := Ground.chain }, { on := 7, ground := Ground.guard }], guard := some (7, false) }) rfl (fun K hK => ?_) (AllReadyH.nil)
      go_simp
      refine (HC.out _).mono ?_; rintro e0 w9 ⟨rfl, rfl⟩
      try go_wp2_with fail
      refine hK.out _ _ ⟨HX.out.c 1 (by simp), HY.out.c 1 (by simp)⟩ (fun hHeld => ?_)
      clear hK K
      try simp only [Act.put, List.setIfInBounds_toArray, List.set_cons_zero, List.set_cons_succ]
      refine wpAnyH_take (i := 13) (oi := { dst := some 64, op := Op.binOp BinOp.neq 3 (Operand.tmp 61) (Operand.tmp 63) 3, type := 4, pos := "outright.go:65", after := #[{ on := 10, ground := Ground.data }, { on := 12, ground := Ground.data }, { on := 7, ground := Ground.guard }], guard := some (7, false) }) (v := ?_) rfl (by kernel_rfl) (by kernel_rfl) (by kernel_rfl) (fun _ _ _ h => h) (Or.inl ⟨by rfl, ?_⟩) (by assumption) ?_
      rotate_left 1
      · intro w hSw; (try dsimp only at hSw); go_simp; try (with_reducible rfl)
      try simp only [Act.put, List.setIfInBounds_toArray, List.set_cons_zero, List.set_cons_succ]
      refine wpAnyH_take (i := 14) (oi := { dst := some 65, op := Op.pick (Operand.tmp 58) (Operand.const (Value.bool true)) (Operand.tmp 64), type := 4, pos := "outright.go:65", after := #[{ on := 7, ground := Ground.data }, { on := 13, ground := Ground.data }], guard := none }) (v := ?_) rfl (by kernel_rfl) (by kernel_rfl) (by kernel_rfl) (fun _ _ _ h => h) (Or.inl ⟨by rfl, ?_⟩) (by assumption) ?_
      rotate_left 1
      · intro w hSw; (try dsimp only at hSw); go_simp; try (with_reducible rfl)
      try simp only [Act.put, List.setIfInBounds_toArray, List.set_cons_zero, List.set_cons_succ]
      refine wpAnyH_take (i := 15) (oi := { dst := some 66, op := Op.move (Operand.tmp 65), type := 4, pos := "outright.go:65", after := #[{ on := 14, ground := Ground.data }, { on := 10, ground := Ground.chain }], guard := none }) (v := ?_) rfl (by kernel_rfl) (by kernel_rfl) (by kernel_rfl) (fun _ _ _ h => h) (Or.inl ⟨by rfl, ?_⟩) (by assumption) ?_
      rotate_left 1
      · intro w hSw; (try dsimp only at hSw); go_simp; try (with_reducible rfl)
      try simp only [Act.put, List.setIfInBounds_toArray, List.set_cons_zero, List.set_cons_succ]
      refine wpAnyH_take (i := 16) (oi := { dst := some 67, op := Op.fieldAddr 25 (Operand.tmp 6) 1, type := 0, pos := "outright.go:65", after := #[{ on := 15, ground := Ground.guard }], guard := some (15, false) }) (v := ?_) rfl (by kernel_rfl) (by kernel_rfl) (by kernel_rfl) (fun _ _ _ h => h) (Or.inl ⟨by rfl, ?_⟩) (by assumption) ?_
      rotate_left 1
      · intro w hSw; (try dsimp only at hSw); go_simp; try (with_reducible rfl)
      try simp only [Act.put, List.setIfInBounds_toArray, List.set_cons_zero, List.set_cons_succ]
      refine wpAnyH_take (i := 17) (oi := { dst := some 68, op := Op.load 3 (Operand.tmp 67), type := 3, pos := "outright.go:65", after := #[{ on := 16, ground := Ground.data }, { on := 15, ground := Ground.guard }], guard := some (15, false) }) (v := ?_) rfl (by kernel_rfl) (by kernel_rfl) (by kernel_rfl) (fun _ _ _ h => h) (Or.inl ⟨by rfl, ?_⟩) (by assumption) ?_
      rotate_left 1
      · intro w hSw; (try dsimp only at hSw); go_simp; try (with_reducible rfl)
      try simp only [Act.put, List.setIfInBounds_toArray, List.set_cons_zero, List.set_cons_succ]
      refine wpAnyH_take (i := 18) (oi := { dst := some 69, op := Op.binOp BinOp.and 3 (Operand.tmp 68) (Operand.const (Value.int IntKind.i64 32768)) 3, type := 3, pos := "outright.go:65", after := #[{ on := 17, ground := Ground.data }, { on := 15, ground := Ground.guard }], guard := some (15, false) }) (v := ?_) rfl (by kernel_rfl) (by kernel_rfl) (by kernel_rfl) (fun _ _ _ h => h) (Or.inl ⟨by rfl, ?_⟩) (by assumption) ?_
      rotate_left 1
      · intro w hSw; (try dsimp only at hSw); go_simp; try (with_reducible rfl)
      try simp only [Act.put, List.setIfInBounds_toArray, List.set_cons_zero, List.set_cons_succ]
      refine wpAnyH_take (i := 19) (oi := { dst := some 70, op := Op.binOp BinOp.eql 3 (Operand.tmp 69) (Operand.const (Value.int IntKind.i64 0)) 3, type := 4, pos := "outright.go:65", after := #[{ on := 18, ground := Ground.data }, { on := 15, ground := Ground.guard }], guard := some (15, false) }) (v := ?_) rfl (by kernel_rfl) (by kernel_rfl) (by kernel_rfl) (fun _ _ _ h => h) (Or.inl ⟨by rfl, ?_⟩) (by assumption) ?_
      rotate_left 1
      · intro w hSw; (try dsimp only at hSw); go_simp; try (with_reducible rfl)
      try simp only [Act.put, List.setIfInBounds_toArray, List.set_cons_zero, List.set_cons_succ]
      refine wpAnyH_take (i := 20) (oi := { dst := some 71, op := Op.pick (Operand.tmp 66) (Operand.const (Value.bool true)) (Operand.tmp 70), type := 4, pos := "outright.go:65", after := #[{ on := 15, ground := Ground.data }, { on := 19, ground := Ground.data }], guard := none }) (v := ?_) rfl (by kernel_rfl) (by kernel_rfl) (by kernel_rfl) (fun _ _ _ h => h) (Or.inl ⟨by rfl, ?_⟩) (by assumption) ?_
      rotate_left 1
      · intro w hSw; (try dsimp only at hSw); go_simp; try (with_reducible rfl)
      try simp only [Act.put, List.setIfInBounds_toArray, List.set_cons_zero, List.set_cons_succ]
      refine wpAnyH_take (i := 21) (oi := { dst := some 72, op := Op.move (Operand.tmp 71), type := 4, pos := "outright.go:65", after := #[{ on := 20, ground := Ground.data }, { on := 15, ground := Ground.chain }], guard := none }) (v := ?_) rfl (by kernel_rfl) (by kernel_rfl) (by kernel_rfl) (fun _ _ _ h => h) (Or.inl ⟨by rfl, ?_⟩) (by assumption) ?_
      rotate_left 1
      · intro w hSw; (try dsimp only at hSw); go_simp; try (with_reducible rfl)
      try simp only [Act.put, List.setIfInBounds_toArray, List.set_cons_zero, List.set_cons_succ]
      refine wpAnyH_take (i := 22) (oi := { dst := some 73, op := Op.fieldAddr 25 (Operand.tmp 6) 1, type := 0, pos := "outright.go:65", after := #[{ on := 21, ground := Ground.guard }], guard := some (21, false) }) (v := ?_) rfl (by kernel_rfl) (by kernel_rfl) (by kernel_rfl) (fun _ _ _ h => h) (Or.inl ⟨by rfl, ?_⟩) (by assumption) ?_
      rotate_left 1
      · intro w hSw; (try dsimp only at hSw); go_simp; try (with_reducible rfl)
      try simp only [Act.put, List.setIfInBounds_toArray, List.set_cons_zero, List.set_cons_succ]
      refine wpAnyH_take (i := 23) (oi := { dst := some 74, op := Op.load 3 (Operand.tmp 73), type := 3, pos := "outright.go:65", after := #[{ on := 22, ground := Ground.data }, { on := 21, ground := Ground.guard }], guard := some (21, false) }) (v := ?_) rfl (by kernel_rfl) (by kernel_rfl) (by kernel_rfl) (fun _ _ _ h => h) (Or.inl ⟨by rfl, ?_⟩) (by assumption) ?_
      rotate_left 1
      · intro w hSw; (try dsimp only at hSw); go_simp; try (with_reducible rfl)
      try simp only [Act.put, List.setIfInBounds_toArray, List.set_cons_zero, List.set_cons_succ]
      refine wpAnyH_take (i := 24) (oi := { dst := some 75, op := Op.binOp BinOp.and 3 (Operand.tmp 74) (Operand.const (Value.int IntKind.i64 512)) 3, type := 3, pos := "outright.go:65", after := #[{ on := 23, ground := Ground.data }, { on := 21, ground := Ground.guard }], guard := some (21, false) }) (v := ?_) rfl (by kernel_rfl) (by kernel_rfl) (by kernel_rfl) (fun _ _ _ h => h) (Or.inl ⟨by rfl, ?_⟩) (by assumption) ?_
      rotate_left 1
      · intro w hSw; (try dsimp only at hSw); go_simp; try (with_reducible rfl)
      try simp only [Act.put, List.setIfInBounds_toArray, List.set_cons_zero, List.set_cons_succ]
      refine wpAnyH_take (i := 25) (oi := { dst := some 76, op := Op.binOp BinOp.neq 3 (Operand.tmp 75) (Operand.const (Value.int IntKind.i64 0)) 3, type := 4, pos := "outright.go:65", after := #[{ on := 24, ground := Ground.data }, { on := 21, ground := Ground.guard }], guard := some (21, false) }) (v := ?_) rfl (by kernel_rfl) (by kernel_rfl) (by kernel_rfl) (fun _ _ _ h => h) (Or.inl ⟨by rfl, ?_⟩) (by assumption) ?_
      rotate_left 1
      · intro w hSw; (try dsimp only at hSw); go_simp; try (with_reducible rfl)
      try simp only [Act.put, List.setIfInBounds_toArray, List.set_cons_zero, List.set_cons_succ]
      refine wpAnyH_take (i := 26) (oi := { dst := some 77, op := Op.pick (Operand.tmp 72) (Operand.const (Value.bool true)) (Operand.tmp 76), type := 4, pos := "outright.go:65", after := #[{ on := 21, ground := Ground.data }, { on := 25, ground := Ground.data }], guard := none }) (v := ?_) rfl (by kernel_rfl) (by kernel_rfl) (by kernel_rfl) (fun _ _ _ h => h) (Or.inl ⟨by rfl, ?_⟩) (by assumption) ?_
      rotate_left 1
      · intro w hSw; (try dsimp only at hSw); go_simp; try (with_reducible rfl)
      try simp only [Act.put, List.setIfInBounds_toArray, List.set_cons_zero, List.set_cons_succ]
      refine wpAnyH_take (i := 27) (oi := { dst := some 78, op := Op.move (Operand.tmp 77), type := 4, pos := "outright.go:65", after := #[{ on := 26, ground := Ground.data }, { on := 21, ground := Ground.chain }], guard := none }) (v := ?_) rfl (by kernel_rfl) (by kernel_rfl) (by kernel_rfl) (fun _ _ _ h => h) (Or.inl ⟨by rfl, ?_⟩) (by assumption) ?_
      rotate_left 1
      · intro w hSw; (try dsimp only at hSw); go_simp; try (with_reducible rfl)
      try simp only [Act.put, List.setIfInBounds_toArray, List.set_cons_zero, List.set_cons_succ]
      refine wpAnyH_take (i := 28) (oi := { dst := some 79, op := Op.fieldAddr 25 (Operand.tmp 6) 1, type := 0, pos := "outright.go:65", after := #[{ on := 27, ground := Ground.guard }], guard := some (27, false) }) (v := ?_) rfl (by kernel_rfl) (by kernel_rfl) (by kernel_rfl) (fun _ _ _ h => h) (Or.inl ⟨by rfl, ?_⟩) (by assumption) ?_
      rotate_left 1
      · intro w hSw; (try dsimp only at hSw); go_simp; try (with_reducible rfl)
      try simp only [Act.put, List.setIfInBounds_toArray, List.set_cons_zero, List.set_cons_succ]
      refine wpAnyH_take (i := 29) (oi := { dst := some 80, op := Op.load 3 (Operand.tmp 79), type := 3, pos := "outright.go:65", after := #[{ on := 28, ground := Ground.data }, { on := 27, ground := Ground.guard }], guard := some (27, false) }) (v := ?_) rfl (by kernel_rfl) (by kernel_rfl) (by kernel_rfl) (fun _ _ _ h => h) (Or.inl ⟨by rfl, ?_⟩) (by assumption) ?_
      rotate_left 1
      · intro w hSw; (try dsimp only at hSw); go_simp; try (with_reducible rfl)
      try simp only [Act.put, List.setIfInBounds_toArray, List.set_cons_zero, List.set_cons_succ]
      refine wpAnyH_take (i := 30) (oi := { dst := some 81, op := Op.binOp BinOp.and 3 (Operand.tmp 80) (Operand.const (Value.int IntKind.i64 256)) 3, type := 3, pos := "outright.go:65", after := #[{ on := 29, ground := Ground.data }, { on := 27, ground := Ground.guard }], guard := some (27, false) }) (v := ?_) rfl (by kernel_rfl) (by kernel_rfl) (by kernel_rfl) (fun _ _ _ h => h) (Or.inl ⟨by rfl, ?_⟩) (by assumption) ?_
      rotate_left 1
      · intro w hSw; (try dsimp only at hSw); go_simp; try (with_reducible rfl)
      try simp only [Act.put, List.setIfInBounds_toArray, List.set_cons_zero, List.set_cons_succ]
      refine wpAnyH_take (i := 31) (oi := { dst := some 82, op := Op.fieldAddr 25 (Operand.tmp 2) 1, type := 0, pos := "outright.go:65", after := #[{ on := 27, ground := Ground.guard }], guard := some (27, false) }) (v := ?_) rfl (by kernel_rfl) (by kernel_rfl) (by kernel_rfl) (fun _ _ _ h => h) (Or.inl ⟨by rfl, ?_⟩) (by assumption) ?_
      rotate_left 1
      · intro w hSw; (try dsimp only at hSw); go_simp; try (with_reducible rfl)
      try simp only [Act.put, List.setIfInBounds_toArray, List.set_cons_zero, List.set_cons_succ]
      refine wpAnyH_take (i := 32) (oi := { dst := some 83, op := Op.load 3 (Operand.tmp 82), type := 3, pos := "outright.go:65", after := #[{ on := 31, ground := Ground.data }, { on := 27, ground := Ground.guard }], guard := some (27, false) }) (v := ?_) rfl (by kernel_rfl) (by kernel_rfl) (by kernel_rfl) (fun _ _ _ h => h) (Or.inl ⟨by rfl, ?_⟩) (by assumption) ?_
      rotate_left 1
      · intro w hSw; (try dsimp only at hSw); go_simp; try (with_reducible rfl)
      try simp only [Act.put, List.setIfInBounds_toArray, List.set_cons_zero, List.set_cons_succ]
      refine wpAnyH_take (i := 33) (oi := { dst := some 84, op := Op.binOp BinOp.and 3 (Operand.tmp 83) (Operand.const (Value.int IntKind.i64 256)) 3, type := 3, pos := "outright.go:65", after := #[{ on := 32, ground := Ground.data }, { on := 27, ground := Ground.guard }], guard := some (27, false) }) (v := ?_) rfl (by kernel_rfl) (by kernel_rfl) (by kernel_rfl) (fun _ _ _ h => h) (Or.inl ⟨by rfl, ?_⟩) (by assumption) ?_
      rotate_left 1
      · intro w hSw; (try dsimp only at hSw); go_simp; try (with_reducible rfl)
      try simp only [Act.put, List.setIfInBounds_toArray, List.set_cons_zero, List.set_cons_succ]
      refine wpAnyH_take (i := 34) (oi := { dst := some 85, op := Op.binOp BinOp.neq 3 (Operand.tmp 81) (Operand.tmp 84) 3, type := 4, pos := "outright.go:65", after := #[{ on := 30, ground := Ground.data }, { on := 33, ground := Ground.data }, { on := 27, ground := Ground.guard }], guard := some (27, false) }) (v := ?_) rfl (by kernel_rfl) (by kernel_rfl) (by kernel_rfl) (fun _ _ _ h => h) (Or.inl ⟨by rfl, ?_⟩) (by assumption) ?_
      rotate_left 1
      · intro w hSw; (try dsimp only at hSw); go_simp; try (with_reducible rfl)
      try simp only [Act.put, List.setIfInBounds_toArray, List.set_cons_zero, List.set_cons_succ]
      refine wpAnyH_take (i := 35) (oi := { dst := some 86, op := Op.pick (Operand.tmp 78) (Operand.const (Value.bool true)) (Operand.tmp 85), type := 4, pos := "outright.go:65", after := #[{ on := 27, ground := Ground.data }, { on := 34, ground := Ground.data }], guard := none }) (v := ?_) rfl (by kernel_rfl) (by kernel_rfl) (by kernel_rfl) (fun _ _ _ h => h) (Or.inl ⟨by rfl, ?_⟩) (by assumption) ?_
      rotate_left 1
      · intro w hSw; (try dsimp only at hSw); go_simp; try (with_reducible rfl)
      try simp only [Act.put, List.setIfInBounds_toArray, List.set_cons_zero, List.set_cons_succ]
      refine wpAnyH_done (by kernel_rfl) ?_ _
      clear hHeld
      obtain ⟨WY, hWY⟩ : ∃ X, WX.drew = X := ⟨_, rfl⟩
      have hb : Below WX.heap.size WX WY := by rw [← hWY]; exact (Below.refl _ _).drew
      replace HB := Lib.hid (bel_call HB.out hb)
      replace HY := Lib.hid (HY.out.below (by simp) hb)
      replace HMY := Lib.hid (HMY.out.later hb)
      clear hb
      go_wp2_with fail
      refine wp_region_held_drew (S := (fun wx => wx.cell? ⟨g, 0, none⟩ = some (.int .i64 i0) ∧ wx.cell? ⟨g, 1, none⟩ = some (.int .i64 fl) ∧ wx.cell? ⟨g, 2, none⟩ = some (.slice qa' lq qc') ∧ wx.cell? ⟨g, 3, none⟩ = some (.slice none 0 0) ∧ wx.cell? ⟨g, 4, none⟩ = some (.slice none 0 0) ∧ wx.cell? ⟨g, 5, none⟩ = some (.slice none 0 0))) (by kernel_rfl) (by rw [hWY]; exact HY.out.six) (fun hHeld => ?_)
      refine wpAnyH_take (i := 0) (oi := { dst := some 87, op := Op.move (Operand.tmp 5), type := 4, pos := "outright.go:68", after := #[], guard := none }) (v := ?_) rfl (by kernel_rfl) (by kernel_rfl) (by kernel_rfl) (fun _ _ _ h => h) (Or.inl ⟨by rfl, ?_⟩) (by assumption) ?_
      rotate_left 1
      · intro w hSw; (try dsimp only at hSw); go_simp; try (with_reducible rfl)
      try simp only [Act.put, List.setIfInBounds_toArray, List.set_cons_zero, List.set_cons_succ]
      refine wpAnyH_take (i := 1) (oi := { dst := some 88, op := Op.move (Operand.tmp 87), type := 4, pos := "outright.go:68", after := #[{ on := 0, ground := Ground.data }], guard := none }) (v := ?_) rfl (by kernel_rfl) (by kernel_rfl) (by kernel_rfl) (fun _ _ _ h => h) (Or.inl ⟨by rfl, ?_⟩) (by assumption) ?_
      rotate_left 1
      · intro w hSw; (try dsimp only at hSw); go_simp; try (with_reducible rfl)
      try simp only [Act.put, List.setIfInBounds_toArray, List.set_cons_zero, List.set_cons_succ]
      refine wpAnyH_take (i := 2) (oi := { dst := some 89, op := Op.load 25 (Operand.tmp 6), type := 25, pos := "outright.go:68", after := #[{ on := 1, ground := Ground.guard }], guard := some (1, true) }) (v := ?_) rfl (by kernel_rfl) (by kernel_rfl) (by kernel_rfl) (fun _ _ _ h => h) (Or.inl ⟨by rfl, ?_⟩) (by assumption) ?_
      rotate_left 1
      · intro w hSw; (try dsimp only at hSw); go_simp; try (with_reducible rfl)
      try simp only [Act.put, List.setIfInBounds_toArray, List.set_cons_zero, List.set_cons_succ]
      refine wpAnyH_take (i := 3) (oi := { dst := some 90, op := Op.move (Operand.tmp 1), type := 3, pos := "outright.go:68", after := #[{ on := 1, ground := Ground.guard }], guard := some (1, true) }) (v := ?_) rfl (by kernel_rfl) (by kernel_rfl) (by kernel_rfl) (fun _ _ _ h => h) (Or.inl ⟨by rfl, ?_⟩) (by assumption) ?_
      rotate_left 1
      · intro w hSw; (try dsimp only at hSw); go_simp; try (with_reducible rfl)
      try simp only [Act.put, List.setIfInBounds_toArray, List.set_cons_zero, List.set_cons_succ]
      refine wpAnyH_take (i := 5) (oi := { dst := some 92, op := Op.load 25 (Operand.tmp 6), type := 25, pos := "outright.go:68", after := #[{ on := 1, ground := Ground.guard }], guard := some (1, true) }) (v := ?_) rfl (by kernel_rfl) (by kernel_rfl) (by kernel_rfl) (fun _ _ _ h => h) (Or.inl ⟨by rfl, ?_⟩) (by assumption) ?_
      rotate_left 1
      · intro w hSw; (try dsimp only at hSw); go_simp; try (with_reducible rfl)
      try simp only [Act.put, List.setIfInBounds_toArray, List.set_cons_zero, List.set_cons_succ]
      refine wpAnyH_ready (rs := [4]) (by kernel_rfl) (by simp) ?_
      refine AllReadyH.cons (o := { dst := some 91, op := Op.call { callee := Callee.value (Operand.func 19), args := #[Operand.tmp 89, Operand.tmp 90], argTypes := #[25, 3] }, type := 25, pos := "outright.go:68", after := #[{ on := 2, ground := Ground.data }, { on := 3, ground := Ground.data }, { on := 1, ground := Ground.chain }, { on := 1, ground := Ground.guard }], guard := some (1, true) }) rfl (fun K hK => ?_) (AllReadyH.nil)
      go_simp
      refine (replyM_mg c HMY.out (Nat.le_refl _) (by show m.q.length ≤ _; omega) HF.out.q).mono ?_; rw [HRR.out]; rintro e0 w7 ⟨v7, rfl, hm7, hb⟩
      have HM7 := Lib.hid hm7
      clear hm7
      replace HB := Lib.hid (bel_call HB.out hb)
      replace HY := Lib.hid (HY.out.below (by simp) hb)
      replace HMY := Lib.hid (HMY.out.later hb)
      clear hb
      try go_wp2_with fail
      refine hK.out _ _ HY.out.six (fun hHeld => ?_)
      clear hK K
      try simp only [Act.put, List.setIfInBounds_toArray, List.set_cons_zero, List.set_cons_succ]
      refine wpAnyH_ready (rs := [6]) (by kernel_rfl) (by simp) ?_
      refine AllReadyH.cons (o := { dst := some 93, op := Op.call { callee := Callee.value (Operand.func 21), args := #[Operand.tmp 91, Operand.tmp 92], argTypes := #[25, 25] }, type := 4, pos := "outright.go:68", after := #[{ on := 4, ground := Ground.data }, { on := 5, ground := Ground.data }, { on := 4, ground := Ground.chain }, { on := 1, ground := Ground.guard }], guard := some (1, true) }) rfl (fun K hK => ?_) (AllReadyH.nil)
      go_simp
      refine (sameM_yes HM7.out HMY.out (Nat.le_refl _) (Nat.le_refl _)).mono ?_; rintro e0 w8 ⟨rfl, hb⟩
      replace HB := Lib.hid (bel_call HB.out hb)
      replace HY := Lib.hid (HY.out.below (by simp) hb)
      replace HMY := Lib.hid (HMY.out.later hb)
      clear hb
      try go_wp2_with fail
      refine hK.out _ _ HY.out.six (fun hHeld => ?_)
      clear hK K
      try simp only [Act.put, List.setIfInBounds_toArray, List.set_cons_zero, List.set_cons_succ]
      refine wpAnyH_take (i := 7) (oi := { dst := some 94, op := Op.pick (Operand.tmp 88) (Operand.tmp 93) (Operand.const (Value.bool false)), type := 4, pos := "outright.go:68", after := #[{ on := 1, ground := Ground.data }, { on := 6, ground := Ground.data }], guard := none }) (v := ?_) rfl (by kernel_rfl) (by kernel_rfl) (by kernel_rfl) (fun _ _ _ h => h) (Or.inl ⟨by rfl, ?_⟩) (by assumption) ?_
      rotate_left 1
      · intro w hSw; (try dsimp only at hSw); go_simp; try (with_reducible rfl)
      try simp only [Act.put, List.setIfInBounds_toArray, List.set_cons_zero, List.set_cons_succ]
      refine wpAnyH_take (i := 8) (oi := { dst := some 4, op := Op.assign (Operand.tmp 94), type := 4, pos := "outright.go:68", after := #[{ on := 7, ground := Ground.data }, { on := 6, ground := Ground.chain }, { on := 0, ground := Ground.phase }, { on := 1, ground := Ground.phase }, { on := 2, ground := Ground.phase }, { on := 3, ground := Ground.phase }, { on := 4, ground := Ground.phase }, { on := 5, ground := Ground.phase }, { on := 6, ground := Ground.phase }, { on := 7, ground := Ground.phase }], guard := none }) (v := ?_) rfl (by kernel_rfl) (by kernel_rfl) (by kernel_rfl) (fun _ _ _ h => h) (Or.inl ⟨by rfl, ?_⟩) (by assumption) ?_
      rotate_left 1
      · intro w hSw; (try dsimp only at hSw); go_simp; try (with_reducible rfl)
      try simp only [Act.put, List.setIfInBounds_toArray, List.set_cons_zero, List.set_cons_succ]
      refine wpAnyH_done (by kernel_rfl) ?_ _
      clear hHeld
      go_wp2_with fail
      go_ret
      exact ⟨rfl, HB.out⟩
    · have tE : (E != 0) = true := by simpa using hE0
      go_wp2_with fail
      go_ret
      exact ⟨rfl, HB.out⟩
end Go.Proofs.YtdikgjbpjdnodaaGreat

/-
  Messages that came in.
-/
namespace Go.Proofs.YtdikgjbpjdnodaaGreat
open Go.RowKit Go.Shelf
set_option linter.unusedVariables false
set_option linter.unusedSimpArgs false
set_option maxRecDepth 100000

theorem flat_of {α : Type} {f : α → List Value} {k : Nat} (hf : ∀ x, (f x).length = k) : ∀ (l : List α) (i : Nat) (u : Value), (l.flatMap f)[i]? = some u → ∃ j r, ∃ h : j < l.length, i = j * k + r ∧ (f l[j])[r]? = some u
  | [], i, u, h => by simp at h
  | x :: l, i, u, h => by
    rw [List.flatMap_cons] at h
    by_cases hi : i < k
    · rw [List.getElem?_append_left (by rw [hf]; exact hi)] at h
      exact ⟨0, i, by simp, by omega, h⟩
    · rw [List.getElem?_append_right (by rw [hf]; omega), hf] at h
      obtain ⟨j, r, h1, h2, h3⟩ := flat_of hf l _ u h
      exact ⟨j + 1, r, by simpa using h1, by rw [Nat.add_mul]; omega, h3⟩

/-- What is known of a slice of questions, of records that came in. -/
def IsQs (w : World) (a : Option Addr) (len cap : Nat) : Prop :=
  (a = none ∧ len = 0 ∧ cap = 0) ∨ ∃ x, a = some x ∧ ∀ i, i < len → ∃ (s : ByteArray) (t c : Int), w.cell? (x.add (i * 3)) = some (.string s) ∧ w.cell? (x.add (i * 3 + 1)) = some (.int .i64 t) ∧ w.cell? (x.add (i * 3 + 2)) = some (.int .i64 c)
def IsRs (w : World) (a : Option Addr) (len cap : Nat) : Prop :=
  (a = none ∧ len = 0 ∧ cap = 0) ∨ ∃ x, a = some x ∧ ∀ i, i < len → ∃ (s : ByteArray) (t c l : Int) (d : ByteArray), w.cell? (x.add (i * 5)) = some (.string s) ∧ w.cell? (x.add (i * 5 + 1)) = some (.int .i64 t) ∧ w.cell? (x.add (i * 5 + 2)) = some (.int .i64 c) ∧ w.cell? (x.add (i * 5 + 3)) = some (.int .i64 l) ∧ w.cell? (x.add (i * 5 + 4)) = some (.string d)

theorem cells_qn : Tryz.prog.cellsOf 56 = 3 := by kernel_rfl
theorem cells_msg : Tryz.prog.cellsOf 25 = 6 := by kernel_rfl
theorem cells_sqn : Tryz.prog.cellsOf 22 = 1 := by kernel_rfl
theorem cells_src : Tryz.prog.cellsOf 23 = 1 := by kernel_rfl
theorem bytes_qn : Tryz.prog.bytesOf 56 = 32 := by kernel_rfl
theorem bytes_rc : Tryz.prog.bytesOf 78 = 56 := by kernel_rfl

theorem open_qn {H : Type} {enc : TypeId × Value → H} {w : World} {base fuel : Nat} {spare : Nat → Bool} {held : Bool} {cs : List Value} {x : DataW H × List MemPlace}
    (h : DataW.trod enc Tryz.prog w base spare held fuel 56 cs = some x) (hl : cs.length = 3) : ∃ (s : ByteArray) (t c : Int), cs = [.string s, .int .i64 t, .int .i64 c] := by
  cases fuel with
  | zero => simp [DataW.trod] at h
  | succ fuel =>
    obtain ⟨xs, k, _, _, _, h9, h10⟩ := DataW.trod_struct Tryz.underlying56 h
    match cs, hl with
    | [v0, v1, v2], _ =>
      have g0 := h10 0 _ rfl
      have g1 := h10 1 _ rfl
      have g2 := h10 2 _ rfl
      match xs, h9 with
      | [y0, y1, y2], _ =>
        simp [cellsC_str, cellsC_int] at g0 g1 g2
        obtain ⟨s, k0, _, _⟩ := DataW.trod_string Tryz.underlying9 g0
        obtain ⟨t, k1, _, _⟩ := DataW.trod_int Tryz.underlying3 g1
        obtain ⟨c, k2, _, _⟩ := DataW.trod_int Tryz.underlying3 g2
        injection k0 with k0 _
        injection k1 with k1 _
        injection k2 with k2 _
        subst k0; subst k1; subst k2
        exact ⟨s, t, c, rfl⟩

theorem open_qs {H : Type} {enc : TypeId × Value → H} {w : World} {base fuel : Nat} {spare : Nat → Bool} {held : Bool} {cs : List Value} {x : DataW H × List MemPlace}
    (h : DataW.trod enc Tryz.prog w base spare held fuel 22 cs = some x) (hw : ∀ n ∈ x.1.weights Tryz.prog 22, n ≤ reachBytes) :
    ∃ a len cap, cs = [.slice a len cap] ∧ IsQs w a len cap ∧ len ≤ 140737488351232 := by
  rcases Deep.open_slice Tryz.underlying22 h with ⟨h1, _⟩ | ⟨b, l, c, m, n, D, Pl, h1, _, h2, _, h3, h5, h4⟩
  · exact ⟨none, 0, 0, h1, .inl ⟨rfl, rfl, rfl⟩, by omega⟩
  · have hm : l ≤ m := by rw [h3]; split <;> omega
    refine ⟨some b, l, c, h1, .inr ⟨b, rfl, fun i hi => ?_⟩, ?_⟩
    · obtain ⟨cs', h6, h7⟩ := h4 i (by omega)
      rw [cells_qn] at h6
      obtain ⟨_, h8, h9⟩ := World.cells?_some h6
      obtain ⟨s, t, c, rfl⟩ := open_qn h7 h8
      have c0 := h9 0 (by omega)
      have c1 := h9 1 (by omega)
      have c2 := h9 2 (by omega)
      rw [Deep.add_add] at c0 c1 c2
      exact ⟨s, t, c, by simpa using c0, by simpa using c1, by simpa using c2⟩
    · have := hw ((l + (m - l)) * 32) (by rw [h5]; simp [DataW.weights, Tryz.underlying22, bytes_qn])
      unfold reachBytes at this
      omega
theorem open_rs {H : Type} {enc : TypeId × Value → H} {w : World} {base fuel : Nat} {spare : Nat → Bool} {held : Bool} {cs : List Value} {x : DataW H × List MemPlace}
    (h : DataW.trod enc Tryz.prog w base spare held fuel 23 cs = some x) (hw : ∀ n ∈ x.1.weights Tryz.prog 23, n ≤ reachBytes) :
    ∃ a len cap, cs = [.slice a len cap] ∧ IsRs w a len cap ∧ len ≤ 140737488351232 := by
  rcases Deep.open_slice Tryz.underlying23 h with ⟨h1, _⟩ | ⟨b, l, c, m, n, D, Pl, h1, _, h2, _, h3, h5, h4⟩
  · exact ⟨none, 0, 0, h1, .inl ⟨rfl, rfl, rfl⟩, by omega⟩
  · have hm : l ≤ m := by rw [h3]; split <;> omega
    refine ⟨some b, l, c, h1, .inr ⟨b, rfl, fun i hi => ?_⟩, ?_⟩
    · obtain ⟨cs', h6, h7⟩ := h4 i (by omega)
      rw [cells_rec] at h6
      obtain ⟨_, h8, h9⟩ := World.cells?_some h6
      obtain ⟨s, t, c, tl, d, rfl⟩ := open_rec h7 h8
      have c0 := h9 0 (by omega)
      have c1 := h9 1 (by omega)
      have c2 := h9 2 (by omega)
      have c3 := h9 3 (by omega)
      have c4 := h9 4 (by omega)
      rw [Deep.add_add] at c0 c1 c2 c3 c4
      exact ⟨s, t, c, tl, d, by simpa using c0, by simpa using c1, by simpa using c2, by simpa using c3, by simpa using c4⟩
    · have := hw ((l + (m - l)) * 56) (by rw [h5]; simp [DataW.weights, Tryz.underlying23, bytes_rc])
      unfold reachBytes at this
      omega

/-- Such slices as questions, as records. -/
theorem qs_of {w : World} {a : Option Addr} {len cap : Nat} (h : IsQs w a len cap) (hl : len ≤ 140737488351232) : ∃ l : List Qn, SQ w w.heap.size (.slice a len cap) l := by
  rcases h with ⟨rfl, rfl, rfl⟩ | ⟨x, rfl, hx⟩
  · exact ⟨[], Lst.nil _ _⟩
  · have hch : ∀ n, n ≤ len → ∃ l : List Qn, l.length = n ∧ ∀ i (h : i < l.length), w.cell? (x.add (i * 3)) = some (.string (bs l[i].n)) ∧ w.cell? (x.add (i * 3 + 1)) = some (.int .i64 l[i].t) ∧ w.cell? (x.add (i * 3 + 2)) = some (.int .i64 l[i].c) := by
      intro n
      induction n with
      | zero => intro _; exact ⟨[], rfl, fun i h => by simp at h⟩
      | succ n ih =>
        intro hn
        obtain ⟨l, h1, h2⟩ := ih (by omega)
        obtain ⟨s, t, c, c0, c1, c2⟩ := hx n (by omega)
        refine ⟨l ++ [⟨s.data.toList, t, c⟩], by simp [h1], fun i hi => ?_⟩
        rw [List.length_append, List.length_singleton] at hi
        by_cases e : i < l.length
        · rw [List.getElem_append_left e]; exact h2 i e
        · have : i = l.length := by omega
          subst this
          rw [List.getElem_append_right (Nat.le_refl _)]
          simp only [Nat.sub_self, List.getElem_cons_zero]
          rw [h1, ← bs_eta]
          exact ⟨c0, c1, c2⟩
    obtain ⟨l, h1, h2⟩ := hch len (Nat.le_refl _)
    refine ⟨l, some x, cap, by rw [h1], by omega, fun h => by simp at h, fun h0 => ?_⟩
    obtain ⟨b, off, spot⟩ := x
    have c0 := (h2 0 h0).1
    have hspot : spot = none := by simpa [Addr.add] using World.cell?_spot c0
    subst hspot
    have hlt : b < w.heap.size := by
      rw [WideShapes.add_plain] at c0
      exact World.block_lt_of_cell? w _ c0
    refine ⟨b, off, rfl, hlt, fun i u hu => ?_⟩
    obtain ⟨j, r, hj, rfl, hr⟩ := flat_of (f := cq) (k := 3) (fun _ => rfl) l i u hu
    obtain ⟨c0, c1, c2⟩ := h2 j hj
    rw [WideShapes.add_plain] at c0 c1 c2
    match r, hr with
    | 0, hr => simp [cq] at hr; subst hr; exact c0
    | 1, hr => simp [cq] at hr; subst hr; exact c1
    | 2, hr => simp [cq] at hr; subst hr; exact c2
    | r + 3, hr => simp [cq] at hr
theorem rs_of {w : World} {a : Option Addr} {len cap : Nat} (h : IsRs w a len cap) (hl : len ≤ 140737488351232) : ∃ l : List Rc, SR w w.heap.size (.slice a len cap) l := by
  rcases h with ⟨rfl, rfl, rfl⟩ | ⟨x, rfl, hx⟩
  · exact ⟨[], Lst.nil _ _⟩
  · have hch : ∀ n, n ≤ len → ∃ l : List Rc, l.length = n ∧ ∀ i (h : i < l.length), w.cell? (x.add (i * 5)) = some (.string (bs l[i].n)) ∧ w.cell? (x.add (i * 5 + 1)) = some (.int .i64 l[i].t) ∧ w.cell? (x.add (i * 5 + 2)) = some (.int .i64 l[i].c) ∧ w.cell? (x.add (i * 5 + 3)) = some (.int .i64 l[i].l) ∧ w.cell? (x.add (i * 5 + 4)) = some (.string (bs l[i].d)) := by
      intro n
      induction n with
      | zero => intro _; exact ⟨[], rfl, fun i h => by simp at h⟩
      | succ n ih =>
        intro hn
        obtain ⟨l, h1, h2⟩ := ih (by omega)
        obtain ⟨s, t, c, tl, d, c0, c1, c2, c3, c4⟩ := hx n (by omega)
        refine ⟨l ++ [⟨s.data.toList, t, c, tl, d.data.toList⟩], by simp [h1], fun i hi => ?_⟩
        rw [List.length_append, List.length_singleton] at hi
        by_cases e : i < l.length
        · rw [List.getElem_append_left e]; exact h2 i e
        · have : i = l.length := by omega
          subst this
          rw [List.getElem_append_right (Nat.le_refl _)]
          simp only [Nat.sub_self, List.getElem_cons_zero]
          rw [h1, ← bs_eta, ← bs_eta]
          exact ⟨c0, c1, c2, c3, c4⟩
    obtain ⟨l, h1, h2⟩ := hch len (Nat.le_refl _)
    refine ⟨l, some x, cap, by rw [h1], by omega, fun h => by simp at h, fun h0 => ?_⟩
    obtain ⟨b, off, spot⟩ := x
    have c0 := (h2 0 h0).1
    have hspot : spot = none := by simpa [Addr.add] using World.cell?_spot c0
    subst hspot
    have hlt : b < w.heap.size := by
      rw [WideShapes.add_plain] at c0
      exact World.block_lt_of_cell? w _ c0
    refine ⟨b, off, rfl, hlt, fun i u hu => ?_⟩
    obtain ⟨j, r, hj, rfl, hr⟩ := flat_of (f := cr) (k := 5) (fun _ => rfl) l i u hu
    obtain ⟨c0, c1, c2, c3, c4⟩ := h2 j hj
    rw [WideShapes.add_plain] at c0 c1 c2 c3 c4
    match r, hr with
    | 0, hr => simp [cr] at hr; subst hr; exact c0
    | 1, hr => simp [cr] at hr; subst hr; exact c1
    | 2, hr => simp [cr] at hr; subst hr; exact c2
    | 3, hr => simp [cr] at hr; subst hr; exact c3
    | 4, hr => simp [cr] at hr; subst hr; exact c4
    | r + 5, hr => simp [cr] at hr

/-- A message that came in reads as one. -/
theorem open_msg {H : Type} {enc : TypeId × Value → H} {w : World} {base fuel : Nat} {spare : Nat → Bool} {held : Bool} {cs : Array Value} {x : DataW H × List MemPlace}
    (h : DataW.trod enc Tryz.prog w base spare held fuel 25 cs.toList = some x) (hl : cs.size = 6) (hw : ∀ n ∈ x.1.weights Tryz.prog 25, n ≤ reachBytes) : ∃ m : Ms, Mg w w.heap.size (.agg cs) m := by
  obtain ⟨cs⟩ := cs
  simp only [List.size_toArray] at hl
  cases fuel with
  | zero => simp [DataW.trod] at h
  | succ fuel =>
    obtain ⟨xs, k, _, h8, _, h9, h10⟩ := DataW.trod_struct Tryz.underlying25 h
    match cs, hl with
    | [v0, v1, v2, v3, v4, v5], _ =>
      have g0 := h10 0 _ rfl
      have g1 := h10 1 _ rfl
      have g2 := h10 2 _ rfl
      have g3 := h10 3 _ rfl
      have g4 := h10 4 _ rfl
      have g5 := h10 5 _ rfl
      match xs, h9 with
      | [y0, y1, y2, y3, y4, y5], _ =>
        simp [cellsC_int, cells_sqn, cells_src] at g0 g1 g2 g3 g4 g5
        have hw2 : ∀ n, (n ∈ y2.1.weights Tryz.prog 22 ∨ n ∈ y3.1.weights Tryz.prog 23 ∨ n ∈ y4.1.weights Tryz.prog 23 ∨ n ∈ y5.1.weights Tryz.prog 23) → n ≤ reachBytes := fun n hn => hw n (by
          rw [h8]
          simp only [List.map_cons, List.map_nil, DataW.weights, Tryz.underlying25, List.toList_toArray, DataW.weightsEach, List.mem_append, List.not_mem_nil, or_false]
          rcases hn with h | h | h | h <;> simp [h])
        obtain ⟨i, k0, _, _⟩ := DataW.trod_int Tryz.underlying3 g0
        obtain ⟨f, k1, _, _⟩ := DataW.trod_int Tryz.underlying3 g1
        obtain ⟨qa, ql, qc, k2, q1, q2⟩ := open_qs g2 (fun n hn => hw2 n (.inl hn))
        obtain ⟨aa, al, ac, k3, a1, a2⟩ := open_rs g3 (fun n hn => hw2 n (.inr (.inl hn)))
        obtain ⟨na, nl, nc, k4, n1, n2⟩ := open_rs g4 (fun n hn => hw2 n (.inr (.inr (.inl hn))))
        obtain ⟨ra, rl, rc, k5, r1, r2⟩ := open_rs g5 (fun n hn => hw2 n (.inr (.inr (.inr hn))))
        injection k0 with k0 _
        injection k1 with k1 _
        injection k2 with k2 _
        injection k3 with k3 _
        injection k4 with k4 _
        injection k5 with k5 _
        subst k0; subst k1; subst k2; subst k3; subst k4; subst k5
        obtain ⟨lq, h1⟩ := qs_of q1 q2
        obtain ⟨la, h2⟩ := rs_of a1 a2
        obtain ⟨ln, h3⟩ := rs_of n1 n2
        obtain ⟨lr, h4⟩ := rs_of r1 r2
        exact ⟨⟨i, f, lq, la, ln, lr⟩, _, _, _, _, rfl, h1, h2, h3, h4⟩
end Go.Proofs.YtdikgjbpjdnodaaGreat
