/-
  The bare answer: Reply, and its flags.
-/
import Derived.Test.YtdikgjbpjdnodaaGreatZ14
import Derived.Test.YtdikgjbpjdnodaaGreatZ01
namespace Go.Proofs.YtdikgjbpjdnodaaGreat
open Go.RowKit Go.Shelf
set_option linter.unusedVariables false
set_option linter.unusedSimpArgs false
set_option maxRecDepth 100000

/-- The flags of a bare answer. -/
def rpB (f : Int) : Int := bits .or .i64 (bits .or .i64 (bits .and .i64 f 30992) 32768) 128
def rpF (f c : Int) : Int := wcF (rpB f) c

theorem and_shl (n m a : Nat) : n &&& (m <<< a) = ((n >>> a) &&& m) <<< a := by
  apply Nat.eq_of_testBit_eq
  intro i
  simp only [Nat.testBit_and, Nat.testBit_shiftLeft, Nat.testBit_shiftRight]
  by_cases h : a ≤ i
  · have e : a + (i - a) = i := by omega
    simp [h, e]
  · simp [h]
theorem and_30992 (n : Nat) : n &&& 30992 = 2048 * (n / 2048 % 16) + (256 * (n / 256 % 2) + 16 * (n / 16 % 2)) := by
  have e : (30992 : Nat) = (15 <<< 11) ||| ((1 <<< 8) ||| (1 <<< 4)) := by decide
  rw [e, Nat.and_or_distrib_left, Nat.and_or_distrib_left, and_shl, and_shl, and_shl]
  have e1 : n >>> 11 &&& 15 = n / 2048 % 16 := by
    have := Nat.and_two_pow_sub_one_eq_mod (n >>> 11) 4
    rw [Nat.shiftRight_eq_div_pow] at this ⊢
    exact this
  have e2 : n >>> 8 &&& 1 = n / 256 % 2 := by
    have := Nat.and_two_pow_sub_one_eq_mod (n >>> 8) 1
    rw [Nat.shiftRight_eq_div_pow] at this ⊢
    exact this
  have e3 : n >>> 4 &&& 1 = n / 16 % 2 := by
    have := Nat.and_two_pow_sub_one_eq_mod (n >>> 4) 1
    rw [Nat.shiftRight_eq_div_pow] at this ⊢
    exact this
  rw [e1, e2, e3, Nat.shiftLeft_eq, Nat.shiftLeft_eq, Nat.shiftLeft_eq]
  generalize n / 2048 % 16 = a
  have h2 : n / 256 % 2 < 2 := Nat.mod_lt _ (by decide)
  have h3 : n / 16 % 2 < 2 := Nat.mod_lt _ (by decide)
  generalize n / 256 % 2 = b at *
  generalize n / 16 % 2 = c at *
  rw [Nat.mul_comm a, Nat.mul_comm b, Nat.mul_comm c]
  have g1 := Nat.two_pow_add_eq_or_of_lt (i := 8) (b := 2 ^ 4 * c) (by omega) b
  have g2 := Nat.two_pow_add_eq_or_of_lt (i := 11) (b := 2 ^ 8 * b + 2 ^ 4 * c) (by omega) a
  rw [← g1, ← g2]
theorem or_two (s c : Nat) (hc : c < 2) : (256 * s + 16 * c) ||| 128 = 256 * s + (128 + 16 * c) := by
  have g1 := Nat.two_pow_add_eq_or_of_lt (i := 8) (b := 16 * c) (by omega) s
  have g2 := Nat.two_pow_add_eq_or_of_lt (i := 8) (b := 128 + 16 * c) (by omega) s
  have g3 : 16 * c ||| 128 = 128 + 16 * c := by
    have : c = 0 ∨ c = 1 := by omega
    rcases this with rfl | rfl <;> decide
  show 2 ^ 8 * s + 16 * c ||| 128 = 2 ^ 8 * s + (128 + 16 * c)
  rw [g1, g2, Nat.or_assoc, g3]

/-- The flags of a bare answer to flags of 16 bits. -/
theorem rpB_eq (f : Int) (h0 : 0 ≤ f) (h1 : f < 65536) : rpB f = 32768 + 2048 * (f / 2048 % 16) + 256 * (f / 256 % 2) + 128 + 16 * (f / 16 % 2) := by
  obtain ⟨n, rfl⟩ := Int.eq_ofNat_of_zero_le h0
  have hn : n < 65536 := by omega
  have o64 : ∀ k : Nat, k < 65536 → (BitVec.ofInt 64 (k : Int)).toNat = k := fun k hk => by rw [BitVec.toNat_ofInt]; omega
  have b1 : bits .and .i64 (n : Int) 30992 = ((n &&& 30992 : Nat) : Int) := by
    show IntKind.i64.wrap ((BitVec.ofInt 64 (n : Int) &&& BitVec.ofInt 64 30992).toNat : Nat) = _
    rw [BitVec.toNat_and, o64 n hn, show (BitVec.ofInt 64 30992).toNat = 30992 by decide, IntKind.wrap_i64, and_30992]
    omega
  have bor : ∀ a b : Nat, a < 65536 → b < 65536 → bits .or .i64 (a : Int) (b : Int) = ((a ||| b : Nat) : Int) := fun a b ha hb => by
    have hl : a ||| b < 2 ^ 16 := Nat.or_lt_two_pow ha hb
    show IntKind.i64.wrap ((BitVec.ofInt 64 (a : Int) ||| BitVec.ofInt 64 (b : Int)).toNat : Nat) = _
    rw [BitVec.toNat_or, o64 a ha, o64 b hb, IntKind.wrap_i64]
    omega
  have h2 : n / 256 % 2 < 2 := Nat.mod_lt _ (by decide)
  have h3 : n / 16 % 2 < 2 := Nat.mod_lt _ (by decide)
  have h4 : n / 2048 % 16 < 16 := Nat.mod_lt _ (by decide)
  have hs := and_30992 n
  generalize hS : n &&& 30992 = S at *
  have g1 : S ||| 32768 = 32768 + S := by
    have := Nat.two_pow_add_eq_or_of_lt (i := 15) (b := S) (by omega) 1
    rw [Nat.or_comm]
    exact this.symm
  have g2 : (32768 + S) ||| 128 = 32768 + S + 128 := by
    have := or_two (128 + (8 * (n / 2048 % 16) + n / 256 % 2)) (n / 16 % 2) h3
    rw [show 256 * (128 + (8 * (n / 2048 % 16) + n / 256 % 2)) + 16 * (n / 16 % 2) = 32768 + S by omega] at this
    rw [this]
    omega
  unfold rpB
  rw [b1, show (32768 : Int) = ((32768 : Nat) : Int) from rfl, bor _ _ (by omega) (by decide), g1, show (128 : Int) = ((128 : Nat) : Int) from rfl, bor _ _ (by omega) (by decide), g2]
  omega

/-- The answer while questions are being taken over. -/
structure Rp (w wr : World) (N : Nat) (i f : Int) (qv : Value) (l : List Qn) : Prop where
  bel : Below N w wr
  z : Cel wr (N + 1) [.int .i64 0, .int .i64 0, .slice none 0 0, .slice none 0 0, .slice none 0 0, .slice none 0 0]
  r : Cel wr (N + 2) [.int .i64 i, .int .i64 f, qv, .slice none 0 0, .slice none 0 0, .slice none 0 0]
  own : OwnQn wr (N + 3) qv l
  size : N + 3 ≤ wr.heap.size

section
variable {w wr w' : World} {N : Nat} {i f : Int} {qv : Value} {l : List Qn}
theorem Rp.later (h : Rp w wr N i f qv l) (hb : Below wr.heap.size wr w') : Rp w w' N i f qv l :=
  ⟨below_aside h.bel (Aside.of_all hb : Aside (fun _ => False) wr w') (fun k hk => ⟨by have := h.size; omega, id⟩), h.z.below (by simp) hb, h.r.below (by simp) hb, row_below h.own hb, Nat.le_trans h.size hb.size⟩
theorem Rp.aside {b : Nat} (h : Rp w wr N i f qv l) (ha : Aside (fun k => k = b) wr w') (hb : N + 3 ≤ b) (ho : ∀ k, qv.ownBlock = some k → k ≠ b) : Rp w w' N i f qv l :=
  ⟨below_aside h.bel ha (fun k hk => ⟨by have := h.size; omega, by omega⟩), h.z.aside (by simp) ha (by omega), h.r.aside (by simp) ha (by omega), row_aside h.own ha ho, Nat.le_trans h.size ha.size⟩
/-- A question is laid behind the others. -/
theorem Rp.app (h : Rp w wr N i f qv l) {hi : Nat} {u : Value} {x : Qn} (hx : SQ wr hi u [x]) (hl : l.length + 1 ≤ 1000000) :
    ∃ a c w6, (Builtin.append_ #[22, 22] 22 #[qv, u]).run Tryz.prog wr = .ok (.slice a (l.length + 1) c) w6 ∧ w6.frozen? ⟨N + 2, 2, none⟩ = false ∧ w6.cell? ⟨N + 2, 2, none⟩ = some qv ∧
      Rp w (w6.setCell ⟨N + 2, 2, none⟩ (.slice a (l.length + 1) c)) N i f (.slice a (l.length + 1) c) (l ++ [x]) ∧ (∀ b, (Value.slice a (l.length + 1) c).ownBlock = some b → qv.ownBlock = some b ∨ wr.heap.size ≤ b) := by
  obtain ⟨a, c, w6, h1, h2, h3, h4⟩ := run_appQn h.own hx hl h.size
  simp only [List.length_singleton] at h1 h2 h4
  have hlt := World.ownsRow.lt h.own
  have hG : ∀ k, k < N + 3 → ¬ qv.ownBlock = some k := fun k hk hg => by have := (hlt k hg).1; omega
  have z6 := h.z.aside (by simp) h3 (hG _ (by omega))
  have r6 := h.r.aside (by simp) h3 (hG _ (by omega))
  have hs := Nat.le_trans h.size h3.size
  have hst : Aside (fun k => k = N + 2) w6 (w6.setCell ⟨N + 2, 2, none⟩ (.slice a (l.length + 1) c)) := Aside.setCell w6 (p := ⟨N + 2, 2, none⟩) _ rfl
  refine ⟨a, c, w6, h1, r6.fz 2, r6.c 2 (by simp), ⟨?_, z6.other (a := ⟨N + 2, 2, none⟩) (by show N + 2 ≠ N + 1; omega) _, r6.set (o := 2) (by simp) _, row_aside h2 hst fun k hk hg => by have := (World.ownsRow.lt h2 k hk).1; omega, Nat.le_trans hs hst.size⟩, fun b hb => ?_⟩
  · exact below_aside (below_aside h.bel h3 (fun k hk => ⟨by have := h.size; omega, hG k (by omega)⟩)) hst (fun k hk => ⟨by omega, by omega⟩)
  · rcases h4 with h4 | h4
    · exact .inl (by rw [← h4]; exact hb)
    · right
      rw [h4] at hb
      injection hb with hb
      omega
end

section
variable {w : World} {q : Nat} {a0 a1 a2 a3 a4 a5 : Value}
/-- Six cells stored one after another. -/
def put6 (w : World) (q : Nat) (b0 b1 b2 b3 b4 b5 : Value) : World :=
  (((((w.setCell ⟨q, 0, none⟩ b0).setCell ⟨q, 1, none⟩ b1).setCell ⟨q, 2, none⟩ b2).setCell ⟨q, 3, none⟩ b3).setCell ⟨q, 4, none⟩ b4).setCell ⟨q, 5, none⟩ b5
theorem cel_put6 (h : Cel w q [a0, a1, a2, a3, a4, a5]) (b0 b1 b2 b3 b4 b5 : Value) : Cel (put6 w q b0 b1 b2 b3 b4 b5) q [b0, b1, b2, b3, b4, b5] := by
  have := (((((h.set (o := 0) (by simp) b0).set (o := 1) (by simp) b1).set (o := 2) (by simp) b2).set (o := 3) (by simp) b3).set (o := 4) (by simp) b4).set (o := 5) (by simp) b5
  simp only [List.set_cons_zero, List.set_cons_succ] at this
  exact this
theorem aside_put6 (w : World) (q : Nat) (b0 b1 b2 b3 b4 b5 : Value) : Aside (fun k => k = q) w (put6 w q b0 b1 b2 b3 b4 b5) := by
  have st : ∀ (x : World) (o : Nat) (v : Value), Aside (fun k => k = q) x (x.setCell ⟨q, o, none⟩ v) := fun x o v => Aside.setCell x (p := ⟨q, o, none⟩) v rfl
  exact (((((st _ _ _).trans (st _ _ _)).trans (st _ _ _)).trans (st _ _ _)).trans (st _ _ _)).trans (st _ _ _)
end

theorem row_base {w : World} {B B' k n : Nat} {e : TypeId} {v : Value} {xs : List Value} (h : w.ownsRow B e k v n xs) (hB : B' ≤ B) : w.ownsRow B' e k v n xs := by
  refine ⟨h.1, ?_⟩
  rcases h.2 with h2 | ⟨g, cap, cur, h2⟩
  · exact .inl h2
  · exact .inr ⟨g, cap, cur, h2.1, Nat.le_trans hB h2.2.1, h2.2.2⟩

theorem qn_take (l : List Qn) (k : Nat) (h : k < l.length) : l.take k ++ [l[k]] = l.take (k + 1) := by
  rw [List.take_add_one, List.getElem?_eq_getElem h, Option.toList_some]

/-- What Reply tells. -/
def RpPost (w : World) (m : Ms) (c : Int) (e : Ending) (w' : World) : Prop := ∃ q, e = .returned (.agg #[.int .i64 m.id, .int .i64 (rpF m.fl c), q, .slice none 0 0, .slice none 0 0, .slice none 0 0]) ∧ OwnQn w' w.heap.size q m.q ∧ Below w.heap.size w w'

set_option maxHeartbeats 8000000 in
theorem replyM_any {w : World} {hi : Nat} {u : Value} {m : Ms} (c : Int) (h : Mg w hi u m) (h1 : hi ≤ w.heap.size) (hl : m.q.length ≤ 900000) (hn : ∀ x ∈ m.q, x.n.length ≤ 1000000) :
    Calls Tryz.prog 19 #[u, .int .i64 c] w (RpPost w m c) := by
  obtain ⟨q, a, n, r, rfl, hq, _, _, _⟩ := h
  obtain ⟨xa, xc, rfl⟩ := Lst.shape hq
  obtain ⟨i0, hi0⟩ : ∃ i, m.id = i := ⟨_, rfl⟩
  obtain ⟨f0, hf0⟩ : ∃ i, m.fl = i := ⟨_, rfl⟩
  obtain ⟨l, hlq⟩ : ∃ l, m.q = l := ⟨_, rfl⟩
  unfold RpPost
  rw [hi0, hf0, hlq]
  rw [hlq] at hq hl hn
  clear hi0 hf0 hlq
  obtain ⟨fl, hfl⟩ : ∃ y, rpF f0 c = y := ⟨_, rfl⟩
  obtain ⟨ls, hls⟩ : ∃ n, l.length = n := ⟨_, rfl⟩
  obtain ⟨N, hN⟩ : ∃ g, w.heap.size = g := ⟨_, rfl⟩
  have HQ := Lib.hid hq
  have HLN := Lib.hid (Lst.len hq)
  have HL := Lib.hid hl
  have HNN := Lib.hid hn
  have HF := Lib.hid (fun wx => (by have := mwith_any (rpB f0) c wx; rw [show wcF (rpB f0) c = fl from hfl] at this; exact this : Calls Tryz.prog 27 #[.int .i64 (rpB f0), .int .i64 c] wx (Tell0 wx (.int .i64 fl))))
  have HHI := Lib.hid h1
  have HN := Lib.hid hN
  rw [hls] at HLN
  rw [hfl]
  clear hq hl hn h1 hfl hN
  unfold rpB at HF
  rw [hls]
  go_enter Tryz.func19, Tryz.ntmps19
  go_wp2_with fail
  obtain ⟨W1, hW1⟩ : ∃ X, w.alloc (.cells #[.int .i64 i0, .int .i64 f0, .slice xa ls xc, a, n, r] 25) = X := ⟨_, rfl⟩
  obtain ⟨W2, hW2⟩ : ∃ X, W1.alloc (.cells #[.int .i64 0, .int .i64 0, .slice none 0 0, .slice none 0 0, .slice none 0 0, .slice none 0 0] 25) = X := ⟨_, rfl⟩
  rw [hW1, hW2, HN.out]
  have s1 : W1.heap.size = N + 1 := by rw [← hW1, World.size_alloc, HN.out]
  have s2 : W2.heap.size = N + 2 := by rw [← hW2, World.size_alloc, s1]
  have x1 : Cel W1 N [.int .i64 i0, .int .i64 f0, .slice xa ls xc, a, n, r] := by
    have := cel_new6 w (.int .i64 i0) (.int .i64 f0) (.slice xa ls xc) a n r 25
    rwa [hW1, HN.out] at this
  have x2 : Cel W2 (N + 1) [.int .i64 0, .int .i64 0, .slice none 0 0, .slice none 0 0, .slice none 0 0, .slice none 0 0] := by
    have := cel_new6 W1 (.int .i64 0) (.int .i64 0) (.slice none 0 0) (.slice none 0 0) (.slice none 0 0) (.slice none 0 0) 25
    rwa [hW2, s1] at this
  have b2 : Below N w W2 := by rw [← hW2, ← hW1]; exact ((Below.refl _ _).alloc (by rw [HN.out]; exact Nat.le_refl _) _).alloc (by simp [HN.out]) _
  replace x1 : Cel W2 N [.int .i64 i0, .int .i64 f0, .slice xa ls xc, a, n, r] := x1.below (by simp) (by rw [← hW2]; exact (Below.refl _ _).alloc (Nat.le_refl _) _)
  obtain ⟨WX, hWX⟩ : ∃ X, W2.drew = X := ⟨_, rfl⟩
  have y1 : Cel WX N [.int .i64 i0, .int .i64 f0, .slice xa ls xc, a, n, r] := by rw [← hWX]; exact ⟨x1.c, x1.fz⟩
  have HX2 := Lib.hid (show Cel WX (N + 1) [.int .i64 0, .int .i64 0, .slice none 0 0, .slice none 0 0, .slice none 0 0, .slice none 0 0] by rw [← hWX]; exact ⟨x2.c, x2.fz⟩)
  have HB := Lib.hid (show Below N w WX by rw [← hWX]; exact b2.drew)
  have sX : WX.heap.size = N + 2 := by rw [← hWX]; exact s2
  have HX1 := Lib.hid y1
  have HX1o := HX1
  clear x1 x2 b2 s1 s2 hW2 hW1 y1
  refine wp_region_held_drew (S := (fun wx => wx.cell? ⟨N, 0, none⟩ = some (.int .i64 i0) ∧ wx.cell? ⟨N, 1, none⟩ = some (.int .i64 f0) ∧ wx.cell? ⟨N, 2, none⟩ = some (.slice xa ls xc))) (by kernel_rfl) (by rw [hWX]; exact ⟨HX1.out.c 0 (by simp), HX1.out.c 1 (by simp), HX1.out.c 2 (by simp)⟩) (fun hHeld => ?_)
  refine wpAnyH_take (i := 0) (oi := { dst := some 12, op := Op.fieldAddr 25 (Operand.tmp 2) 0, type := 0, pos := "msg.go:107", after := #[], guard := none }) (v := ?_) rfl (by kernel_rfl) (by kernel_rfl) (by kernel_rfl) (fun _ _ _ h => h) (Or.inl ⟨by rfl, ?_⟩) (by assumption) ?_
  rotate_left 1
  · intro w hSw; (try dsimp only at hSw); go_simp; try (with_reducible rfl)
  try simp only [Act.put, List.setIfInBounds_toArray, List.set_cons_zero, List.set_cons_succ]
  refine wpAnyH_take (i := 1) (oi := { dst := some 13, op := Op.load 3 (Operand.tmp 12), type := 3, pos := "msg.go:107", after := #[{ on := 0, ground := Ground.data }], guard := none }) (v := ?_) rfl (by kernel_rfl) (by kernel_rfl) (by kernel_rfl) (fun _ _ _ h => h) (Or.inl ⟨by rfl, ?_⟩) (by assumption) ?_
  rotate_left 1
  · intro w hSw; (try dsimp only at hSw); go_simp; try (with_reducible rfl)
  try simp only [Act.put, List.setIfInBounds_toArray, List.set_cons_zero, List.set_cons_succ]
  refine wpAnyH_take (i := 2) (oi := { dst := some 14, op := Op.move (Operand.tmp 5), type := 3, pos := "msg.go:107", after := #[], guard := none }) (v := ?_) rfl (by kernel_rfl) (by kernel_rfl) (by kernel_rfl) (fun _ _ _ h => h) (Or.inl ⟨by rfl, ?_⟩) (by assumption) ?_
  rotate_left 1
  · intro w hSw; (try dsimp only at hSw); go_simp; try (with_reducible rfl)
  try simp only [Act.put, List.setIfInBounds_toArray, List.set_cons_zero, List.set_cons_succ]
  refine wpAnyH_take (i := 3) (oi := { dst := some 15, op := Op.binOp BinOp.or 3 (Operand.tmp 14) (Operand.const (Value.int IntKind.i64 32768)) 3, type := 3, pos := "msg.go:107", after := #[{ on := 2, ground := Ground.data }], guard := none }) (v := ?_) rfl (by kernel_rfl) (by kernel_rfl) (by kernel_rfl) (fun _ _ _ h => h) (Or.inl ⟨by rfl, ?_⟩) (by assumption) ?_
  rotate_left 1
  · intro w hSw; (try dsimp only at hSw); go_simp; try (with_reducible rfl)
  try simp only [Act.put, List.setIfInBounds_toArray, List.set_cons_zero, List.set_cons_succ]
  refine wpAnyH_take (i := 4) (oi := { dst := some 16, op := Op.binOp BinOp.or 3 (Operand.tmp 15) (Operand.const (Value.int IntKind.i64 128)) 3, type := 3, pos := "msg.go:107", after := #[{ on := 3, ground := Ground.data }], guard := none }) (v := ?_) rfl (by kernel_rfl) (by kernel_rfl) (by kernel_rfl) (fun _ _ _ h => h) (Or.inl ⟨by rfl, ?_⟩) (by assumption) ?_
  rotate_left 1
  · intro w hSw; (try dsimp only at hSw); go_simp; try (with_reducible rfl)
  try simp only [Act.put, List.setIfInBounds_toArray, List.set_cons_zero, List.set_cons_succ]
  refine wpAnyH_take (i := 5) (oi := { dst := some 17, op := Op.move (Operand.tmp 1), type := 3, pos := "msg.go:107", after := #[], guard := none }) (v := ?_) rfl (by kernel_rfl) (by kernel_rfl) (by kernel_rfl) (fun _ _ _ h => h) (Or.inl ⟨by rfl, ?_⟩) (by assumption) ?_
  rotate_left 1
  · intro w hSw; (try dsimp only at hSw); go_simp; try (with_reducible rfl)
  try simp only [Act.put, List.setIfInBounds_toArray, List.set_cons_zero, List.set_cons_succ]
  refine wpAnyH_ready (rs := [6, 8]) (by kernel_rfl) (by simp) ?_
  refine AllReadyH.cons (o := { dst := some 18, op := Op.call { callee := Callee.value (Operand.func 27), args := #[Operand.tmp 16, Operand.tmp 17], argTypes := #[3, 3] }, type := 3, pos := "msg.go:107", after := #[{ on := 4, ground := Ground.data }, { on := 5, ground := Ground.data }], guard := none }) rfl (fun K hK => ?_) (AllReadyH.cons (o := { dst := some 6, op := Op.alloc 25, type := 0, pos := "msg.go:107", after := #[], guard := none }) rfl (fun K hK => ?_) (AllReadyH.nil))
  · go_simp
    refine (HF.out _).mono ?_; rintro e0 w5 ⟨rfl, rfl⟩
    try go_wp2_with fail
    refine hK.out _ _ ⟨HX1.out.c 0 (by simp), HX1.out.c 1 (by simp), HX1.out.c 2 (by simp)⟩ (fun hHeld => ?_)
    clear hK K
    try simp only [Act.put, List.setIfInBounds_toArray, List.set_cons_zero, List.set_cons_succ]
    refine wpAnyH_take (i := 7) (oi := { dst := some 19, op := Op.build 25 #[(0, Operand.tmp 13), (1, Operand.tmp 18)], type := 25, pos := "msg.go:107", after := #[{ on := 1, ground := Ground.data }, { on := 6, ground := Ground.data }], guard := none }) (v := ?_) rfl (by kernel_rfl) (by kernel_rfl) (by kernel_rfl) (fun _ _ _ h => h) (Or.inl ⟨by rfl, ?_⟩) (by assumption) ?_
    rotate_left 1
    · intro w hSw; (try dsimp only at hSw); go_simp; try (with_reducible rfl)
    try simp only [Act.put, List.setIfInBounds_toArray, List.set_cons_zero, List.set_cons_succ]
    refine wpAnyH_ready (rs := [8]) (by kernel_rfl) (by simp) ?_
    refine AllReadyH.cons (o := { dst := some 6, op := Op.alloc 25, type := 0, pos := "msg.go:107", after := #[], guard := none }) rfl (fun K hK => ?_) (AllReadyH.nil)
    go_simp
    replace HX1 := Lib.hid (HX1o.out.below (by simp) (show Below WX.heap.size WX (WX.alloc (.cells #[.int .i64 0, .int .i64 0, .slice none 0 0, .slice none 0 0, .slice none 0 0, .slice none 0 0] 25)) from (Below.refl _ _).alloc (Nat.le_refl _) _))
    refine hK.out _ _ ⟨HX1.out.c 0 (by simp), HX1.out.c 1 (by simp), HX1.out.c 2 (by simp)⟩ (fun hHeld => ?_)
    clear hK K
    try simp only [Act.put, List.setIfInBounds_toArray, List.set_cons_zero, List.set_cons_succ]
    refine wpAnyH_ready (rs := [9]) (by kernel_rfl) (by simp) ?_
    refine AllReadyH.cons (o := { dst := none, op := Op.store 25 (Operand.tmp 6) (Operand.tmp 19), type := 0, pos := "msg.go:107", after := #[{ on := 8, ground := Ground.data }, { on := 7, ground := Ground.data }, { on := 6, ground := Ground.chain }, { on := 0, ground := Ground.phase }, { on := 1, ground := Ground.phase }, { on := 2, ground := Ground.phase }, { on := 3, ground := Ground.phase }, { on := 4, ground := Ground.phase }, { on := 5, ground := Ground.phase }, { on := 6, ground := Ground.phase }, { on := 7, ground := Ground.phase }, { on := 8, ground := Ground.phase }], guard := none }) rfl (fun K hK => ?_) (AllReadyH.nil)
    go_simp
    have hb : Below WX.heap.size WX (WX.alloc (.cells #[.int .i64 i0, .int .i64 fl, .slice none 0 0, .slice none 0 0, .slice none 0 0, .slice none 0 0] 25)) := (Below.refl _ _).alloc (Nat.le_refl _) _
    replace HX1 := Lib.hid (HX1o.out.below (by simp) hb)
    have x3 : Cel (WX.alloc (.cells #[.int .i64 i0, .int .i64 fl, .slice none 0 0, .slice none 0 0, .slice none 0 0, .slice none 0 0] 25)) (N + 2) [.int .i64 i0, .int .i64 fl, .slice none 0 0, .slice none 0 0, .slice none 0 0, .slice none 0 0] := by
      have := cel_new6 WX (.int .i64 i0) (.int .i64 fl) (.slice none 0 0) (.slice none 0 0) (.slice none 0 0) (.slice none 0 0) 25
      rwa [sX] at this
    have HP := Lib.hid (show Rp w (WX.alloc (.cells #[.int .i64 i0, .int .i64 fl, .slice none 0 0, .slice none 0 0, .slice none 0 0, .slice none 0 0] 25)) N i0 fl (.slice none 0 0) [] from ⟨HB.out.alloc (by rw [sX]; omega) _, HX2.out.below (by simp) hb, x3, World.ownsRow_nil _ _ _ _, by rw [World.size_alloc, sX]; omega⟩)
    clear hb x3
    refine hK.out _ _ ⟨HX1.out.c 0 (by simp), HX1.out.c 1 (by simp), HX1.out.c 2 (by simp)⟩ (fun hHeld => ?_)
    clear hK K
    try simp only [Act.put, List.setIfInBounds_toArray, List.set_cons_zero, List.set_cons_succ]
    refine wpAnyH_done (by kernel_rfl) ?_ _
    clear hHeld
    obtain ⟨Y, hY⟩ : ∃ Y, WX.alloc (.cells #[.int .i64 i0, .int .i64 fl, .slice none 0 0, .slice none 0 0, .slice none 0 0, .slice none 0 0] 25) = Y := ⟨_, rfl⟩
    rw [hY] at HP HX1 ⊢
    have y2 : Y.cell? ⟨N, 2, none⟩ = some (.slice xa ls xc) := HX1.out.c 2 (by simp)
    clear hY HB HX2 HX1o sX hWX
    go_wp2_with fail
    clear y2 HX1
    go_loopg [23] ls (fun g v23 wr => ∃ k : Nat, k + g = ls ∧ v23 = .int .i64 k ∧ ∃ qv, Hid (Rp w wr N i0 fl qv (l.take k)))
    case atStart => exact ⟨0, by omega, rfl, _, HP⟩
    case round =>
      clear HP
      obtain ⟨k, hk, rfl, qv, HP⟩ := hrel
      have hlen := HLN.out
      by_cases hlt : k < ls
      · have hkl : k < l.length := by omega
        obtain ⟨b, off, c2, he, hb, hc⟩ := HQ.out.at_ k hkl
        injection he with he hn3 hc3
        clear hn3 hc3
        subst he
        obtain ⟨c0, c1, c2⟩ := hc.keep fun o => HP.out.bel.cell (p := ⟨b, o, none⟩) (by have := HHI.out; rw [HN.out] at this; exact Nat.lt_of_lt_of_le hb this)
        have HTK := Lib.hid (qn_take l k hkl)
        have HXN := Lib.hid (HNN.out l[k] (List.getElem_mem hkl))
        obtain ⟨x, hx⟩ : ∃ x, l[k] = x := ⟨_, rfl⟩
        rw [hx] at c0 c1 c2 HTK HXN
        have HTL := Lib.hid (show (l.take k).length = k by rw [List.length_take]; omega)
        obtain ⟨g, hg⟩ : ∃ g, wr.heap.size = g := ⟨_, rfl⟩
        have HQC := Lib.hid (show Cel (wr.alloc (.cells #[.string (bs x.n), .int .i64 x.t, .int .i64 x.c] 56)) g [.string (bs x.n), .int .i64 x.t, .int .i64 x.c] by
          have := cel_new3 wr (.string (bs x.n)) (.int .i64 x.t) (.int .i64 x.c) 56
          rwa [hg] at this)
        have HGN := Lib.hid (show N + 3 ≤ g by rw [← hg]; exact HP.out.size)
        have HGO := Lib.hid (show ∀ j, qv.ownBlock = some j → j ≠ g from fun j hj => by have := (World.ownsRow.lt HP.out.own j hj).2; omega)
        replace HP := Lib.hid (HP.out.later ((Below.refl wr.heap.size wr).alloc (Nat.le_refl _) (.cells #[.string (bs x.n), .int .i64 x.t, .int .i64 x.c] 56)))
        clear hc hx hb hkl
        go_wp2_with fail
        refine (clone_any _ (by rw [bs_size]; exact HXN.out) _).mono ?_; rintro e w3 ⟨rfl, hb⟩
        have HQ3 := Lib.hid (HQC.out.below (by simp) hb)
        have HP3 := Lib.hid (HP.out.later hb)
        have HS3 := Lib.hid (show g < w3.heap.size from HQ3.out.lt (by simp))
        have hst : Aside (fun j => j = g) w3 (w3.setCell ⟨g, 0, none⟩ (.string (bs x.n))) := Aside.setCell w3 (p := ⟨g, 0, none⟩) _ rfl
        have HP4 := Lib.hid (HP3.out.aside hst HGN.out HGO.out)
        have HQ4 := Lib.hid (show Cel (w3.setCell ⟨g, 0, none⟩ (.string (bs x.n))) g [.string (bs x.n), .int .i64 x.t, .int .i64 x.c] from HQ3.out.set (o := 0) (by simp) (.string (bs x.n)))
        have hb5 : Below (w3.setCell ⟨g, 0, none⟩ (.string (bs x.n))).heap.size (w3.setCell ⟨g, 0, none⟩ (.string (bs x.n))) ((w3.setCell ⟨g, 0, none⟩ (.string (bs x.n))).alloc (.cells #[.string (bs x.n), .int .i64 x.t, .int .i64 x.c] 56)) := (Below.refl _ _).alloc (Nat.le_refl _) _
        have HP5 := Lib.hid (HP4.out.later hb5)
        have hone := sq_one (w3.setCell ⟨g, 0, none⟩ (.string (bs x.n))) x
        rw [show (w3.setCell ⟨g, 0, none⟩ (.string (bs x.n))).heap.size = w3.heap.size from World.size_setCell _ _ _] at hone
        obtain ⟨a6, cp6, w6, hrun, hfz, hcl, hp6, _⟩ := HP5.out.app hone (by rw [HTL.out]; have := HL.out; omega)
        rw [HTL.out] at hrun hp6
        rw [HTK.out] at hp6
        have HRUN := Lib.hid hrun
        have HP6 := Lib.hid hp6
        have f3 : w3.frozen? ⟨g, 0, none⟩ = false := HQ3.out.fz 0
        have d0 : w3.cell? ⟨g, 0, none⟩ = some (.string (bs x.n)) := HQ3.out.c 0 (by simp)
        have e0 : (w3.setCell ⟨g, 0, none⟩ (.string (bs x.n))).cell? ⟨g, 0, none⟩ = some (.string (bs x.n)) := HQ4.out.c 0 (by simp)
        have e1 : (w3.setCell ⟨g, 0, none⟩ (.string (bs x.n))).cell? ⟨g, 1, none⟩ = some (.int .i64 x.t) := HQ4.out.c 1 (by simp)
        have e2 : (w3.setCell ⟨g, 0, none⟩ (.string (bs x.n))).cell? ⟨g, 2, none⟩ = some (.int .i64 x.c) := HQ4.out.c 2 (by simp)
        have e3 : (w3.setCell ⟨g, 0, none⟩ (.string (bs x.n))).cell? ⟨N + 2, 2, none⟩ = some qv := HP4.out.r.c 2 (by simp)
        clear hb hst hb5 hone hrun hp6 HP HP3 HP4 HP5 HQC HQ3 HQ4

        go_wp2_with (at_builtin; refine wpList_append_run (.tmp 32) (.tmp 34) 22 22 rfl rfl rfl rfl HRUN.out ?_)

        go_roundg (ls - (k + 1))
        case measure => omega
        case rel => exact ⟨k + 1, by omega, by go_num, _, HP6⟩
      · have t1 : ¬ ((k : Int) < ls) := by omega
        have hkl : l.take k = l := List.take_of_length_le (by omega)
        rw [hkl] at HP
        have r0 := HP.out.r.c 0 (by simp)
        have r1 := HP.out.r.c 1 (by simp)
        have r2 := HP.out.r.c 2 (by simp)
        have r3 := HP.out.r.c 3 (by simp)
        have r4 := HP.out.r.c 4 (by simp)
        have r5 := HP.out.r.c 5 (by simp)
        have z0 := HP.out.z.c 0 (by simp)
        have z1 := HP.out.z.c 1 (by simp)
        have z2 := HP.out.z.c 2 (by simp)
        have z3 := HP.out.z.c 3 (by simp)
        have z4 := HP.out.z.c 4 (by simp)
        have z5 := HP.out.z.c 5 (by simp)
        simp only [List.getElem_cons_zero, List.getElem_cons_succ] at r0 r1 r2 r3 r4 r5 z0 z1 z2 z3 z4 z5
        have f1 := HP.out.z.fz
        obtain ⟨qa, qc, rfl⟩ := row_shape HP.out.own

        go_wp2_with fail
        have k6 := cel_put6 HP.out.z (.int .i64 i0) (.int .i64 fl) (.slice qa l.length qc) (.slice none 0 0) (.slice none 0 0) (.slice none 0 0)
        have ha := aside_put6 wr (N + 1) (.int .i64 i0) (.int .i64 fl) (.slice qa l.length qc) (.slice none 0 0) (.slice none 0 0) (.slice none 0 0)
        rw [hls] at k6 ha
        have m0 := k6.c 0 (by simp)
        have m1 := k6.c 1 (by simp)
        have m2 := k6.c 2 (by simp)
        have m3 := k6.c 3 (by simp)
        have m4 := k6.c 4 (by simp)
        have m5 := k6.c 5 (by simp)
        simp only [List.getElem_cons_zero, List.getElem_cons_succ] at m0 m1 m2 m3 m4 m5
        unfold put6 at m0 m1 m2 m3 m4 m5 ha
        have hown := HP.out.own
        rw [hls] at hown
        clear r0 r1 r2 r3 r4 r5 z0 z1 z2 z3 z4 z5 f1
        refine bodyPost_ret (by simp [results, Tryz.results19, go_sem, m0, m1, m2, m3, m4, m5]) rfl ⟨.slice qa ls qc, rfl, ?_, ?_⟩
        · rw [HN.out]
          have h9 := row_aside hown ha fun j hj hg => by have := (World.ownsRow.lt hown j hj).1; omega
          exact row_base h9 (by omega)
        · rw [HN.out]
          exact below_aside HP.out.bel ha (fun j hj => ⟨by have := HP.out.size; omega, by omega⟩)
  · go_simp
    replace HX1 := Lib.hid (HX1o.out.below (by simp) (show Below WX.heap.size WX (WX.alloc (.cells #[.int .i64 0, .int .i64 0, .slice none 0 0, .slice none 0 0, .slice none 0 0, .slice none 0 0] 25)) from (Below.refl _ _).alloc (Nat.le_refl _) _))
    refine hK.out _ _ ⟨HX1.out.c 0 (by simp), HX1.out.c 1 (by simp), HX1.out.c 2 (by simp)⟩ (fun hHeld => ?_)
    clear hK K
    try simp only [Act.put, List.setIfInBounds_toArray, List.set_cons_zero, List.set_cons_succ]
    refine wpAnyH_ready (rs := [6]) (by kernel_rfl) (by simp) ?_
    refine AllReadyH.cons (o := { dst := some 18, op := Op.call { callee := Callee.value (Operand.func 27), args := #[Operand.tmp 16, Operand.tmp 17], argTypes := #[3, 3] }, type := 3, pos := "msg.go:107", after := #[{ on := 4, ground := Ground.data }, { on := 5, ground := Ground.data }], guard := none }) rfl (fun K hK => ?_) (AllReadyH.nil)
    go_simp
    refine (HF.out _).mono ?_; rintro e0 w5 ⟨rfl, rfl⟩
    try go_wp2_with fail
    refine hK.out _ _ ⟨HX1.out.c 0 (by simp), HX1.out.c 1 (by simp), HX1.out.c 2 (by simp)⟩ (fun hHeld => ?_)
    clear hK K
    try simp only [Act.put, List.setIfInBounds_toArray, List.set_cons_zero, List.set_cons_succ]
    refine wpAnyH_take (i := 7) (oi := { dst := some 19, op := Op.build 25 #[(0, Operand.tmp 13), (1, Operand.tmp 18)], type := 25, pos := "msg.go:107", after := #[{ on := 1, ground := Ground.data }, { on := 6, ground := Ground.data }], guard := none }) (v := ?_) rfl (by kernel_rfl) (by kernel_rfl) (by kernel_rfl) (fun _ _ _ h => h) (Or.inl ⟨by rfl, ?_⟩) (by assumption) ?_
    rotate_left 1
    · intro w hSw; (try dsimp only at hSw); go_simp; try (with_reducible rfl)
    try simp only [Act.put, List.setIfInBounds_toArray, List.set_cons_zero, List.set_cons_succ]
    refine wpAnyH_ready (rs := [9]) (by kernel_rfl) (by simp) ?_
    refine AllReadyH.cons (o := { dst := none, op := Op.store 25 (Operand.tmp 6) (Operand.tmp 19), type := 0, pos := "msg.go:107", after := #[{ on := 8, ground := Ground.data }, { on := 7, ground := Ground.data }, { on := 6, ground := Ground.chain }, { on := 0, ground := Ground.phase }, { on := 1, ground := Ground.phase }, { on := 2, ground := Ground.phase }, { on := 3, ground := Ground.phase }, { on := 4, ground := Ground.phase }, { on := 5, ground := Ground.phase }, { on := 6, ground := Ground.phase }, { on := 7, ground := Ground.phase }, { on := 8, ground := Ground.phase }], guard := none }) rfl (fun K hK => ?_) (AllReadyH.nil)
    go_simp
    have hb : Below WX.heap.size WX (WX.alloc (.cells #[.int .i64 i0, .int .i64 fl, .slice none 0 0, .slice none 0 0, .slice none 0 0, .slice none 0 0] 25)) := (Below.refl _ _).alloc (Nat.le_refl _) _
    replace HX1 := Lib.hid (HX1o.out.below (by simp) hb)
    have x3 : Cel (WX.alloc (.cells #[.int .i64 i0, .int .i64 fl, .slice none 0 0, .slice none 0 0, .slice none 0 0, .slice none 0 0] 25)) (N + 2) [.int .i64 i0, .int .i64 fl, .slice none 0 0, .slice none 0 0, .slice none 0 0, .slice none 0 0] := by
      have := cel_new6 WX (.int .i64 i0) (.int .i64 fl) (.slice none 0 0) (.slice none 0 0) (.slice none 0 0) (.slice none 0 0) 25
      rwa [sX] at this
    have HP := Lib.hid (show Rp w (WX.alloc (.cells #[.int .i64 i0, .int .i64 fl, .slice none 0 0, .slice none 0 0, .slice none 0 0, .slice none 0 0] 25)) N i0 fl (.slice none 0 0) [] from ⟨HB.out.alloc (by rw [sX]; omega) _, HX2.out.below (by simp) hb, x3, World.ownsRow_nil _ _ _ _, by rw [World.size_alloc, sX]; omega⟩)
    clear hb x3
    refine hK.out _ _ ⟨HX1.out.c 0 (by simp), HX1.out.c 1 (by simp), HX1.out.c 2 (by simp)⟩ (fun hHeld => ?_)
    clear hK K
    try simp only [Act.put, List.setIfInBounds_toArray, List.set_cons_zero, List.set_cons_succ]
    refine wpAnyH_done (by kernel_rfl) ?_ _
    clear hHeld
    obtain ⟨Y, hY⟩ : ∃ Y, WX.alloc (.cells #[.int .i64 i0, .int .i64 fl, .slice none 0 0, .slice none 0 0, .slice none 0 0, .slice none 0 0] 25) = Y := ⟨_, rfl⟩
    rw [hY] at HP HX1 ⊢
    have y2 : Y.cell? ⟨N, 2, none⟩ = some (.slice xa ls xc) := HX1.out.c 2 (by simp)
    clear hY HB HX2 HX1o sX hWX
    go_wp2_with fail
    clear y2 HX1
    go_loopg [23] ls (fun g v23 wr => ∃ k : Nat, k + g = ls ∧ v23 = .int .i64 k ∧ ∃ qv, Hid (Rp w wr N i0 fl qv (l.take k)))
    case atStart => exact ⟨0, by omega, rfl, _, HP⟩
    case round =>
      clear HP
      obtain ⟨k, hk, rfl, qv, HP⟩ := hrel
      have hlen := HLN.out
      by_cases hlt : k < ls
      · have hkl : k < l.length := by omega
        obtain ⟨b, off, c2, he, hb, hc⟩ := HQ.out.at_ k hkl
        injection he with he hn3 hc3
        clear hn3 hc3
        subst he
        obtain ⟨c0, c1, c2⟩ := hc.keep fun o => HP.out.bel.cell (p := ⟨b, o, none⟩) (by have := HHI.out; rw [HN.out] at this; exact Nat.lt_of_lt_of_le hb this)
        have HTK := Lib.hid (qn_take l k hkl)
        have HXN := Lib.hid (HNN.out l[k] (List.getElem_mem hkl))
        obtain ⟨x, hx⟩ : ∃ x, l[k] = x := ⟨_, rfl⟩
        rw [hx] at c0 c1 c2 HTK HXN
        have HTL := Lib.hid (show (l.take k).length = k by rw [List.length_take]; omega)
        obtain ⟨g, hg⟩ : ∃ g, wr.heap.size = g := ⟨_, rfl⟩
        have HQC := Lib.hid (show Cel (wr.alloc (.cells #[.string (bs x.n), .int .i64 x.t, .int .i64 x.c] 56)) g [.string (bs x.n), .int .i64 x.t, .int .i64 x.c] by
          have := cel_new3 wr (.string (bs x.n)) (.int .i64 x.t) (.int .i64 x.c) 56
          rwa [hg] at this)
        have HGN := Lib.hid (show N + 3 ≤ g by rw [← hg]; exact HP.out.size)
        have HGO := Lib.hid (show ∀ j, qv.ownBlock = some j → j ≠ g from fun j hj => by have := (World.ownsRow.lt HP.out.own j hj).2; omega)
        replace HP := Lib.hid (HP.out.later ((Below.refl wr.heap.size wr).alloc (Nat.le_refl _) (.cells #[.string (bs x.n), .int .i64 x.t, .int .i64 x.c] 56)))
        clear hc hx hb hkl
        go_wp2_with fail
        refine (clone_any _ (by rw [bs_size]; exact HXN.out) _).mono ?_; rintro e w3 ⟨rfl, hb⟩
        have HQ3 := Lib.hid (HQC.out.below (by simp) hb)
        have HP3 := Lib.hid (HP.out.later hb)
        have HS3 := Lib.hid (show g < w3.heap.size from HQ3.out.lt (by simp))
        have hst : Aside (fun j => j = g) w3 (w3.setCell ⟨g, 0, none⟩ (.string (bs x.n))) := Aside.setCell w3 (p := ⟨g, 0, none⟩) _ rfl
        have HP4 := Lib.hid (HP3.out.aside hst HGN.out HGO.out)
        have HQ4 := Lib.hid (show Cel (w3.setCell ⟨g, 0, none⟩ (.string (bs x.n))) g [.string (bs x.n), .int .i64 x.t, .int .i64 x.c] from HQ3.out.set (o := 0) (by simp) (.string (bs x.n)))
        have hb5 : Below (w3.setCell ⟨g, 0, none⟩ (.string (bs x.n))).heap.size (w3.setCell ⟨g, 0, none⟩ (.string (bs x.n))) ((w3.setCell ⟨g, 0, none⟩ (.string (bs x.n))).alloc (.cells #[.string (bs x.n), .int .i64 x.t, .int .i64 x.c] 56)) := (Below.refl _ _).alloc (Nat.le_refl _) _
        have HP5 := Lib.hid (HP4.out.later hb5)
        have hone := sq_one (w3.setCell ⟨g, 0, none⟩ (.string (bs x.n))) x
        rw [show (w3.setCell ⟨g, 0, none⟩ (.string (bs x.n))).heap.size = w3.heap.size from World.size_setCell _ _ _] at hone
        obtain ⟨a6, cp6, w6, hrun, hfz, hcl, hp6, _⟩ := HP5.out.app hone (by rw [HTL.out]; have := HL.out; omega)
        rw [HTL.out] at hrun hp6
        rw [HTK.out] at hp6
        have HRUN := Lib.hid hrun
        have HP6 := Lib.hid hp6
        have f3 : w3.frozen? ⟨g, 0, none⟩ = false := HQ3.out.fz 0
        have d0 : w3.cell? ⟨g, 0, none⟩ = some (.string (bs x.n)) := HQ3.out.c 0 (by simp)
        have e0 : (w3.setCell ⟨g, 0, none⟩ (.string (bs x.n))).cell? ⟨g, 0, none⟩ = some (.string (bs x.n)) := HQ4.out.c 0 (by simp)
        have e1 : (w3.setCell ⟨g, 0, none⟩ (.string (bs x.n))).cell? ⟨g, 1, none⟩ = some (.int .i64 x.t) := HQ4.out.c 1 (by simp)
        have e2 : (w3.setCell ⟨g, 0, none⟩ (.string (bs x.n))).cell? ⟨g, 2, none⟩ = some (.int .i64 x.c) := HQ4.out.c 2 (by simp)
        have e3 : (w3.setCell ⟨g, 0, none⟩ (.string (bs x.n))).cell? ⟨N + 2, 2, none⟩ = some qv := HP4.out.r.c 2 (by simp)
        clear hb hst hb5 hone hrun hp6 HP HP3 HP4 HP5 HQC HQ3 HQ4

        go_wp2_with (at_builtin; refine wpList_append_run (.tmp 32) (.tmp 34) 22 22 rfl rfl rfl rfl HRUN.out ?_)

        go_roundg (ls - (k + 1))
        case measure => omega
        case rel => exact ⟨k + 1, by omega, by go_num, _, HP6⟩
      · have t1 : ¬ ((k : Int) < ls) := by omega
        have hkl : l.take k = l := List.take_of_length_le (by omega)
        rw [hkl] at HP
        have r0 := HP.out.r.c 0 (by simp)
        have r1 := HP.out.r.c 1 (by simp)
        have r2 := HP.out.r.c 2 (by simp)
        have r3 := HP.out.r.c 3 (by simp)
        have r4 := HP.out.r.c 4 (by simp)
        have r5 := HP.out.r.c 5 (by simp)
        have z0 := HP.out.z.c 0 (by simp)
        have z1 := HP.out.z.c 1 (by simp)
        have z2 := HP.out.z.c 2 (by simp)
        have z3 := HP.out.z.c 3 (by simp)
        have z4 := HP.out.z.c 4 (by simp)
        have z5 := HP.out.z.c 5 (by simp)
        simp only [List.getElem_cons_zero, List.getElem_cons_succ] at r0 r1 r2 r3 r4 r5 z0 z1 z2 z3 z4 z5
        have f1 := HP.out.z.fz
        obtain ⟨qa, qc, rfl⟩ := row_shape HP.out.own

        go_wp2_with fail
        have k6 := cel_put6 HP.out.z (.int .i64 i0) (.int .i64 fl) (.slice qa l.length qc) (.slice none 0 0) (.slice none 0 0) (.slice none 0 0)
        have ha := aside_put6 wr (N + 1) (.int .i64 i0) (.int .i64 fl) (.slice qa l.length qc) (.slice none 0 0) (.slice none 0 0) (.slice none 0 0)
        rw [hls] at k6 ha
        have m0 := k6.c 0 (by simp)
        have m1 := k6.c 1 (by simp)
        have m2 := k6.c 2 (by simp)
        have m3 := k6.c 3 (by simp)
        have m4 := k6.c 4 (by simp)
        have m5 := k6.c 5 (by simp)
        simp only [List.getElem_cons_zero, List.getElem_cons_succ] at m0 m1 m2 m3 m4 m5
        unfold put6 at m0 m1 m2 m3 m4 m5 ha
        have hown := HP.out.own
        rw [hls] at hown
        clear r0 r1 r2 r3 r4 r5 z0 z1 z2 z3 z4 z5 f1
        refine bodyPost_ret (by simp [results, Tryz.results19, go_sem, m0, m1, m2, m3, m4, m5]) rfl ⟨.slice qa ls qc, rfl, ?_, ?_⟩
        · rw [HN.out]
          have h9 := row_aside hown ha fun j hj hg => by have := (World.ownsRow.lt hown j hj).1; omega
          exact row_base h9 (by omega)
        · rw [HN.out]
          exact below_aside HP.out.bel ha (fun j hj => ⟨by have := HP.out.size; omega, by omega⟩)

/-- The bare answer to a message. -/
def rpM (m : Ms) (c : Int) : Ms := ⟨m.id, rpF m.fl c, m.q, [], [], []⟩
theorem replyM_mg {w : World} {hi : Nat} {u : Value} {m : Ms} (c : Int) (h : Mg w hi u m) (h1 : hi ≤ w.heap.size) (hl : m.q.length ≤ 900000) (hn : ∀ x ∈ m.q, x.n.length ≤ 1000000) :
    Calls Tryz.prog 19 #[u, .int .i64 c] w (fun e w' => ∃ v, e = .returned v ∧ Mg w' w'.heap.size v (rpM m c) ∧ Below w.heap.size w w') := by
  refine (replyM_any c h h1 hl hn).mono ?_
  rintro e w' ⟨q, rfl, ho, hb⟩
  exact ⟨_, rfl, ⟨_, _, _, _, rfl, Lst.own ho (by show m.q.length ≤ 1000000; omega), Lst.nil _ _, Lst.nil _ _, Lst.nil _ _⟩, hb⟩
end Go.Proofs.YtdikgjbpjdnodaaGreat

/-
  The chapter's examples: MsgKnown.
-/
namespace Go.Proofs.YtdikgjbpjdnodaaGreat
open Go.RowKit Go.Shelf
set_option linter.unusedVariables false
set_option linter.unusedSimpArgs false
set_option maxRecDepth 100000

theorem slice_to {w : World} {lo hi c m : Nat} {a : Option Addr} {l : List Int} (h : Sl w lo hi (.slice a l.length c) l) (h0 : 0 < m) (hm : m ≤ l.length) :
    ∃ sv, (∀ wx, (Instr.slice 28 (.slice a l.length c) none (some (.int .i64 m)) none).run Tryz.prog wx = .ok sv wx) ∧ Sl w lo hi sv (l.take m) := by
  have hlen : (l.take m).length = m := by rw [List.length_take]; omega
  obtain ⟨a', c', he, hc, hn, hq⟩ := h
  injection he with e1 e2 e3
  subst e1; subst e3
  refine ⟨sliced a 0 m c 1, fun wx => ?_, ?_⟩
  · rw [run_slice_h (P := Tryz.prog) wx 28 a l.length c Tryz.underlying28 .i64 m (by omega) (by omega), size5]
    rfl
  · obtain ⟨b, off, rfl, h1, h2, hx⟩ := hq (by omega)
    refine ⟨some ⟨b, off, none⟩, c, ?_, by omega, fun h => by simp at h, fun _ => ⟨b, off, rfl, h1, h2, fun j hj => ?_⟩⟩
    · unfold sliced
      rw [hlen, if_neg (by omega)]
      simp [Addr.add]
    · rw [hlen] at hj
      rw [hx j (by omega), List.getD, List.getD, List.getElem?_take, if_pos hj]
theorem iz_take (b : List UInt8) (m : Nat) : (iz b).take m = iz (b.take m) := by simp [iz, List.map_take]

def zero12 : List UInt8 := [0, 0, 0, 0, 0, 0, 0, 0, 0, 0, 0, 0]
def ms0 : Ms := ⟨0, 0, [], [], [], []⟩
theorem kn_11 : rdM (ask0B.take 11) = .bad 4 11 := rfl
theorem kn_20 : rdM (ask0B ++ [0]) = .bad 4 19 := wrM_behind ask0_wr 0 (by decide)
theorem kn_12 : rdM zero12 = .ok ms0 := by rfl
theorem kn_rp : rpF 256 3 = 33155 := by
  unfold rpF
  rw [rpB_eq _ (by decide) (by decide)]
  decide

/-- A message and a fault that were just made. -/
theorem two_new (w : World) (a0 a1 a2 a3 a4 a5 b0 b1 : Value) : Cel ((w.alloc (.cells #[a0, a1, a2, a3, a4, a5] 25)).alloc (.cells #[b0, b1] 43)) w.heap.size [a0, a1, a2, a3, a4, a5] ∧
    Cel ((w.alloc (.cells #[a0, a1, a2, a3, a4, a5] 25)).alloc (.cells #[b0, b1] 43)) (w.heap.size + 1) [b0, b1] ∧
    Below w.heap.size w ((w.alloc (.cells #[a0, a1, a2, a3, a4, a5] 25)).alloc (.cells #[b0, b1] 43)) ∧
    ((w.alloc (.cells #[a0, a1, a2, a3, a4, a5] 25)).alloc (.cells #[b0, b1] 43)).heap.size = w.heap.size + 1 + 1 := by
  refine ⟨(cel_new6 w a0 a1 a2 a3 a4 a5 25).below (by simp) ((Below.refl _ _).alloc (Nat.le_refl _) _), ?_, ((Below.refl _ _).alloc (Nat.le_refl _) _).alloc (by simp) _, by simp⟩
  have := cel_new2 (w.alloc (.cells #[a0, a1, a2, a3, a4, a5] 25)) b0 b1 43
  rwa [World.size_alloc] at this

set_option maxHeartbeats 8000000 in
theorem knownM_any (w : World) : Calls Tryz.prog 8 #[] w (Tells w (.bool true)) := by
  have HAsk := Lib.hid (fun wx => asked_any wx)
  have HWr := Lib.hid (fun (wx : World) (v : Value) (h : Mg wx wx.heap.size v ask0) => writeM_any h (Nat.le_refl _) ask0_fine (by decide))
  rw [ask0_wr] at HWr
  have HR1 := Lib.hid (fun (wx : World) {lo hi : Nat} {vb : Value} (h : Sl wx lo hi vb (iz (ask0B.take 11))) (hh : hi ≤ wx.heap.size) => readM_any h hh (by decide))
  rw [kn_11] at HR1
  have HR2 := Lib.hid (fun (wx : World) {lo hi : Nat} {vb : Value} (h : Sl wx lo hi vb (iz (ask0B ++ [0]))) (hh : hi ≤ wx.heap.size) => readM_any h hh (by decide))
  rw [kn_20] at HR2
  have HR3 := Lib.hid (fun (wx : World) {lo hi : Nat} {vb : Value} (h : Sl wx lo hi vb (iz zero12)) (hh : hi ≤ wx.heap.size) => readM_any h hh (by decide))
  rw [kn_12] at HR3
  have HHead := Lib.hid (fun (wx : World) => head_any (w := wx) (lo := 0) (hi := 0) (vb := .slice none 0 0) (b := []) ⟨none, 0, rfl, by simp [iz], fun _ => rfl, fun h => by simp [iz] at h⟩ (Nat.zero_le _) (by decide))
  rw [show headV [] = .tuple #[.int .i64 0, .int .i64 0, .bool false] from rfl] at HHead
  have HRp := Lib.hid (fun (wx : World) (v : Value) (h : Mg wx wx.heap.size v ask0) => replyM_mg 3 h (Nat.le_refl _) (by decide) (by decide))
  have HAw := Lib.hid (fun wx => awakeM_any wx)
  have HOp := Lib.hid (fun wx => mop_any 10240 wx)
  rw [show opF 10240 = 5 from rfl] at HOp
  have HCd := Lib.hid (fun wx => mcode_any 33155 wx)
  rw [show cdF 33155 = 3 from rfl] at HCd
  have HWi := Lib.hid (fun wx => mwith_any 33155 18 wx)
  rw [show wcF 33155 18 = 33154 from rfl] at HWi
  have hmk : ∀ wx : World, (Instr.makeSlice 28 (.int .i64 12) (.int .i64 12)).run Tryz.prog wx = .ok (.slice (some ⟨wx.heap.size, 0, none⟩) 12 12) (wx.alloc (.cells (List.replicate 12 (Value.int .u8 0)).toArray 5)) := fun wx => makeN 12 (by omega) wx
  have HB := Lib.hid (Below.refl w.heap.size w)
  go_enter Tryz.func8, Tryz.ntmps8
  go_wp2_with fail
  refine (HAsk.out _).mono ?_; rintro e w1 ⟨v1, rfl, hm1, hb⟩
  replace HB := Lib.hid (bel_call HB.out hb)
  have HM1 := Lib.hid hm1
  clear hm1 hb
  go_wp2_with fail
  refine (HWr.out _ _ HM1.out).mono ?_; rintro e w2 ⟨v2, rfl, ho2, hb⟩
  have HW1 := Lib.hid HB.out.size
  have HB12 := Lib.hid hb.size
  replace HB := Lib.hid (bel_call HB.out hb)
  have ho : OwnB w2 w1.heap.size v2 ask0B := ho2
  obtain ⟨a2, c2, rfl⟩ := ho.shape
  rw [show ask0B.length = 19 from rfl] at ho ⊢
  have HO2 := Lib.hid ho
  have hsl := ho.sl
  obtain ⟨sv, hcut, hs11⟩ := slice_to (m := 11) (by rw [iz_len]; exact hsl : Sl w2 w1.heap.size w2.heap.size (.slice a2 (iz ask0B).length c2) (iz ask0B)) (by decide) (by decide)
  rw [iz_take] at hs11
  have hcut2 : ∀ wx, (Instr.slice 28 (.slice a2 19 c2) none (some (.int .i64 11)) none).run Tryz.prog wx = .ok sv wx := hcut
  have HS := Lib.hid hs11
  clear ho2 hb ho hsl hcut hs11 HM1
  go_wp2_with fail
  refine (HR1.out _ HS.out (Nat.le_refl _)).mono ?_; rintro e w3 ⟨rfl, hb⟩
  replace HB := Lib.hid (bel_call HB.out hb)
  have HB2S := Lib.hid (Nat.le_trans HB12.out hb.size)
  replace HO2 := Lib.hid (HO2.out.below hb)
  clear hb HS hcut2 HB12
  unfold zeroM
  obtain ⟨g3, hg3⟩ : ∃ g, w3.heap.size = g := ⟨_, rfl⟩
  obtain ⟨_, xf, bw, sw⟩ := two_new w3 (.int .i64 0) (.int .i64 0) (.slice none 0 0) (.slice none 0 0) (.slice none 0 0) (.slice none 0 0) (.int .i64 4) (.int .i64 11)
  rw [hg3] at xf sw
  have HOL := Lib.hid (show ∀ k, (Value.slice a2 19 c2).ownBlock = some k → w1.heap.size ≤ k ∧ k < g3 from fun k hk => by rw [← hg3]; exact HO2.out.lt k hk)
  have hw1 : w1.heap.size ≤ g3 := by have := HB2S.out; rw [← hg3]; exact this
  have hbc : Below ((w3.alloc (.cells #[.int .i64 0, .int .i64 0, .slice none 0 0, .slice none 0 0, .slice none 0 0, .slice none 0 0] 25)).alloc (.cells #[.int .i64 4, .int .i64 11] 43)).heap.size ((w3.alloc (.cells #[.int .i64 0, .int .i64 0, .slice none 0 0, .slice none 0 0, .slice none 0 0, .slice none 0 0] 25)).alloc (.cells #[.int .i64 4, .int .i64 11] 43)) (((w3.alloc (.cells #[.int .i64 0, .int .i64 0, .slice none 0 0, .slice none 0 0, .slice none 0 0, .slice none 0 0] 25)).alloc (.cells #[.int .i64 4, .int .i64 11] 43)).alloc (.cells #[.int .u8 0] 5)) := (Below.refl _ _).alloc (Nat.le_refl _) _
  have hlit := lit_sl ((w3.alloc (.cells #[.int .i64 0, .int .i64 0, .slice none 0 0, .slice none 0 0, .slice none 0 0, .slice none 0 0] 25)).alloc (.cells #[.int .i64 4, .int .i64 11] 43)) [0]
  rw [sw] at hlit
  obtain ⟨a6, c6, w6, hrun, ho6, ha6⟩ := run_appBs w1.heap.size (.slice a2 19 c2) (.slice (some ⟨g3 + 1 + 1, 0, none⟩) 1 1) ask0B [0] ((HO2.out.below bw).below hbc) hlit (by decide) (by rw [World.size_alloc, sw]; omega)
  rw [show ask0B.length + [(0 : UInt8)].length = 20 from rfl] at hrun ho6
  have HRUN := Lib.hid hrun
  have HO6 := Lib.hid ho6
  have HF1 := Lib.hid ((xf.below (by simp) hbc).aside (by simp) ha6 (fun h => by have := (HOL.out _ h).2; omega))
  replace HB := Lib.hid (below_aside (bel_call (bel_call HB.out bw) hbc) ha6 (fun k hk => ⟨Nat.lt_of_lt_of_le hk (bel_call (bel_call HB.out bw) hbc).size, fun h => by have := (HOL.out _ h).1; have := HW1.out; omega⟩))
  clear xf bw sw hbc hlit hrun ho6 ha6 hw1 HO2 HOL
  go_wp2_with (at_builtin; refine wpList_append_run (.tmp 29) (.tmp 30) 28 28 rfl rfl rfl rfl HRUN.out ?_)
  clear hg3
  refine (HR2.out _ HO6.out.sl (Nat.le_refl _)).mono ?_; rintro e w7 ⟨rfl, hb⟩
  replace HB := Lib.hid (bel_call HB.out hb)
  replace HF1 := Lib.hid (HF1.out.below (by simp) hb)
  clear hb HO6 HRUN
  unfold zeroM
  obtain ⟨g7, hg7⟩ : ∃ g, w7.heap.size = g := ⟨_, rfl⟩
  obtain ⟨_, xf, bw, sw⟩ := two_new w7 (.int .i64 0) (.int .i64 0) (.slice none 0 0) (.slice none 0 0) (.slice none 0 0) (.slice none 0 0) (.int .i64 4) (.int .i64 19)
  rw [hg7] at xf sw
  have hbc : Below ((w7.alloc (.cells #[.int .i64 0, .int .i64 0, .slice none 0 0, .slice none 0 0, .slice none 0 0, .slice none 0 0] 25)).alloc (.cells #[.int .i64 4, .int .i64 19] 43)).heap.size ((w7.alloc (.cells #[.int .i64 0, .int .i64 0, .slice none 0 0, .slice none 0 0, .slice none 0 0, .slice none 0 0] 25)).alloc (.cells #[.int .i64 4, .int .i64 19] 43)) (((w7.alloc (.cells #[.int .i64 0, .int .i64 0, .slice none 0 0, .slice none 0 0, .slice none 0 0, .slice none 0 0] 25)).alloc (.cells #[.int .i64 4, .int .i64 19] 43)).alloc (.cells #[.int .u8 0, .int .u8 0, .int .u8 0, .int .u8 0, .int .u8 0, .int .u8 0, .int .u8 0, .int .u8 0, .int .u8 0, .int .u8 0, .int .u8 0, .int .u8 0] 5)) := (Below.refl _ _).alloc (Nat.le_refl _) _
  have hlit := lit_sl ((w7.alloc (.cells #[.int .i64 0, .int .i64 0, .slice none 0 0, .slice none 0 0, .slice none 0 0, .slice none 0 0] 25)).alloc (.cells #[.int .i64 4, .int .i64 19] 43)) zero12
  rw [sw] at hlit
  have HS8 := Lib.hid hlit
  have HZ8 := Lib.hid sw
  replace HF1 := Lib.hid ((HF1.out.below (by simp) bw).below (by simp) hbc)
  have HF2 := Lib.hid (xf.below (by simp) hbc)
  replace HB := Lib.hid (bel_call (bel_call HB.out bw) hbc)
  clear xf bw sw hbc hlit
  go_wp2_with fail
  clear hg7
  refine (HR3.out _ HS8.out (by rw [World.size_alloc, HZ8.out]; exact Nat.le_refl _)).mono ?_; rintro e w9 ⟨v9, rfl, hm9, hb⟩
  replace HB := Lib.hid (bel_call HB.out hb)
  replace HF1 := Lib.hid (HF1.out.below (by simp) hb)
  replace HF2 := Lib.hid (HF2.out.below (by simp) hb)
  clear hb HS8 HZ8
  obtain ⟨q3, a3, n3, r3, rfl, hmm⟩ := hm9
  obtain ⟨xa, xn, xc, rfl⟩ : ∃ a n c, q3 = .slice a n c := by obtain ⟨a, c, h⟩ := Lst.shape hmm.1; exact ⟨a, _, c, h⟩
  obtain ⟨ya, yn, yc, rfl⟩ : ∃ a n c, a3 = .slice a n c := by obtain ⟨a, c, h⟩ := Lst.shape hmm.2.1; exact ⟨a, _, c, h⟩
  obtain ⟨za, zn, zc, rfl⟩ : ∃ a n c, n3 = .slice a n c := by obtain ⟨a, c, h⟩ := Lst.shape hmm.2.2.1; exact ⟨a, _, c, h⟩
  obtain ⟨ta, tn, tc, rfl⟩ : ∃ a n c, r3 = .slice a n c := by obtain ⟨a, c, h⟩ := Lst.shape hmm.2.2.2; exact ⟨a, _, c, h⟩
  rw [show ms0.id = 0 from rfl, show ms0.fl = 0 from rfl]
  have hm9 : Mg w9 w9.heap.size (.agg #[.int .i64 0, .int .i64 0, .slice xa xn xc, .slice ya yn yc, .slice za zn zc, .slice ta tn tc]) ms0 := ⟨_, _, _, _, rfl, hmm⟩
  obtain ⟨g9, hg9⟩ : ∃ g, w9.heap.size = g := ⟨_, rfl⟩
  obtain ⟨xm, xf, bw, sw⟩ := two_new w9 (.int .i64 0) (.int .i64 0) (.slice xa xn xc) (.slice ya yn yc) (.slice za zn zc) (.slice ta tn tc) (.int .i64 0) (.int .i64 0)
  rw [hg9] at xm xf sw
  replace HB := Lib.hid (bel_call HB.out bw)
  replace HF1 := Lib.hid (HF1.out.below (by simp) bw)
  replace HF2 := Lib.hid (HF2.out.below (by simp) bw)
  have HF3 := Lib.hid xf
  have HM9 := Lib.hid (hm9.later bw)
  have k0 := HF1.out.c 0 (by simp)
  have k1 := HF1.out.c 1 (by simp)
  have k2 := HF2.out.c 0 (by simp)
  have k3 := HF2.out.c 1 (by simp)
  simp only [List.getElem_cons_zero, List.getElem_cons_succ] at k0 k1 k2 k3
  obtain ⟨m0, m1, m2, m3, m4, m5⟩ := xm.six
  have HZ0 := Lib.hid (fun wx => (⟨_, _, _, _, rfl, Lst.nil _ _, Lst.nil _ _, Lst.nil _ _, Lst.nil _ _⟩ : Mg wx 0 zeroM ms0))
  unfold zeroM at HZ0
  clear hmm xm xf bw sw hm9
  go_wp2_with fail
  clear k0 k1 k2 k3 m0 m1 m2 m3 m4 m5 hg9
  refine (sameM_yes HM9.out (HZ0.out _) (Nat.le_refl _) (Nat.zero_le _)).mono ?_; rintro e w11 ⟨rfl, hb⟩
  replace HB := Lib.hid (bel_call HB.out hb)
  replace HF3 := Lib.hid (HF3.out.below (by simp) hb)
  have k0 : w11.cell? ⟨g9 + 1, 0, none⟩ = some (.int .i64 0) := HF3.out.c 0 (by simp)
  clear hb HF1 HF2
  go_wp2_with fail
  clear k0
  refine (HAsk.out _).mono ?_; rintro e w12 ⟨v12, rfl, hm, hb⟩
  replace HB := Lib.hid (bel_call HB.out hb)
  clear hb HF3 HM9 HZ0
  obtain ⟨q3, a3, n3, r3, rfl, hmm⟩ := hm
  obtain ⟨xa, xn, xc, rfl⟩ : ∃ a n c, q3 = .slice a n c := by obtain ⟨a, c, h⟩ := Lst.shape hmm.1; exact ⟨a, _, c, h⟩
  obtain ⟨ya, yn, yc, rfl⟩ : ∃ a n c, a3 = .slice a n c := by obtain ⟨a, c, h⟩ := Lst.shape hmm.2.1; exact ⟨a, _, c, h⟩
  obtain ⟨za, zn, zc, rfl⟩ : ∃ a n c, n3 = .slice a n c := by obtain ⟨a, c, h⟩ := Lst.shape hmm.2.2.1; exact ⟨a, _, c, h⟩
  obtain ⟨ta, tn, tc, rfl⟩ : ∃ a n c, r3 = .slice a n c := by obtain ⟨a, c, h⟩ := Lst.shape hmm.2.2.2; exact ⟨a, _, c, h⟩
  rw [show ask0.id = 7 from rfl, show ask0.fl = 256 from rfl]
  have hm12 : Mg w12 w12.heap.size (.agg #[.int .i64 7, .int .i64 33155, .slice xa xn xc, .slice ya yn yc, .slice za zn zc, .slice ta tn tc]) (rpM ask0 3) := ⟨_, _, _, _, by unfold rpM; rw [show ask0.fl = 256 from rfl, kn_rp]; rfl, hmm⟩
  obtain ⟨g12, hg12⟩ : ∃ g, w12.heap.size = g := ⟨_, rfl⟩
  have xm := cel_new6 w12 (.int .i64 7) (.int .i64 33155) (.slice xa xn xc) (.slice ya yn yc) (.slice za zn zc) (.slice ta tn tc) 25
  have hbw : Below w12.heap.size w12 (w12.alloc (.cells #[.int .i64 7, .int .i64 33155, .slice xa xn xc, .slice ya yn yc, .slice za zn zc, .slice ta tn tc] 25)) := (Below.refl _ _).alloc (Nat.le_refl _) _
  rw [hg12] at xm
  replace HB := Lib.hid (bel_call HB.out hbw)
  have HM := Lib.hid (hm12.later hbw)
  have HX := Lib.hid xm
  clear hmm hm12 xm hbw
  go_wp2_with fail
  clear hg12
  refine (HHead.out _).mono ?_; rintro e w14 ⟨rfl, hb⟩
  replace HB := Lib.hid (bel_call HB.out hb)
  replace HM := Lib.hid (HM.out.later hb)
  replace HX := Lib.hid (HX.out.below (by simp) hb)
  clear hb
  obtain ⟨WX, hWX⟩ : ∃ X, w14.drew = X := ⟨_, rfl⟩
  have hb : Below w14.heap.size w14 WX := by rw [← hWX]; exact (Below.refl _ _).drew
  replace HB := Lib.hid (bel_call HB.out hb)
  replace HM := Lib.hid (HM.out.later hb)
  replace HX := Lib.hid (HX.out.below (by simp) hb)
  clear hb
  go_wp2_with fail
  refine wp_region_held_drew (S := (fun wx => wx.cell? ⟨g12, 0, none⟩ = some (.int .i64 7) ∧ wx.cell? ⟨g12, 1, none⟩ = some (.int .i64 33155) ∧ wx.cell? ⟨g12, 2, none⟩ = some (.slice xa xn xc) ∧ wx.cell? ⟨g12, 3, none⟩ = some (.slice ya yn yc) ∧ wx.cell? ⟨g12, 4, none⟩ = some (.slice za zn zc) ∧ wx.cell? ⟨g12, 5, none⟩ = some (.slice ta tn tc))) (by kernel_rfl) (by rw [hWX]; exact HX.out.six) (fun hHeld => ?_)
  refine wpAnyH_ready (rs := [0]) (by kernel_rfl) (by simp) ?_
  refine AllReadyH.cons (o := { dst := some 65, op := Op.call { callee := Callee.value (Operand.func 18), args := #[], argTypes := #[] }, type := 4, pos := "outright.go:91", after := #[], guard := none }) rfl (fun K hK => ?_) (AllReadyH.nil)
  go_simp
  refine (HAw.out _).mono ?_; rintro e0 w15 ⟨rfl, hb⟩
  replace HB := Lib.hid (bel_call HB.out hb)
  replace HM := Lib.hid (HM.out.later hb)
  replace HX := Lib.hid (HX.out.below (by simp) hb)
  clear hb
  try go_wp2_with fail
  refine hK.out _ _ HX.out.six (fun hHeld => ?_)
  clear hK K
  try simp only [Act.put, List.setIfInBounds_toArray, List.set_cons_zero, List.set_cons_succ]
  refine wpAnyH_take (i := 1) (oi := { dst := some 66, op := Op.move (Operand.tmp 65), type := 4, pos := "outright.go:91", after := #[{ on := 0, ground := Ground.data }, { on := 0, ground := Ground.chain }], guard := none }) (v := ?_) rfl (by kernel_rfl) (by kernel_rfl) (by kernel_rfl) (fun _ _ _ h => h) (Or.inl ⟨by rfl, ?_⟩) (by assumption) ?_
  rotate_left 1
  · intro w hSw; (try dsimp only at hSw); go_simp; try (with_reducible rfl)
  try simp only [Act.put, List.setIfInBounds_toArray, List.set_cons_zero, List.set_cons_succ]
  refine wpAnyH_take (i := 2) (oi := { dst := some 67, op := Op.move (Operand.tmp 9), type := 4, pos := "outright.go:91", after := #[{ on := 1, ground := Ground.guard }], guard := some (1, true) }) (v := ?_) rfl (by kernel_rfl) (by kernel_rfl) (by kernel_rfl) (fun _ _ _ h => h) (Or.inl ⟨by rfl, ?_⟩) (by assumption) ?_
  rotate_left 1
  · intro w hSw; (try dsimp only at hSw); go_simp; try (with_reducible rfl)
  try simp only [Act.put, List.setIfInBounds_toArray, List.set_cons_zero, List.set_cons_succ]
  refine wpAnyH_take (i := 3) (oi := { dst := some 68, op := Op.pick (Operand.tmp 66) (Operand.tmp 67) (Operand.const (Value.bool false)), type := 4, pos := "outright.go:91", after := #[{ on := 1, ground := Ground.data }, { on := 2, ground := Ground.data }], guard := none }) (v := ?_) rfl (by kernel_rfl) (by kernel_rfl) (by kernel_rfl) (fun _ _ _ h => h) (Or.inl ⟨by rfl, ?_⟩) (by assumption) ?_
  rotate_left 1
  · intro w hSw; (try dsimp only at hSw); go_simp; try (with_reducible rfl)
  try simp only [Act.put, List.setIfInBounds_toArray, List.set_cons_zero, List.set_cons_succ]
  refine wpAnyH_take (i := 4) (oi := { dst := some 69, op := Op.move (Operand.tmp 68), type := 4, pos := "outright.go:91", after := #[{ on := 3, ground := Ground.data }, { on := 1, ground := Ground.chain }], guard := none }) (v := ?_) rfl (by kernel_rfl) (by kernel_rfl) (by kernel_rfl) (fun _ _ _ h => h) (Or.inl ⟨by rfl, ?_⟩) (by assumption) ?_
  rotate_left 1
  · intro w hSw; (try dsimp only at hSw); go_simp; try (with_reducible rfl)
  try simp only [Act.put, List.setIfInBounds_toArray, List.set_cons_zero, List.set_cons_succ]
  refine wpAnyH_take (i := 7) (oi := { dst := some 72, op := Op.load 25 (Operand.tmp 10), type := 25, pos := "outright.go:91", after := #[{ on := 4, ground := Ground.guard }], guard := some (4, true) }) (v := ?_) rfl (by kernel_rfl) (by kernel_rfl) (by kernel_rfl) (fun _ _ _ h => h) (Or.inl ⟨by rfl, ?_⟩) (by assumption) ?_
  rotate_left 1
  · intro w hSw; (try dsimp only at hSw); go_simp; try (with_reducible rfl)
  try simp only [Act.put, List.setIfInBounds_toArray, List.set_cons_zero, List.set_cons_succ]
  refine wpAnyH_ready (rs := [5]) (by kernel_rfl) (by simp) ?_
  refine AllReadyH.cons (o := { dst := some 70, op := Op.call { callee := Callee.value (Operand.func 35), args := #[], argTypes := #[] }, type := 25, pos := "outright.go:91", after := #[{ on := 4, ground := Ground.chain }, { on := 4, ground := Ground.guard }], guard := some (4, true) }) rfl (fun K hK => ?_) (AllReadyH.nil)
  go_simp
  refine (HAsk.out _).mono ?_; rintro e0 w16 ⟨v16, rfl, hm, hb⟩
  replace HB := Lib.hid (bel_call HB.out hb)
  replace HM := Lib.hid (HM.out.later hb)
  replace HX := Lib.hid (HX.out.below (by simp) hb)
  have HM16 := Lib.hid hm
  clear hb hm
  try go_wp2_with fail
  refine hK.out _ _ HX.out.six (fun hHeld => ?_)
  clear hK K
  try simp only [Act.put, List.setIfInBounds_toArray, List.set_cons_zero, List.set_cons_succ]
  refine wpAnyH_ready (rs := [6]) (by kernel_rfl) (by simp) ?_
  refine AllReadyH.cons (o := { dst := some 71, op := Op.call { callee := Callee.value (Operand.func 19), args := #[Operand.tmp 70, Operand.const (Value.int IntKind.i64 3)], argTypes := #[25, 3] }, type := 25, pos := "outright.go:91", after := #[{ on := 5, ground := Ground.data }, { on := 5, ground := Ground.chain }, { on := 4, ground := Ground.guard }], guard := some (4, true) }) rfl (fun K hK => ?_) (AllReadyH.nil)
  go_simp
  refine (HRp.out _ _ HM16.out).mono ?_; rintro e0 w17 ⟨v17, rfl, hm, hb⟩
  replace HB := Lib.hid (bel_call HB.out hb)
  replace HM := Lib.hid (HM.out.later hb)
  replace HX := Lib.hid (HX.out.below (by simp) hb)
  have HM17 := Lib.hid hm
  clear hb hm
  try go_wp2_with fail
  refine hK.out _ _ HX.out.six (fun hHeld => ?_)
  clear hK K
  try simp only [Act.put, List.setIfInBounds_toArray, List.set_cons_zero, List.set_cons_succ]
  refine wpAnyH_ready (rs := [8]) (by kernel_rfl) (by simp) ?_
  refine AllReadyH.cons (o := { dst := some 73, op := Op.call { callee := Callee.value (Operand.func 21), args := #[Operand.tmp 71, Operand.tmp 72], argTypes := #[25, 25] }, type := 4, pos := "outright.go:91", after := #[{ on := 6, ground := Ground.data }, { on := 7, ground := Ground.data }, { on := 6, ground := Ground.chain }, { on := 4, ground := Ground.guard }], guard := some (4, true) }) rfl (fun K hK => ?_) (AllReadyH.nil)
  go_simp
  refine (sameM_yes HM17.out HM.out (Nat.le_refl _) (Nat.le_refl _)).mono ?_; rintro e0 w18 ⟨rfl, hb⟩
  replace HB := Lib.hid (bel_call HB.out hb)
  replace HM := Lib.hid (HM.out.later hb)
  replace HX := Lib.hid (HX.out.below (by simp) hb)
  clear hb
  try go_wp2_with fail
  refine hK.out _ _ HX.out.six (fun hHeld => ?_)
  clear hK K
  try simp only [Act.put, List.setIfInBounds_toArray, List.set_cons_zero, List.set_cons_succ]
  refine wpAnyH_take (i := 9) (oi := { dst := some 74, op := Op.pick (Operand.tmp 69) (Operand.tmp 73) (Operand.const (Value.bool false)), type := 4, pos := "outright.go:91", after := #[{ on := 4, ground := Ground.data }, { on := 8, ground := Ground.data }], guard := none }) (v := ?_) rfl (by kernel_rfl) (by kernel_rfl) (by kernel_rfl) (fun _ _ _ h => h) (Or.inl ⟨by rfl, ?_⟩) (by assumption) ?_
  rotate_left 1
  · intro w hSw; (try dsimp only at hSw); go_simp; try (with_reducible rfl)
  try simp only [Act.put, List.setIfInBounds_toArray, List.set_cons_zero, List.set_cons_succ]
  refine wpAnyH_take (i := 10) (oi := { dst := some 75, op := Op.move (Operand.tmp 74), type := 4, pos := "outright.go:91", after := #[{ on := 9, ground := Ground.data }, { on := 8, ground := Ground.chain }], guard := none }) (v := ?_) rfl (by kernel_rfl) (by kernel_rfl) (by kernel_rfl) (fun _ _ _ h => h) (Or.inl ⟨by rfl, ?_⟩) (by assumption) ?_
  rotate_left 1
  · intro w hSw; (try dsimp only at hSw); go_simp; try (with_reducible rfl)
  try simp only [Act.put, List.setIfInBounds_toArray, List.set_cons_zero, List.set_cons_succ]
  refine wpAnyH_take (i := 11) (oi := { dst := some 76, op := Op.move (Operand.tmp 13), type := 4, pos := "outright.go:91", after := #[{ on := 10, ground := Ground.guard }], guard := some (10, true) }) (v := ?_) rfl (by kernel_rfl) (by kernel_rfl) (by kernel_rfl) (fun _ _ _ h => h) (Or.inl ⟨by rfl, ?_⟩) (by assumption) ?_
  rotate_left 1
  · intro w hSw; (try dsimp only at hSw); go_simp; try (with_reducible rfl)
  try simp only [Act.put, List.setIfInBounds_toArray, List.set_cons_zero, List.set_cons_succ]
  refine wpAnyH_take (i := 12) (oi := { dst := some 77, op := Op.unOp UnOp.not 4 (Operand.tmp 76), type := 4, pos := "outright.go:91", after := #[{ on := 11, ground := Ground.data }, { on := 10, ground := Ground.guard }], guard := some (10, true) }) (v := ?_) rfl (by kernel_rfl) (by kernel_rfl) (by kernel_rfl) (fun _ _ _ h => h) (Or.inl ⟨by rfl, ?_⟩) (by assumption) ?_
  rotate_left 1
  · intro w hSw; (try dsimp only at hSw); go_simp; try (with_reducible rfl)
  try simp only [Act.put, List.setIfInBounds_toArray, List.set_cons_zero, List.set_cons_succ]
  refine wpAnyH_take (i := 13) (oi := { dst := some 78, op := Op.pick (Operand.tmp 75) (Operand.tmp 77) (Operand.const (Value.bool false)), type := 4, pos := "outright.go:91", after := #[{ on := 10, ground := Ground.data }, { on := 12, ground := Ground.data }], guard := none }) (v := ?_) rfl (by kernel_rfl) (by kernel_rfl) (by kernel_rfl) (fun _ _ _ h => h) (Or.inl ⟨by rfl, ?_⟩) (by assumption) ?_
  rotate_left 1
  · intro w hSw; (try dsimp only at hSw); go_simp; try (with_reducible rfl)
  try simp only [Act.put, List.setIfInBounds_toArray, List.set_cons_zero, List.set_cons_succ]
  refine wpAnyH_take (i := 14) (oi := { dst := some 79, op := Op.move (Operand.tmp 78), type := 4, pos := "outright.go:91", after := #[{ on := 13, ground := Ground.data }, { on := 10, ground := Ground.chain }], guard := none }) (v := ?_) rfl (by kernel_rfl) (by kernel_rfl) (by kernel_rfl) (fun _ _ _ h => h) (Or.inl ⟨by rfl, ?_⟩) (by assumption) ?_
  rotate_left 1
  · intro w hSw; (try dsimp only at hSw); go_simp; try (with_reducible rfl)
  try simp only [Act.put, List.setIfInBounds_toArray, List.set_cons_zero, List.set_cons_succ]
  refine wpAnyH_ready (rs := [15]) (by kernel_rfl) (by simp) ?_
  refine AllReadyH.cons (o := { dst := some 80, op := Op.call { callee := Callee.value (Operand.func 23), args := #[Operand.const (Value.int IntKind.i64 10240)], argTypes := #[3] }, type := 3, pos := "outright.go:91", after := #[{ on := 14, ground := Ground.chain }, { on := 14, ground := Ground.guard }], guard := some (14, true) }) rfl (fun K hK => ?_) (AllReadyH.nil)
  go_simp
  refine (HOp.out _).mono ?_; rintro e0 w19 ⟨rfl, rfl⟩
  try go_wp2_with fail
  refine hK.out _ _ HX.out.six (fun hHeld => ?_)
  clear hK K
  try simp only [Act.put, List.setIfInBounds_toArray, List.set_cons_zero, List.set_cons_succ]
  refine wpAnyH_take (i := 16) (oi := { dst := some 81, op := Op.binOp BinOp.eql 3 (Operand.tmp 80) (Operand.const (Value.int IntKind.i64 5)) 3, type := 4, pos := "outright.go:91", after := #[{ on := 15, ground := Ground.data }, { on := 14, ground := Ground.guard }], guard := some (14, true) }) (v := ?_) rfl (by kernel_rfl) (by kernel_rfl) (by kernel_rfl) (fun _ _ _ h => h) (Or.inl ⟨by rfl, ?_⟩) (by assumption) ?_
  rotate_left 1
  · intro w hSw; (try dsimp only at hSw); go_simp; try (with_reducible rfl)
  try simp only [Act.put, List.setIfInBounds_toArray, List.set_cons_zero, List.set_cons_succ]
  refine wpAnyH_take (i := 17) (oi := { dst := some 82, op := Op.pick (Operand.tmp 79) (Operand.tmp 81) (Operand.const (Value.bool false)), type := 4, pos := "outright.go:91", after := #[{ on := 14, ground := Ground.data }, { on := 16, ground := Ground.data }], guard := none }) (v := ?_) rfl (by kernel_rfl) (by kernel_rfl) (by kernel_rfl) (fun _ _ _ h => h) (Or.inl ⟨by rfl, ?_⟩) (by assumption) ?_
  rotate_left 1
  · intro w hSw; (try dsimp only at hSw); go_simp; try (with_reducible rfl)
  try simp only [Act.put, List.setIfInBounds_toArray, List.set_cons_zero, List.set_cons_succ]
  refine wpAnyH_take (i := 18) (oi := { dst := some 83, op := Op.move (Operand.tmp 82), type := 4, pos := "outright.go:91", after := #[{ on := 17, ground := Ground.data }, { on := 15, ground := Ground.chain }], guard := none }) (v := ?_) rfl (by kernel_rfl) (by kernel_rfl) (by kernel_rfl) (fun _ _ _ h => h) (Or.inl ⟨by rfl, ?_⟩) (by assumption) ?_
  rotate_left 1
  · intro w hSw; (try dsimp only at hSw); go_simp; try (with_reducible rfl)
  try simp only [Act.put, List.setIfInBounds_toArray, List.set_cons_zero, List.set_cons_succ]
  refine wpAnyH_ready (rs := [19]) (by kernel_rfl) (by simp) ?_
  refine AllReadyH.cons (o := { dst := some 84, op := Op.call { callee := Callee.value (Operand.func 25), args := #[Operand.const (Value.int IntKind.i64 33155)], argTypes := #[3] }, type := 3, pos := "outright.go:91", after := #[{ on := 18, ground := Ground.chain }, { on := 18, ground := Ground.guard }], guard := some (18, true) }) rfl (fun K hK => ?_) (AllReadyH.nil)
  go_simp
  refine (HCd.out _).mono ?_; rintro e0 w20 ⟨rfl, rfl⟩
  try go_wp2_with fail
  refine hK.out _ _ HX.out.six (fun hHeld => ?_)
  clear hK K
  try simp only [Act.put, List.setIfInBounds_toArray, List.set_cons_zero, List.set_cons_succ]
  refine wpAnyH_take (i := 20) (oi := { dst := some 85, op := Op.binOp BinOp.eql 3 (Operand.tmp 84) (Operand.const (Value.int IntKind.i64 3)) 3, type := 4, pos := "outright.go:91", after := #[{ on := 19, ground := Ground.data }, { on := 18, ground := Ground.guard }], guard := some (18, true) }) (v := ?_) rfl (by kernel_rfl) (by kernel_rfl) (by kernel_rfl) (fun _ _ _ h => h) (Or.inl ⟨by rfl, ?_⟩) (by assumption) ?_
  rotate_left 1
  · intro w hSw; (try dsimp only at hSw); go_simp; try (with_reducible rfl)
  try simp only [Act.put, List.setIfInBounds_toArray, List.set_cons_zero, List.set_cons_succ]
  refine wpAnyH_take (i := 21) (oi := { dst := some 86, op := Op.pick (Operand.tmp 83) (Operand.tmp 85) (Operand.const (Value.bool false)), type := 4, pos := "outright.go:91", after := #[{ on := 18, ground := Ground.data }, { on := 20, ground := Ground.data }], guard := none }) (v := ?_) rfl (by kernel_rfl) (by kernel_rfl) (by kernel_rfl) (fun _ _ _ h => h) (Or.inl ⟨by rfl, ?_⟩) (by assumption) ?_
  rotate_left 1
  · intro w hSw; (try dsimp only at hSw); go_simp; try (with_reducible rfl)
  try simp only [Act.put, List.setIfInBounds_toArray, List.set_cons_zero, List.set_cons_succ]
  refine wpAnyH_take (i := 22) (oi := { dst := some 87, op := Op.move (Operand.tmp 86), type := 4, pos := "outright.go:91", after := #[{ on := 21, ground := Ground.data }, { on := 19, ground := Ground.chain }], guard := none }) (v := ?_) rfl (by kernel_rfl) (by kernel_rfl) (by kernel_rfl) (fun _ _ _ h => h) (Or.inl ⟨by rfl, ?_⟩) (by assumption) ?_
  rotate_left 1
  · intro w hSw; (try dsimp only at hSw); go_simp; try (with_reducible rfl)
  try simp only [Act.put, List.setIfInBounds_toArray, List.set_cons_zero, List.set_cons_succ]
  refine wpAnyH_ready (rs := [23]) (by kernel_rfl) (by simp) ?_
  refine AllReadyH.cons (o := { dst := some 88, op := Op.call { callee := Callee.value (Operand.func 27), args := #[Operand.const (Value.int IntKind.i64 33155), Operand.const (Value.int IntKind.i64 18)], argTypes := #[3, 3] }, type := 3, pos := "outright.go:91", after := #[{ on := 22, ground := Ground.chain }, { on := 22, ground := Ground.guard }], guard := some (22, true) }) rfl (fun K hK => ?_) (AllReadyH.nil)
  go_simp
  refine (HWi.out _).mono ?_; rintro e0 w21 ⟨rfl, rfl⟩
  try go_wp2_with fail
  refine hK.out _ _ HX.out.six (fun hHeld => ?_)
  clear hK K
  try simp only [Act.put, List.setIfInBounds_toArray, List.set_cons_zero, List.set_cons_succ]
  refine wpAnyH_take (i := 24) (oi := { dst := some 89, op := Op.binOp BinOp.eql 3 (Operand.tmp 88) (Operand.const (Value.int IntKind.i64 33154)) 3, type := 4, pos := "outright.go:91", after := #[{ on := 23, ground := Ground.data }, { on := 22, ground := Ground.guard }], guard := some (22, true) }) (v := ?_) rfl (by kernel_rfl) (by kernel_rfl) (by kernel_rfl) (fun _ _ _ h => h) (Or.inl ⟨by rfl, ?_⟩) (by assumption) ?_
  rotate_left 1
  · intro w hSw; (try dsimp only at hSw); go_simp; try (with_reducible rfl)
  try simp only [Act.put, List.setIfInBounds_toArray, List.set_cons_zero, List.set_cons_succ]
  refine wpAnyH_take (i := 25) (oi := { dst := some 90, op := Op.pick (Operand.tmp 87) (Operand.tmp 89) (Operand.const (Value.bool false)), type := 4, pos := "outright.go:91", after := #[{ on := 22, ground := Ground.data }, { on := 24, ground := Ground.data }], guard := none }) (v := ?_) rfl (by kernel_rfl) (by kernel_rfl) (by kernel_rfl) (fun _ _ _ h => h) (Or.inl ⟨by rfl, ?_⟩) (by assumption) ?_
  rotate_left 1
  · intro w hSw; (try dsimp only at hSw); go_simp; try (with_reducible rfl)
  try simp only [Act.put, List.setIfInBounds_toArray, List.set_cons_zero, List.set_cons_succ]
  refine wpAnyH_take (i := 26) (oi := { dst := some 0, op := Op.assign (Operand.tmp 90), type := 4, pos := "outright.go:91", after := #[{ on := 25, ground := Ground.data }, { on := 23, ground := Ground.chain }, { on := 0, ground := Ground.phase }, { on := 1, ground := Ground.phase }, { on := 2, ground := Ground.phase }, { on := 3, ground := Ground.phase }, { on := 4, ground := Ground.phase }, { on := 5, ground := Ground.phase }, { on := 6, ground := Ground.phase }, { on := 7, ground := Ground.phase }, { on := 8, ground := Ground.phase }, { on := 9, ground := Ground.phase }, { on := 10, ground := Ground.phase }, { on := 11, ground := Ground.phase }, { on := 12, ground := Ground.phase }, { on := 13, ground := Ground.phase }, { on := 14, ground := Ground.phase }, { on := 15, ground := Ground.phase }, { on := 16, ground := Ground.phase }, { on := 17, ground := Ground.phase }, { on := 18, ground := Ground.phase }, { on := 19, ground := Ground.phase }, { on := 20, ground := Ground.phase }, { on := 21, ground := Ground.phase }, { on := 22, ground := Ground.phase }, { on := 23, ground := Ground.phase }, { on := 24, ground := Ground.phase }, { on := 25, ground := Ground.phase }], guard := none }) (v := ?_) rfl (by kernel_rfl) (by kernel_rfl) (by kernel_rfl) (fun _ _ _ h => h) (Or.inl ⟨by rfl, ?_⟩) (by assumption) ?_
  rotate_left 1
  · intro w hSw; (try dsimp only at hSw); go_simp; try (with_reducible rfl)
  try simp only [Act.put, List.setIfInBounds_toArray, List.set_cons_zero, List.set_cons_succ]
  refine wpAnyH_done (by kernel_rfl) ?_ _
  clear hHeld
  go_wp2_with fail
  go_ret
  exact ⟨rfl, HB.out⟩
end Go.Proofs.YtdikgjbpjdnodaaGreat
