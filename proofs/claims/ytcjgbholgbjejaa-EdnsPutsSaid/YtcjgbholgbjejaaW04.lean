/-
  May something be said: bounded, Check.
-/
import Derived.Test.YtcjgbholgbjejaaW02
import Derived.Test.YtcjgbholgbjejaaW03
import Derived.Test.YtcjgbholgbjejaaW01
import Derived.Test.YtcjgbholgbjejaaW00
namespace Go.Proofs.Ytcjgbholgbjejaa
open Go.RowKit Go.Shelf
set_option linter.unusedVariables false
set_option linter.unusedSimpArgs false
set_option maxRecDepth 100000

theorem wr64 (n : Int) (h0 : -4000000000000000000 ≤ n) (h1 : n ≤ 4000000000000000000) : IntKind.i64.wrap n = n := by
  rw [IntKind.wrap_i64]
  omega

theorem bounded_any (n m : Int) (w : World) : Calls Try.prog 45 #[.int .i64 n, .int .i64 m] w (Tell0 w (.bool (bnd n m))) := by
  by_cases h : 0 ≤ n
  · have t1 : decide (0 ≤ n) = true := by simp [h]
    have e : bnd n m = decide (n ≤ m) := by unfold bnd; simp [h]
    rw [e]
    obtain ⟨r, hr⟩ : ∃ r, decide (n ≤ m) = r := ⟨_, rfl⟩
    rw [hr]
    go_enter Try.func45, Try.ntmps45
    go_wp2
    go_ret
    exact ⟨rfl, rfl⟩
  · have t1 : decide (0 ≤ n) = false := by simp [h]
    have e : bnd n m = false := by unfold bnd; simp [h]
    rw [e]
    go_enter Try.func45, Try.ntmps45
    go_wp2
    go_ret
    exact ⟨rfl, rfl⟩

theorem szO_le (M : Nat) : ∀ l : List Ot, (∀ x ∈ l, x.d.length ≤ M) → szO l ≤ l.length * (4 + M)
  | [], _ => by simp [szO]
  | x :: r, h => by
    have ih := szO_le M r fun y hy => h y (by simp [hy])
    have hx := h x (by simp)
    have e : szO (x :: r) = 4 + x.d.length + szO r := by simp [szO]
    rw [e, List.length_cons, Nat.add_mul]
    omega
theorem szO_app (a b : List Ot) : szO (a ++ b) = szO a + szO b := by simp [szO]

set_option maxHeartbeats 4000000 in
theorem checkE_any {w : World} {hi : Nat} {u : Value} {e : Ed} (h : Eg w hi u e) (h1 : hi ≤ w.heap.size) (hl : e.o.length ≤ 900000) (hd : ∀ x ∈ e.o, x.d.length ≤ 1000000) :
    Calls Try.prog 26 #[u] w (Tells w (.int .i64 (chkE e))) := by
  obtain ⟨o, rfl, hs⟩ := h
  obtain ⟨es, ex, ev, eb, l⟩ := e
  obtain ⟨r, hr⟩ : ∃ r, chkE ⟨es, ex, ev, eb, l⟩ = r := ⟨_, rfl⟩
  rw [hr]
  unfold chkE at hr
  simp only at hs hr hl hd ⊢
  have H0 := Lib.hid (fun wx => bounded_any es 65535 wx)
  have H1 := Lib.hid (fun wx => bounded_any ex 127 wx)
  have H2 := Lib.hid (fun wx => bounded_any ev 255 wx)
  obtain ⟨b0, hb0⟩ : ∃ b, bnd es 65535 = b := ⟨_, rfl⟩
  obtain ⟨b1, hb1⟩ : ∃ b, bnd ex 127 = b := ⟨_, rfl⟩
  obtain ⟨b2, hb2⟩ : ∃ b, bnd ev 255 = b := ⟨_, rfl⟩
  rw [hb0] at H0 hr
  rw [hb1] at H1 hr
  rw [hb2] at H2 hr
  have HN := Lib.hid (Lst.len hs)
  have HD := Lib.hid hd
  have HL := Lib.hid hl
  obtain ⟨a, c, rfl⟩ := Lst.shape hs
  have hbl : Below w.heap.size w (w.alloc (.cells #[.int .i64 es, .int .i64 ex, .int .i64 ev, .bool eb, .slice a l.length c] 30)) := (Below.refl _ _).alloc (Nat.le_refl _) _
  have hx := cel_new w (.int .i64 es) (.int .i64 ex) (.int .i64 ev) (.bool eb) (.slice a l.length c) 30
  have HS := Lib.hid (show SO w hi _ l from hs)
  have HB := Lib.hid hbl
  obtain ⟨N, hN⟩ : ∃ N, w.heap.size = N := ⟨_, rfl⟩
  obtain ⟨W, hW⟩ : ∃ W, w.alloc (.cells #[.int .i64 es, .int .i64 ex, .int .i64 ev, .bool eb, .slice a l.length c] 30) = W := ⟨_, rfl⟩
  rw [hW] at HB hx
  rw [hN] at hx HB
  have HSW := Lib.hid (show N + 1 ≤ W.heap.size by rw [← hW, World.size_alloc, hN]; exact Nat.le_refl _)
  have HHI := Lib.hid (show hi ≤ N by omega)
  obtain ⟨c0, c1, c2, c3, c4⟩ := hx.five
  clear hs hbl hx hb0 hb1 hb2 h1 hl hd
  by_cases hall : b0 = true ∧ b1 = true ∧ b2 = true
  · obtain ⟨rfl, rfl, rfl⟩ := hall
    simp only [true_and] at hr
    have HR := Lib.hid hr
    clear hr
    go_enter Try.func26, Try.ntmps26
    go_wp2_with fail
    refine (H0.out _).mono ?_; rintro e w2 ⟨rfl, rfl⟩
    go_wp2_with fail
    refine (H1.out _).mono ?_; rintro e w2 ⟨rfl, rfl⟩
    go_wp2_with fail
    refine (H2.out _).mono ?_; rintro e w2 ⟨rfl, rfl⟩
    go_wp2_with fail
    clear c0 c1 c2 c3 c4
    go_loopg [3, 25] l.length (fun g v3 v25 wr => ∃ k : Nat, k + g = l.length ∧ v25 = .int .i64 k ∧ v3 = .int .i64 (szO (l.take k)) ∧ Hid ((l.take k).all (fun x => bnd x.c 65535) = true) ∧ Hid (Below N w wr) ∧ N + 1 ≤ wr.heap.size)
    case atStart => exact ⟨0, by omega, rfl, rfl, by simp [Hid], by first | exact HB | (rw [hW]; exact HB), by first | exact HSW.out | (rw [hW]; exact HSW.out)⟩
    case round =>
      clear hW
      obtain ⟨k, hk, rfl, rfl, HA, HBR, hsz⟩ := hrel
      have hlen := HN.out
      by_cases hlt : k < l.length
      · obtain ⟨b, off, c2', he, hb, hc⟩ := HS.out.at_ k hlt
        injection he with he hn3 hc3
        clear hn3 hc3
        subst he
        obtain ⟨p0, p1⟩ := hc.keep fun o => HBR.out.cell (p := ⟨b, o, none⟩) (Nat.lt_of_lt_of_le hb HHI.out)
        have HTK := Lib.hid (show l.take (k + 1) = l.take k ++ [l[k]] by rw [List.take_add_one, List.getElem?_eq_getElem hlt]; rfl)
        have HM := Lib.hid (List.getElem_mem hlt)
        have HDX := Lib.hid (HD.out l[k] (List.getElem_mem hlt))
        obtain ⟨x, hx⟩ : ∃ x, l[k] = x := ⟨_, rfl⟩
        rw [hx] at p0 p1 HTK HM HDX
        have HC := Lib.hid (fun wx => bounded_any x.c 65535 wx)
        obtain ⟨bb, hbb⟩ : ∃ b, bnd x.c 65535 = b := ⟨_, rfl⟩
        rw [hbb] at HC
        have HBB := Lib.hid hbb
        have hs1 := szO_le 1000000 (l.take k) (fun y hy => HD.out y (List.mem_of_mem_take hy))
        have hs2 : (l.take k).length = k := by rw [List.length_take]; omega
        have hs4 : szO (l.take (k + 1)) = szO (l.take k) + (4 + x.d.length) := by rw [HTK.out, szO_app]; simp [szO]
        obtain ⟨s, hsk⟩ : ∃ s, szO (l.take k) = s := ⟨_, rfl⟩
        rw [hs2, hsk] at hs1
        rw [hsk] at hs4 ⊢
        have HS4 := Lib.hid hs4
        have hd9 : x.d.length ≤ 1000000 := HDX.out
        have hl9 := HL.out
        have hw1 : IntKind.i64.wrap ((4 : Int) + x.d.length) = (4 : Int) + x.d.length := wr64 _ (by omega) (by omega)
        have hw2 : IntKind.i64.wrap ((s : Int) + ((4 : Int) + x.d.length)) = (s : Int) + ((4 : Int) + x.d.length) := wr64 _ (by omega) (by omega)
        have hds : (bs x.d).size = x.d.length := bs_size x.d
        have HB2 := Lib.hid (HBR.out.alloc (by omega) (.cells #[.int .i64 x.c, .string (bs x.d)] 61) : Below N w _)
        have HSZ := Lib.hid (show N + 1 ≤ (wr.alloc (.cells #[.int .i64 x.c, .string (bs x.d)] 61)).heap.size by simp; omega)
        clear hc hx hb hbb hs1 hs2 hs4 hsk hsz HBR
        cases bb with
        | false =>
          have HE := Lib.hid (show r = 5 by
            rw [← HR.out, if_neg]
            intro h
            have := List.all_eq_true.mp h x HM.out
            rw [HBB.out] at this
            cases this)
          clear HA
          go_wp2_with fail
          refine (HC.out _).mono ?_; rintro e w2 ⟨rfl, rfl⟩
          go_wp2_with fail
          go_ret
          exact ⟨by rw [HE.out]; rfl, by first | exact HB2.out | (rw [hN]; exact HB2.out)⟩
        | true =>
          have HA2 := Lib.hid (show (l.take (k + 1)).all (fun x => bnd x.c 65535) = true by rw [HTK.out, List.all_append, HA.out]; simp [HBB.out])
          clear HA
          go_wp2_with fail
          refine (HC.out _).mono ?_; rintro e w2 ⟨rfl, rfl⟩
          go_wp2_with fail
          go_roundg (l.length - (k + 1))
          case measure => omega
          case rel => exact ⟨k + 1, by omega, by go_num, by rw [HS4.out]; go_num, HA2, HB2, HSZ.out⟩
      · have t1 : ¬ ((k : Int) < l.length) := by omega
        have hkl : l.take k = l := List.take_of_length_le (by omega)
        rw [hkl] at HA ⊢
        obtain ⟨s, hsk⟩ : ∃ s, szO l = s := ⟨_, rfl⟩
        have hr2 := HR.out
        rw [if_pos HA.out, hsk] at hr2
        rw [hsk]
        clear hkl HA hsk
        by_cases hbig : 65535 < s
        · rw [if_pos hbig] at hr2
          subst hr2
          have t2 : decide ((65535 : Int) < s) = true := by simp; omega
          go_wp2_with fail
          go_ret
          exact ⟨rfl, by first | exact HBR.out | (rw [hN]; exact HBR.out)⟩
        · rw [if_neg hbig] at hr2
          subst hr2
          have t2 : decide ((65535 : Int) < s) = false := by simp; omega
          go_wp2_with fail
          go_ret
          exact ⟨rfl, by first | exact HBR.out | (rw [hN]; exact HBR.out)⟩
  · have HE : r = 5 := by rw [← hr, if_neg (fun h => hall ⟨h.1, h.2.1, h.2.2.1⟩)]
    subst HE
    have HBO := HB
    clear hr HN HD HL HS HHI
    cases b0 with
    | false =>
      go_enter Try.func26, Try.ntmps26
      go_wp2_with fail
      refine (H0.out _).mono ?_; rintro e w2 ⟨rfl, rfl⟩
      go_wp2_with fail
      go_ret
      exact ⟨rfl, by first | exact HBO.out | (rw [hN]; exact HBO.out)⟩
    | true =>
      cases b1 with
      | false =>
        go_enter Try.func26, Try.ntmps26
        go_wp2_with fail
        refine (H0.out _).mono ?_; rintro e w2 ⟨rfl, rfl⟩
        go_wp2_with fail
        refine (H1.out _).mono ?_; rintro e w2 ⟨rfl, rfl⟩
        go_wp2_with fail
        go_ret
        exact ⟨rfl, by first | exact HBO.out | (rw [hN]; exact HBO.out)⟩
      | true =>
        cases b2 with
        | true => exact absurd ⟨rfl, rfl, rfl⟩ hall
        | false =>
          go_enter Try.func26, Try.ntmps26
          go_wp2_with fail
          refine (H0.out _).mono ?_; rintro e w2 ⟨rfl, rfl⟩
          go_wp2_with fail
          refine (H1.out _).mono ?_; rintro e w2 ⟨rfl, rfl⟩
          go_wp2_with fail
          refine (H2.out _).mono ?_; rintro e w2 ⟨rfl, rfl⟩
          go_wp2_with fail
          go_ret
          exact ⟨rfl, by first | exact HBO.out | (rw [hN]; exact HBO.out)⟩
end Go.Proofs.Ytcjgbholgbjejaa

/-
  The record of what is said: two, record.
-/
namespace Go.Proofs.Ytcjgbholgbjejaa
open Go.RowKit Go.Shelf
set_option linter.unusedVariables false
set_option linter.unusedSimpArgs false
set_option maxRecDepth 100000

theorem b2_len (n : Int) : (b2 n).length = 2 := rfl
theorem otB_len (x : Ot) : (otB x).length = 4 + x.d.length := by unfold otB; rw [List.length_append, List.length_append, b2_len, b2_len]; omega
theorem otsB_len : ∀ l : List Ot, (otsB l).length = szO l
  | [] => rfl
  | x :: r => by
    have ih := otsB_len r
    have e : otsB (x :: r) = otB x ++ otsB r := rfl
    rw [e, List.length_append, otB_len, ih]
    simp [szO]
theorem otsB_app (a b : List Ot) : otsB (a ++ b) = otsB a ++ otsB b := List.flatMap_append
theorem otsB_one (x : Ot) : otsB [x] = b2 x.c ++ (b2 x.d.length ++ x.d) := by simp [otsB, otB]

/-- Two bytes of a number that fits into them. -/
theorem two_any (n : Int) (w : World) (h0 : 0 ≤ n) (h1 : n ≤ 65535) : Calls Try.prog 54 #[.int .i64 n] w fun e w' =>
    ∃ g, e = .returned (.slice (some ⟨g, 0, none⟩) 2 2) ∧ (∀ j, j < (b2 n).length → w'.cell? ⟨g, j, none⟩ = some (.int .u8 (((b2 n).getD j 0).toNat : Nat))) ∧ w.heap.size ≤ g ∧ Below w.heap.size w w' := by
  have H := Lib.hid (put16_any n w)
  go_enter Try.func54, Try.ntmps54
  go_wp2_with fail
  refine H.out.mono ?_; rintro e w1 ⟨v, g, rfl, ho, hg, _, hb⟩
  have eL : putL2 n = [n / 256, n % 256] := by unfold putL2; rw [if_pos ⟨h0, h1⟩]
  rw [eL] at ho
  rcases ho with ⟨_, h⟩ | ⟨rfl, hcell⟩
  · cases h
  · have HB := Lib.hid hb
    have HC := Lib.hid (show ∀ j, j < (b2 n).length → w1.cell? ⟨g, j, none⟩ = some (.int .u8 (((b2 n).getD j 0).toNat : Nat)) by
      intro j hj
      rw [b2_len] at hj
      have e1 : (UInt8.ofNat (n / 256).toNat).toNat = (n / 256).toNat := by rw [UInt8.toNat_ofNat']; omega
      have e2 : (UInt8.ofNat (n % 256).toNat).toNat = (n % 256).toNat := by rw [UInt8.toNat_ofNat']; omega
      have a1 : ((n / 256).toNat : Int) = n / 256 := by omega
      have a2 : ((n % 256).toNat : Int) = n % 256 := by omega
      match j, hj with
      | 0, _ => simp [World.cell?, hcell, b2, e1, a1]
      | 1, _ => simp [World.cell?, hcell, b2, e2, a2])
    clear hb hcell
    go_wp2_with fail
    go_ret
    exact ⟨g, rfl, HC.out, hg, HB.out⟩

/-- The record in its box while its data are being made. -/
structure Rcd (w wr : World) (N : Nat) (es T : Int) (v : Value) (b : List UInt8) : Prop where
  bel : Below N w wr
  x : Cel wr (N + 2) [.string ⟨#[0]⟩, .int .i64 41, .int .i64 es, .int .i64 T, .string ⟨#[]⟩]
  z : Cel wr (N + 1) [.string ⟨#[]⟩, .int .i64 0, .int .i64 0, .int .i64 0, .string ⟨#[]⟩]
  own : OwnU wr (N + 3) v b
  size : N + 3 ≤ wr.heap.size
section
variable {w wr w' : World} {N : Nat} {es T : Int} {v : Value} {b : List UInt8}
theorem Rcd.later (h : Rcd w wr N es T v b) (hb : Below wr.heap.size wr w') : Rcd w w' N es T v b :=
  ⟨below_aside h.bel (Aside.of_all hb : Aside (fun _ => False) wr w') (fun k hk => ⟨by have := h.size; omega, id⟩), h.x.below (by simp) hb, h.z.below (by simp) hb, h.own.below hb, Nat.le_trans h.size hb.size⟩
theorem Rcd.grown {v' : Value} {b' : List UInt8} (h : Rcd w wr N es T v b) (hg : wr.grownBy w' v.ownBlock) (ho : OwnU w' (N + 3) v' b') : Rcd w w' N es T v' b' := by
  have ha : Aside (fun k => N + 3 ≤ k) wr w' := Aside.grown hg fun k hk => h.own.row k hk
  exact ⟨below_aside h.bel ha (fun k hk => ⟨by have := h.size; omega, by omega⟩), h.x.aside (by simp) ha (by omega), h.z.aside (by simp) ha (by omega), ho, Nat.le_trans h.size ha.size⟩
theorem Rcd.app (h : Rcd w wr N es T v b) (l : List UInt8) (g c : Nat) (hx : ∀ j, j < l.length → wr.cell? ⟨g, j, none⟩ = some (.int .u8 ((l.getD j 0).toNat : Nat))) (hb : b.length + l.length ≤ 1000000) :
    ∃ a' c' w', (Builtin.append_ #[67, 67] 67 #[v, .slice (some ⟨g, 0, none⟩) l.length c]).run Try.prog wr = .ok (.slice a' (b.length + l.length) c') w' ∧ Rcd w w' N es T (.slice a' (b.length + l.length) c') (b ++ l) ∧ Aside (fun k => v.ownBlock = some k) wr w' := by
  obtain ⟨a', c', w', h1, h2, h3⟩ := run_appU (N + 3) v b l g c h.own hx hb h.size
  exact ⟨a', c', w', h1, h.grown h3 h2, Aside.grown h3 fun _ hk => hk⟩
theorem Rcd.appS (h : Rcd w wr N es T v b) (l : List UInt8) (hb : b.length + l.length ≤ 1000000) :
    ∃ a' c' w', (Builtin.append_ #[67, 9] 67 #[v, .string (bs l)]).run Try.prog wr = .ok (.slice a' (b.length + l.length) c') w' ∧ Rcd w w' N es T (.slice a' (b.length + l.length) c') (b ++ l) := by
  obtain ⟨a', c', w', h1, h2, h3⟩ := run_appS (N + 3) v b l h.own hb h.size
  exact ⟨a', c', w', h1, h.grown h3 h2⟩
end
theorem cel_new2 (w : World) (a b : Value) (T : TypeId) : Cel (w.alloc (.cells #[a, b] T)) w.heap.size [a, b] := ⟨fun j hj => by
    match j, hj with
    | 0, _ => simp [go_sem]
    | 1, _ => simp [go_sem], fun j => by simp [go_sem]⟩
theorem Cel.two {w : World} {q : Nat} {a b : Value} (h : Cel w q [a, b]) : w.cell? ⟨q, 0, none⟩ = some a ∧ w.cell? ⟨q, 1, none⟩ = some b := ⟨h.c 0 (by simp), h.c 1 (by simp)⟩

/-- An option in a box. -/
def Obx (w : World) (g : Nat) (x : Ot) : Prop := w.heap[g]? = some (.cells #[.int .i64 x.c, .string (bs x.d)] 61)
section
variable {w w' : World} {g : Nat} {x : Ot}
theorem Obx.lt (h : Obx w g x) : g < w.heap.size := (Array.getElem?_eq_some_iff.mp h).1
theorem Obx.aside {G : Nat → Prop} (h : Obx w g x) (ha : Aside G w w') (hG : ¬ G g) : Obx w' g x := (ha.block g h.lt hG).trans h
theorem Obx.below (h : Obx w g x) (hb : Below w.heap.size w w') : Obx w' g x := h.aside (Aside.of_all hb : Aside (fun _ => False) w w') id
theorem Obx.two (h : Obx w g x) : w.cell? ⟨g, 0, none⟩ = some (.int .i64 x.c) ∧ w.cell? ⟨g, 1, none⟩ = some (.string (bs x.d)) := by
  unfold Obx at h
  exact ⟨by simp [World.cell?, h], by simp [World.cell?, h]⟩
theorem Obx.new (w : World) (x : Ot) : Obx (w.alloc (.cells #[.int .i64 x.c, .string (bs x.d)] 61)) w.heap.size x := World.alloc_heap_new w _
theorem Obx.apart {B : Nat} {v : Value} {l : List UInt8} (h : Obx w g x) (ho : OwnU w B v l) : ¬ v.ownBlock = some g := by
  rcases ho.2 with ⟨rfl, _⟩ | ⟨g', cap, cur, fz, rfl, _, hh, _⟩
  · simp [Value.ownBlock]
  · intro he
    have e : g' = g := by simpa [Value.ownBlock] using he
    subst e
    unfold Obx at h
    rw [h] at hh
    injection hh with hh
    injection hh with _ hh
    cases hh
end

/-- The parts of a TTL. -/
theorem ttl_or (x v : Int) (x0 : 0 ≤ x) (x1 : x ≤ 127) (v0 : 0 ≤ v) (v1 : v ≤ 255) : bits .or .i64 (x * 16777216) (v * 65536) = x * 16777216 + v * 65536 := by
  show IntKind.i64.wrap ((BitVec.ofInt 64 (x * 16777216) ||| BitVec.ofInt 64 (v * 65536)).toNat : Nat) = x * 16777216 + v * 65536
  have e1 : (BitVec.ofInt 64 (x * 16777216)).toNat = 2 ^ 24 * x.toNat := by rw [BitVec.toNat_ofInt]; omega
  have e2 : (BitVec.ofInt 64 (v * 65536)).toNat = (v * 65536).toNat := by rw [BitVec.toNat_ofInt]; omega
  rw [BitVec.toNat_or, e1, e2, ← Nat.two_pow_add_eq_or_of_lt (by omega), IntKind.wrap_i64]
  omega
theorem ttl_or2 (x v : Int) (x0 : 0 ≤ x) (x1 : x ≤ 127) (v0 : 0 ≤ v) (v1 : v ≤ 255) : bits .or .i64 (x * 16777216 + v * 65536) 32768 = x * 16777216 + v * 65536 + 32768 := by
  show IntKind.i64.wrap ((BitVec.ofInt 64 (x * 16777216 + v * 65536) ||| BitVec.ofInt 64 32768).toNat : Nat) = x * 16777216 + v * 65536 + 32768
  have e1 : (BitVec.ofInt 64 (x * 16777216 + v * 65536)).toNat = 2 ^ 16 * (x * 256 + v).toNat := by rw [BitVec.toNat_ofInt]; omega
  have e2 : (BitVec.ofInt 64 32768).toNat = 32768 := by decide
  rw [BitVec.toNat_or, e1, e2, ← Nat.two_pow_add_eq_or_of_lt (by omega), IntKind.wrap_i64]
  omega
theorem chkE_in {e : Ed} (h : chkE e = 0) : (0 ≤ e.s ∧ e.s ≤ 65535) ∧ (0 ≤ e.x ∧ e.x ≤ 127) ∧ (0 ≤ e.v ∧ e.v ≤ 255) ∧ (∀ x ∈ e.o, 0 ≤ x.c ∧ x.c ≤ 65535) ∧ szO e.o ≤ 65535 := by
  unfold chkE at h
  split at h
  · rename_i hc
    obtain ⟨h0, h1, h2, h3⟩ := hc
    unfold bnd at h0 h1 h2
    simp only [Bool.and_eq_true, decide_eq_true_eq] at h0 h1 h2
    refine ⟨h0, h1, h2, fun x hx => ?_, ?_⟩
    · have := List.all_eq_true.mp h3 x hx
      unfold bnd at this
      simpa using this
    · split at h
      · cases h
      · omega
  · cases h
theorem szO_mem {l : List Ot} {x : Ot} (h : x ∈ l) : x.d.length + 4 ≤ szO l := by
  induction l with
  | nil => cases h
  | cons y r ih =>
    have e : szO (y :: r) = 4 + y.d.length + szO r := by simp [szO]
    rcases List.mem_cons.mp h with rfl | h
    · omega
    · have := ih h; omega

set_option maxHeartbeats 4000000 in
theorem record_any {w : World} {hi : Nat} {u : Value} {e : Ed} (h : Eg w hi u e) (h1 : hi ≤ w.heap.size) (hc : chkE e = 0) :
    Calls Try.prog 43 #[u] w (Tells w (.agg #[.string (bs (edR e).n), .int .i64 (edR e).t, .int .i64 (edR e).c, .int .i64 (edR e).l, .string (bs (edR e).d)])) := by
  obtain ⟨hin0, hin1, hin2, hin3, hsz⟩ := chkE_in hc
  obtain ⟨o, rfl, hs⟩ := h
  obtain ⟨es, ex, ev, eb, l⟩ := e
  unfold edR
  simp only at hs hin0 hin1 hin2 hin3 hsz ⊢
  obtain ⟨TT, hTT⟩ : ∃ T, ex * 16777216 + ev * 65536 + (if eb = true then 32768 else 0) = T := ⟨_, rfl⟩
  obtain ⟨DD, hDD⟩ : ∃ d, otsB l = d := ⟨_, rfl⟩
  rw [hTT, hDD]
  have HDD := Lib.hid hDD
  have hwa : wrap64 (ex * 16777216) = ex * 16777216 := IntWalk.wrap64_in _ ⟨by omega, by omega⟩
  have hwb : wrap64 (ev * 65536) = ev * 65536 := IntWalk.wrap64_in _ ⟨by omega, by omega⟩
  have hor := ttl_or ex ev hin1.1 hin1.2 hin2.1 hin2.2
  have hor2 := ttl_or2 ex ev hin1.1 hin1.2 hin2.1 hin2.2
  obtain ⟨A, hA⟩ : ∃ A, ex * 16777216 = A := ⟨_, rfl⟩
  obtain ⟨Bv, hBv⟩ : ∃ A, ev * 65536 = A := ⟨_, rfl⟩
  obtain ⟨T, hT⟩ : ∃ A, ex * 16777216 + ev * 65536 = A := ⟨_, rfl⟩
  obtain ⟨T2, hT2⟩ : ∃ A, ex * 16777216 + ev * 65536 + 32768 = A := ⟨_, rfl⟩
  rw [hT2, hT] at hor2
  rw [hT, hA, hBv] at hor
  have HTT := Lib.hid (show TT = if eb = true then T2 else T by rw [← hTT, ← hT2, ← hT]; cases eb <;> simp)
  rw [hA] at hwa
  rw [hBv] at hwb
  have HN := Lib.hid (Lst.len hs)
  have HS := Lib.hid (show SO w hi o l from hs)
  have HI3 := Lib.hid hin3
  have HSZ := Lib.hid hsz
  obtain ⟨a, c, rfl⟩ := Lst.shape hs
  obtain ⟨N, hN⟩ : ∃ N, w.heap.size = N := ⟨_, rfl⟩
  have HHI := Lib.hid (show hi ≤ N by omega)
  clear hs h1 hc hin0 hin1 hin2 hin3 hsz hTT hDD hT hT2
  cases eb with
  | true =>
    replace HTT := Lib.hid (show TT = T2 from HTT.out)
    have hx0 := cel_new w (.int .i64 es) (.int .i64 ex) (.int .i64 ev) (.bool true) (.slice a l.length c) 30
    have hz0 := cel_new (w.alloc (.cells #[.int .i64 es, .int .i64 ex, .int .i64 ev, .bool true, .slice a l.length c] 30)) (.string ⟨#[]⟩) (.int .i64 0) (.int .i64 0) (.int .i64 0) (.string ⟨#[]⟩) 48
    have hy0 := cel_new ((w.alloc (.cells #[.int .i64 es, .int .i64 ex, .int .i64 ev, .bool true, .slice a l.length c] 30)).alloc (.cells #[.string ⟨#[]⟩, .int .i64 0, .int .i64 0, .int .i64 0, .string ⟨#[]⟩] 48)) (.string ⟨#[0]⟩) (.int .i64 41) (.int .i64 es) (.int .i64 T2) (.string ⟨#[]⟩) 48
    have hbl : Below w.heap.size w (((w.alloc (.cells #[.int .i64 es, .int .i64 ex, .int .i64 ev, .bool true, .slice a l.length c] 30)).alloc (.cells #[.string ⟨#[]⟩, .int .i64 0, .int .i64 0, .int .i64 0, .string ⟨#[]⟩] 48)).alloc (.cells #[.string ⟨#[0]⟩, .int .i64 41, .int .i64 es, .int .i64 T2, .string ⟨#[]⟩] 48)) := (((Below.refl _ _).alloc (Nat.le_refl _) _).alloc (by simp) _).alloc (by simp; omega) _
    have hz1 := hz0.below (by simp) ((Below.refl _ _).alloc (Nat.le_refl _) (.cells #[.string ⟨#[0]⟩, .int .i64 41, .int .i64 es, .int .i64 T2, .string ⟨#[]⟩] 48))
    simp only [World.size_alloc] at hz1 hy0
    rw [hN] at hz1 hy0 hbl
    have HP := Lib.hid (show Rcd w (((w.alloc (.cells #[.int .i64 es, .int .i64 ex, .int .i64 ev, .bool true, .slice a l.length c] 30)).alloc (.cells #[.string ⟨#[]⟩, .int .i64 0, .int .i64 0, .int .i64 0, .string ⟨#[]⟩] 48)).alloc (.cells #[.string ⟨#[0]⟩, .int .i64 41, .int .i64 es, .int .i64 T2, .string ⟨#[]⟩] 48)) N es T2 (.slice none 0 0) [] from ⟨hbl, hy0, hz1, OwnU.nil _ _, by simp; omega⟩)
    clear hx0 hz0 hy0 hbl hz1
    go_enter Try.func43, Try.ntmps43
    go_wp2_with fail
    clear hwa hwb hor hor2 hA hBv
    go_loopg [4, 26] l.length (fun g v4 v26 wr => ∃ k : Nat, k + g = l.length ∧ v26 = .int .i64 k ∧ Hid (Rcd w wr N es T2 v4 (otsB (l.take k))))
    case atStart => exact ⟨0, by omega, rfl, by first | exact HP | (rw [hN]; exact HP)⟩
    case round =>
      clear HP
      obtain ⟨k, hk, rfl, HP⟩ := hrel
      have hlen := HN.out
      by_cases hlt : k < l.length
      · obtain ⟨b, off, c2', he, hb, hc⟩ := HS.out.at_ k hlt
        injection he with he hn3 hc3
        clear hn3 hc3
        subst he
        obtain ⟨p0, p1⟩ := hc.keep fun o => HP.out.bel.cell (p := ⟨b, o, none⟩) (Nat.lt_of_lt_of_le hb HHI.out)
        have htk : l.take (k + 1) = l.take k ++ [l[k]] := by rw [List.take_add_one, List.getElem?_eq_getElem hlt]; rfl
        have hin := HI3.out l[k] (List.getElem_mem hlt)
        have hds := szO_mem (List.getElem_mem hlt)
        have hsz1 : szO (l.take k) + szO (l.drop k) = szO l := by rw [← szO_app, List.take_append_drop]
        obtain ⟨x, hx⟩ : ∃ x, l[k] = x := ⟨_, rfl⟩
        rw [hx] at p0 p1 htk hin hds
        have hszl := HSZ.out
        have HTK := Lib.hid (show otsB (l.take (k + 1)) = otsB (l.take k) ++ (b2 x.c ++ (b2 x.d.length ++ x.d)) by rw [htk, otsB_app, otsB_one])
        have hbl := otsB_len (l.take k)
        obtain ⟨bb, hbb⟩ : ∃ b, otsB (l.take k) = b := ⟨_, rfl⟩
        rw [hbb] at HP HTK hbl
        have HL := Lib.hid (show bb.length ≤ 65535 ∧ x.d.length ≤ 65535 by omega)
        have HC1 := Lib.hid (fun wx => two_any x.c wx hin.1 hin.2)
        have HC2 := Lib.hid (fun wx => two_any (x.d.length : Nat) wx (by omega) (by omega))
        have hdsz : (bs x.d).size = x.d.length := bs_size x.d
        obtain ⟨g, hg⟩ : ∃ g, wr.heap.size = g := ⟨_, rfl⟩
        have HQ := Lib.hid (show Obx (wr.alloc (.cells #[.int .i64 x.c, .string (bs x.d)] 61)) g x by rw [← hg]; exact Obx.new wr x)
        replace HP := Lib.hid (HP.out.later ((Below.refl wr.heap.size wr).alloc (Nat.le_refl _) (.cells #[.int .i64 x.c, .string (bs x.d)] 61)))
        obtain ⟨av, cv, rfl, _⟩ := HP.out.own.shape
        clear hc hx hb hin hds hsz1 hszl hbl hbb htk
        go_wp2_with fail
        refine (HC1.out _).mono ?_; rintro e w3 ⟨g3, rfl, hc3, hg3, hb⟩
        replace HP := Lib.hid (HP.out.later hb)
        replace HQ := Lib.hid (HQ.out.below hb)
        obtain ⟨a4, c4, w4, hr4, hp4, ha4⟩ := HP.out.app (b2 x.c) g3 2 hc3 (by have := HL.out.1; rw [b2_len]; omega)
        rw [b2_len] at hr4 hp4
        have HR4 := Lib.hid hr4
        replace HQ := Lib.hid (HQ.out.aside ha4 (HQ.out.apart HP.out.own))
        replace HP := Lib.hid hp4
        clear hb hc3 hg3 hr4 hp4 ha4
        obtain ⟨q0, q1⟩ := HQ.out.two
        go_wp2_with (at_builtin; refine wpList_append_run (.tmp 30) (.tmp 33) 67 67 rfl rfl rfl rfl HR4.out ?_)
        refine (HC2.out _).mono ?_; rintro e w5 ⟨g5, rfl, hc5, hg5, hb⟩
        replace HP := Lib.hid (HP.out.later hb)
        replace HQ := Lib.hid (HQ.out.below hb)
        have hbl2 : (bb ++ b2 x.c).length = bb.length + 2 := by rw [List.length_append, b2_len]
        obtain ⟨a6, c6, w6, hr6, hp6, ha6⟩ := HP.out.app (b2 (x.d.length : Nat)) g5 2 hc5 (by have := HL.out.1; rw [hbl2, b2_len]; omega)
        rw [b2_len, hbl2] at hr6 hp6
        have HR6 := Lib.hid hr6
        replace HQ := Lib.hid (HQ.out.aside ha6 (HQ.out.apart HP.out.own))
        replace HP := Lib.hid hp6
        have hbl3 : ((bb ++ b2 x.c) ++ b2 (x.d.length : Nat)).length = bb.length + 2 + 2 := by rw [List.length_append, hbl2, b2_len]
        obtain ⟨a7, c7, w7, hr7, hp7⟩ := HP.out.appS x.d (by have := HL.out; rw [hbl3]; omega)
        rw [hbl3] at hr7 hp7
        have HR7 := Lib.hid hr7
        have HP7 := Lib.hid (show Rcd w w7 N es T2 (.slice a7 (bb.length + 2 + 2 + x.d.length) c7) (otsB (l.take (k + 1))) by rw [HTK.out, ← List.append_assoc, ← List.append_assoc]; exact hp7)
        clear q0 q1 hb hc5 hg5 hbl2 hr6 hp6 ha6 hbl3 hr7 hp7 HP
        obtain ⟨q0, q1⟩ := HQ.out.two
        clear HQ
        go_wp2_with (first | (at_builtin; refine wpList_append_run (.tmp 35) (.tmp 39) 67 67 rfl rfl rfl rfl HR6.out ?_) | (at_builtin; refine wpList_append_run (.tmp 41) (.tmp 43) 67 9 rfl rfl rfl rfl HR7.out ?_))
        go_roundg (l.length - (k + 1))
        case measure => omega
        case rel => exact ⟨k + 1, by omega, by go_num, HP7⟩
      · have t1 : ¬ ((k : Int) < l.length) := by omega
        have hkl : l.take k = l := List.take_of_length_le (by omega)
        rw [hkl, HDD.out] at HP
        obtain ⟨av, cv, rfl, _⟩ := HP.out.own.shape
        have HBK := Lib.hid (back_U HP.out.own)
        obtain ⟨x0, x1, x2, x3, x4⟩ := HP.out.x.five
        obtain ⟨z0, z1, z2, z3, z4⟩ := HP.out.z.five
        have fx := HP.out.x.fz
        have fz := HP.out.z.fz
        have hconv := HBK.out
        clear hkl
        go_wp2_with fail
        clear x0 x1 x2 x3 x4 z0 z1 z2 z3 z4 fx fz hconv
        have hst : Aside (fun k => k = N + 2) wr (wr.setCell ⟨N + 2, 4, none⟩ (.string (bs DD))) := Aside.setCell wr (p := ⟨N + 2, 4, none⟩) _ rfl
        have hz5 := HP.out.z.aside (by simp) hst (by omega)
        have hk := cel_put5 hz5 (.string ⟨#[0]⟩) (.int .i64 41) (.int .i64 es) (.int .i64 T2) (.string (bs DD))
        have hst2 := aside_put5 (wr.setCell ⟨N + 2, 4, none⟩ (.string (bs DD))) (N + 1) (.string ⟨#[0]⟩) (.int .i64 41) (.int .i64 es) (.int .i64 T2) (.string (bs DD))
        have hbF := below_aside (below_aside HP.out.bel hst (fun k hk => ⟨by have := HP.out.size; omega, by omega⟩)) hst2 (fun k hk => ⟨by have := HP.out.size; have := hst.size; omega, by omega⟩)
        obtain ⟨m0, m1, m2, m3, m4⟩ := hk.five
        unfold put5 at m0 m1 m2 m3 m4 hbF
        refine bodyPost_ret (v := .agg #[.string ⟨#[0]⟩, .int .i64 41, .int .i64 es, .int .i64 T2, .string (bs DD)]) (by simp [results, Try.results43, go_sem, m0, m1, m2, m3, m4]) rfl ⟨?_, ?_⟩
        · rw [HTT.out]; rfl
        · first | exact hbF | (rw [hN]; exact hbF)
  | false =>
    replace HTT := Lib.hid (show TT = T from HTT.out)
    have hx0 := cel_new w (.int .i64 es) (.int .i64 ex) (.int .i64 ev) (.bool false) (.slice a l.length c) 30
    have hz0 := cel_new (w.alloc (.cells #[.int .i64 es, .int .i64 ex, .int .i64 ev, .bool false, .slice a l.length c] 30)) (.string ⟨#[]⟩) (.int .i64 0) (.int .i64 0) (.int .i64 0) (.string ⟨#[]⟩) 48
    have hy0 := cel_new ((w.alloc (.cells #[.int .i64 es, .int .i64 ex, .int .i64 ev, .bool false, .slice a l.length c] 30)).alloc (.cells #[.string ⟨#[]⟩, .int .i64 0, .int .i64 0, .int .i64 0, .string ⟨#[]⟩] 48)) (.string ⟨#[0]⟩) (.int .i64 41) (.int .i64 es) (.int .i64 T) (.string ⟨#[]⟩) 48
    have hbl : Below w.heap.size w (((w.alloc (.cells #[.int .i64 es, .int .i64 ex, .int .i64 ev, .bool false, .slice a l.length c] 30)).alloc (.cells #[.string ⟨#[]⟩, .int .i64 0, .int .i64 0, .int .i64 0, .string ⟨#[]⟩] 48)).alloc (.cells #[.string ⟨#[0]⟩, .int .i64 41, .int .i64 es, .int .i64 T, .string ⟨#[]⟩] 48)) := (((Below.refl _ _).alloc (Nat.le_refl _) _).alloc (by simp) _).alloc (by simp; omega) _
    have hz1 := hz0.below (by simp) ((Below.refl _ _).alloc (Nat.le_refl _) (.cells #[.string ⟨#[0]⟩, .int .i64 41, .int .i64 es, .int .i64 T, .string ⟨#[]⟩] 48))
    simp only [World.size_alloc] at hz1 hy0
    rw [hN] at hz1 hy0 hbl
    have HP := Lib.hid (show Rcd w (((w.alloc (.cells #[.int .i64 es, .int .i64 ex, .int .i64 ev, .bool false, .slice a l.length c] 30)).alloc (.cells #[.string ⟨#[]⟩, .int .i64 0, .int .i64 0, .int .i64 0, .string ⟨#[]⟩] 48)).alloc (.cells #[.string ⟨#[0]⟩, .int .i64 41, .int .i64 es, .int .i64 T, .string ⟨#[]⟩] 48)) N es T (.slice none 0 0) [] from ⟨hbl, hy0, hz1, OwnU.nil _ _, by simp; omega⟩)
    clear hx0 hz0 hy0 hbl hz1
    go_enter Try.func43, Try.ntmps43
    go_wp2_with fail
    clear hwa hwb hor hor2 hA hBv
    go_loopg [4, 26] l.length (fun g v4 v26 wr => ∃ k : Nat, k + g = l.length ∧ v26 = .int .i64 k ∧ Hid (Rcd w wr N es T v4 (otsB (l.take k))))
    case atStart => exact ⟨0, by omega, rfl, by first | exact HP | (rw [hN]; exact HP)⟩
    case round =>
      clear HP
      obtain ⟨k, hk, rfl, HP⟩ := hrel
      have hlen := HN.out
      by_cases hlt : k < l.length
      · obtain ⟨b, off, c2', he, hb, hc⟩ := HS.out.at_ k hlt
        injection he with he hn3 hc3
        clear hn3 hc3
        subst he
        obtain ⟨p0, p1⟩ := hc.keep fun o => HP.out.bel.cell (p := ⟨b, o, none⟩) (Nat.lt_of_lt_of_le hb HHI.out)
        have htk : l.take (k + 1) = l.take k ++ [l[k]] := by rw [List.take_add_one, List.getElem?_eq_getElem hlt]; rfl
        have hin := HI3.out l[k] (List.getElem_mem hlt)
        have hds := szO_mem (List.getElem_mem hlt)
        have hsz1 : szO (l.take k) + szO (l.drop k) = szO l := by rw [← szO_app, List.take_append_drop]
        obtain ⟨x, hx⟩ : ∃ x, l[k] = x := ⟨_, rfl⟩
        rw [hx] at p0 p1 htk hin hds
        have hszl := HSZ.out
        have HTK := Lib.hid (show otsB (l.take (k + 1)) = otsB (l.take k) ++ (b2 x.c ++ (b2 x.d.length ++ x.d)) by rw [htk, otsB_app, otsB_one])
        have hbl := otsB_len (l.take k)
        obtain ⟨bb, hbb⟩ : ∃ b, otsB (l.take k) = b := ⟨_, rfl⟩
        rw [hbb] at HP HTK hbl
        have HL := Lib.hid (show bb.length ≤ 65535 ∧ x.d.length ≤ 65535 by omega)
        have HC1 := Lib.hid (fun wx => two_any x.c wx hin.1 hin.2)
        have HC2 := Lib.hid (fun wx => two_any (x.d.length : Nat) wx (by omega) (by omega))
        have hdsz : (bs x.d).size = x.d.length := bs_size x.d
        obtain ⟨g, hg⟩ : ∃ g, wr.heap.size = g := ⟨_, rfl⟩
        have HQ := Lib.hid (show Obx (wr.alloc (.cells #[.int .i64 x.c, .string (bs x.d)] 61)) g x by rw [← hg]; exact Obx.new wr x)
        replace HP := Lib.hid (HP.out.later ((Below.refl wr.heap.size wr).alloc (Nat.le_refl _) (.cells #[.int .i64 x.c, .string (bs x.d)] 61)))
        obtain ⟨av, cv, rfl, _⟩ := HP.out.own.shape
        clear hc hx hb hin hds hsz1 hszl hbl hbb htk
        go_wp2_with fail
        refine (HC1.out _).mono ?_; rintro e w3 ⟨g3, rfl, hc3, hg3, hb⟩
        replace HP := Lib.hid (HP.out.later hb)
        replace HQ := Lib.hid (HQ.out.below hb)
        obtain ⟨a4, c4, w4, hr4, hp4, ha4⟩ := HP.out.app (b2 x.c) g3 2 hc3 (by have := HL.out.1; rw [b2_len]; omega)
        rw [b2_len] at hr4 hp4
        have HR4 := Lib.hid hr4
        replace HQ := Lib.hid (HQ.out.aside ha4 (HQ.out.apart HP.out.own))
        replace HP := Lib.hid hp4
        clear hb hc3 hg3 hr4 hp4 ha4
        obtain ⟨q0, q1⟩ := HQ.out.two
        go_wp2_with (at_builtin; refine wpList_append_run (.tmp 30) (.tmp 33) 67 67 rfl rfl rfl rfl HR4.out ?_)
        refine (HC2.out _).mono ?_; rintro e w5 ⟨g5, rfl, hc5, hg5, hb⟩
        replace HP := Lib.hid (HP.out.later hb)
        replace HQ := Lib.hid (HQ.out.below hb)
        have hbl2 : (bb ++ b2 x.c).length = bb.length + 2 := by rw [List.length_append, b2_len]
        obtain ⟨a6, c6, w6, hr6, hp6, ha6⟩ := HP.out.app (b2 (x.d.length : Nat)) g5 2 hc5 (by have := HL.out.1; rw [hbl2, b2_len]; omega)
        rw [b2_len, hbl2] at hr6 hp6
        have HR6 := Lib.hid hr6
        replace HQ := Lib.hid (HQ.out.aside ha6 (HQ.out.apart HP.out.own))
        replace HP := Lib.hid hp6
        have hbl3 : ((bb ++ b2 x.c) ++ b2 (x.d.length : Nat)).length = bb.length + 2 + 2 := by rw [List.length_append, hbl2, b2_len]
        obtain ⟨a7, c7, w7, hr7, hp7⟩ := HP.out.appS x.d (by have := HL.out; rw [hbl3]; omega)
        rw [hbl3] at hr7 hp7
        have HR7 := Lib.hid hr7
        have HP7 := Lib.hid (show Rcd w w7 N es T (.slice a7 (bb.length + 2 + 2 + x.d.length) c7) (otsB (l.take (k + 1))) by rw [HTK.out, ← List.append_assoc, ← List.append_assoc]; exact hp7)
        clear q0 q1 hb hc5 hg5 hbl2 hr6 hp6 ha6 hbl3 hr7 hp7 HP
        obtain ⟨q0, q1⟩ := HQ.out.two
        clear HQ
        go_wp2_with (first | (at_builtin; refine wpList_append_run (.tmp 35) (.tmp 39) 67 67 rfl rfl rfl rfl HR6.out ?_) | (at_builtin; refine wpList_append_run (.tmp 41) (.tmp 43) 67 9 rfl rfl rfl rfl HR7.out ?_))
        go_roundg (l.length - (k + 1))
        case measure => omega
        case rel => exact ⟨k + 1, by omega, by go_num, HP7⟩
      · have t1 : ¬ ((k : Int) < l.length) := by omega
        have hkl : l.take k = l := List.take_of_length_le (by omega)
        rw [hkl, HDD.out] at HP
        obtain ⟨av, cv, rfl, _⟩ := HP.out.own.shape
        have HBK := Lib.hid (back_U HP.out.own)
        obtain ⟨x0, x1, x2, x3, x4⟩ := HP.out.x.five
        obtain ⟨z0, z1, z2, z3, z4⟩ := HP.out.z.five
        have fx := HP.out.x.fz
        have fz := HP.out.z.fz
        have hconv := HBK.out
        clear hkl
        go_wp2_with fail
        clear x0 x1 x2 x3 x4 z0 z1 z2 z3 z4 fx fz hconv
        have hst : Aside (fun k => k = N + 2) wr (wr.setCell ⟨N + 2, 4, none⟩ (.string (bs DD))) := Aside.setCell wr (p := ⟨N + 2, 4, none⟩) _ rfl
        have hz5 := HP.out.z.aside (by simp) hst (by omega)
        have hk := cel_put5 hz5 (.string ⟨#[0]⟩) (.int .i64 41) (.int .i64 es) (.int .i64 T) (.string (bs DD))
        have hst2 := aside_put5 (wr.setCell ⟨N + 2, 4, none⟩ (.string (bs DD))) (N + 1) (.string ⟨#[0]⟩) (.int .i64 41) (.int .i64 es) (.int .i64 T) (.string (bs DD))
        have hbF := below_aside (below_aside HP.out.bel hst (fun k hk => ⟨by have := HP.out.size; omega, by omega⟩)) hst2 (fun k hk => ⟨by have := HP.out.size; have := hst.size; omega, by omega⟩)
        obtain ⟨m0, m1, m2, m3, m4⟩ := hk.five
        unfold put5 at m0 m1 m2 m3 m4 hbF
        refine bodyPost_ret (v := .agg #[.string ⟨#[0]⟩, .int .i64 41, .int .i64 es, .int .i64 T, .string (bs DD)]) (by simp [results, Try.results43, go_sem, m0, m1, m2, m3, m4]) rfl ⟨?_, ?_⟩
        · rw [HTT.out]; rfl
        · first | exact hbF | (rw [hN]; exact hbF)
end Go.Proofs.Ytcjgbholgbjejaa

/-
  A range over a function, over an iterator that yields any values: what the iterator keeps and what it turns, a caller's invariant, a body (as wip/name Rf, of texts).
-/
namespace Go.Proofs.Ytcjgbholgbjejaa
open Go.RowKit
set_option linter.unusedVariables false
set_option maxRecDepth 100000

/-- What an iterator over values does, whatever loop calls it: it yields xs, one behind the other, if it is not stopped; then it returns, or panics with fin. It leans on the blocks K, and on what H tells of its own; it turns blocks of G alone, and asks St of the world in which it begins. -/
def SeqV (P : Program) (gf : Nat) (lb : Array Value) (K G : Nat → Prop) (H : Obj → Prop) (xs : List (Array Value)) (fin : Option (List PanicEntry)) (St : World → Prop) : Prop :=
  ∀ (l : Nat) (J Jx : Nat → World → Prop) (W : World),
    (∀ k A B, J k A → Aside G A B → J k B) →
    (∀ k A x, xs[k]? = some x → J k A → YieldAt Fence.wide 0 P l x A fun e B =>
      (e = .returned (.bool true) ∧ J (k + 1) B ∧ A.heap.size ≤ B.heap.size ∧ (∀ b, K b → B.heap[b]? = A.heap[b]?) ∧ ∀ (b : Nat) (o : Obj), A.heap[b]? = some o → H o → B.heap[b]? = some o) ∨ (e = .returned (.bool false) ∧ Jx (k + 1) B)) →
    St W → J 0 W →
    CallsIn Fence.wide 0 P gf (#[.func (.yield l) #[] #[]] ++ lb) W (SeqEnd xs.length fin J Jx)

/-- How a round's body may be left. -/
def roundV (M : Nat → Prop) (H : Obj → Prop) (k : Nat) (I : Nat → World → Prop) (Ix : Code → Nat → World → Prop) (W : World) : Exit → Act → World → Prop
  | .normal, _, W' => Aside M W W' ∧ (∀ (b : Nat) (o : Obj), W.heap[b]? = some o → H o → W'.heap[b]? = some o) ∧ I (k + 1) W'
  | .ret, _, W' => Aside M W W' ∧ Ix .ret (k + 1) W'
  | .exit id, _, W' => Aside M W W' ∧ Ix (.exit id) (k + 1) W'
  | .goto t, _, W' => Aside M W W' ∧ Ix (.goto t) (k + 1) W'
  | .panic _, _, _ => False
  | .outgrown, _, _ => False

theorem wp_rangeFunc_V {α : Type} {enc : α → Array Value} {P : Program} {gf : Nat} {lb : Array Value} {K G M : Nat → Prop} {H : Obj → Prop} {ys : List α} {fin : Option (List PanicEntry)} {St : World → Prop}
    {g : Operand} {ps : Array Tmp} {assign body : Code} {Q : Exit → Act → World → Prop} {a : Act} {w : World} {D : Nat} (hD : w.heap.size = D)
    (hg : a.eval g = .func (.func gf) #[] lb) (eg : ∀ args w, (callFunc gf args).run P w = .ok (.enter gf args) w)
    (hseq : SeqV P gf lb K G H (ys.map enc) fin St) (hHl : ∀ r, ¬ H (.loop r)) (hSt : St w) (hStK : ∀ A B, St A → (∀ b, K b → B.heap[b]? = A.heap[b]?) → A.heap.size ≤ B.heap.size → St B)
    (hK : ∀ b, K b → b < D) (hM : ∀ b, M b → ¬ K b ∧ b ≠ D ∧ b ≠ D + 1) (hGK : ∀ b, G b → K b) (hps : ∀ y, (enc y).size = ps.size)
    (I : Nat → World → Prop) (Ix : Code → Nat → World → Prop)
    (hI : ∀ k A B, I k A → Aside (fun b => G b ∨ b = D ∨ b = D + 1) A B → I k B)
    (hIx : ∀ c k A B, Ix c k A → Aside (fun b => G b ∨ b = D ∨ b = D + 1) A B → Ix c k B)
    (h0 : I 0 w) (a₁ : α → World → Act) (wa : α → World → World) (hwa : ∀ y W, Below W.heap.size W (wa y W))
    (hassign : ∀ (l k : Nat) (x : α) (W : World) (K : Act → World → Prop), ys[k]? = some x → K (a₁ x W) (wa x W) →
      assign.wpIn (Fence.wide.inRound l) 0 P (Exit.then K (fun _ _ _ => False)) { tmps := (ps.zip (enc x)).foldl (fun t (p, v) => t.setIfInBounds p v) a.tmps, defers := [] } W)
    (hbody : ∀ (l k : Nat) (x : α) (W V : World) (o : Obj), ys[k]? = some x → D + 2 ≤ W.heap.size → V = (wa x W).putObj (D + 1) o → I k V → body.wpIn (Fence.wide.inRound l) 0 P (roundV M H k I Ix V) (a₁ x W) V)
    (hdone : fin = none → ∀ W, I ys.length W → D + 2 ≤ W.heap.size → W.heap[D]? = some (.deferred (some [])) → Q .normal { a with defers := { target := .collected D, args := #[] } :: a.defers } W)
    (hstop : ∀ c k W, k ≤ ys.length → Ix c k W → W.heap[D]? = some (.deferred (some [])) → c.wp P Q { a with defers := { target := .collected D, args := #[] } :: a.defers } W)
    (hpanic : ∀ ch, fin = some ch → ∀ W, I ys.length W → W.heap[D]? = some (.deferred (some [])) → Q (.panic ch) { a with defers := { target := .collected D, args := #[] } :: a.defers } W) :
    (Code.rangeFunc g ps assign body).wp P Q a w := by
  subst hD
  refine (wpIn_wide (n := 0)).1 (wpIn_rangeFunc ?_)
  intro fn hfn
  obtain ⟨rec, hrec⟩ : ∃ rec : LoopState → Option Code → Loop, rec = fun st pe => { state := st, pending := pe, fn, tmps := a.tmps, params := ps, assign, body, defers := w.heap.size } := ⟨_, rfl⟩
  obtain ⟨W1, hW1⟩ : ∃ W1, (w.alloc (.deferred (some []))).alloc (.loop (rec .ready none)) = W1 := ⟨_, rfl⟩
  have hs1 : W1.heap.size = w.heap.size + 2 := by rw [← hW1]; simp
  have hL1 : W1.heap[w.heap.size + 1]? = some (.loop (rec .ready none)) := by
    rw [← hW1]; have := World.alloc_heap_new (w.alloc (.deferred (some []))) (.loop (rec .ready none)); rwa [World.size_alloc] at this
  have hK1 : W1.heap[w.heap.size]? = some (.deferred (some [])) := by
    rw [← hW1]; exact (Below.heap_alloc _ _ _ (by simp)).trans (World.alloc_heap_new w _)
  have hA1 : ∀ G, Aside G w W1 := fun G => by rw [← hW1]; exact (Aside.alloc _ _).trans (Aside.alloc _ _)
  refine ⟨w.heap.size + 1, [{ target := .collected w.heap.size, args := #[] }], W1, { target := .fn (.func gf) lb, args := #[.func (.yield (w.heap.size + 1)) #[] #[]] }, W1, gf,
    #[.func (.yield (w.heap.size + 1)) #[] #[]] ++ lb, W1, ?_, ?_, ?_, ?_, (fun h => by simp [Fence.wide] at h), ?_⟩
  · rw [← hW1, hrec]; exact run_enterLoop_outer _ _ _ _ _
  · simp only [resolve, hg]
    simp [go_sem]
  · intro f' _; trivial
  · simp [invoke, go_sem, eg]
  · have hStep : ∀ (I : World → Prop), (∀ A B, I A → Aside (fun b => G b ∨ b = w.heap.size ∨ b = w.heap.size + 1) A B → I B) → ∀ A (o : Obj), I A → I (A.putObj (w.heap.size + 1) o) :=
      fun I h A o ha => h _ _ ha (Aside.putObj _ _ (.inr (.inr rfl)))
    have hSt1 : St W1 := hStK _ _ hSt (fun b hb => (hA1 (fun _ => False)).block b (hK b hb) (fun h => h)) (hA1 (fun _ => False)).size
    refine (hseq (w.heap.size + 1)
      (fun k W => I k W ∧ w.heap.size + 2 ≤ W.heap.size ∧ W.heap[w.heap.size + 1]? = some (.loop (rec .ready none)) ∧ W.heap[w.heap.size]? = some (.deferred (some [])))
      (fun k W => ∃ c, Ix c k W ∧ W.heap[w.heap.size + 1]? = some (.loop (rec .done (some c))) ∧ W.heap[w.heap.size]? = some (.deferred (some [])))
      W1
      (fun k A B hs hab => by
        obtain ⟨h1, h2, h3, h4⟩ := hs
        have hlo : ∀ b, G b → b < w.heap.size := fun b hb => hK b (hGK b hb)
        exact ⟨hI k A B h1 (hab.mono fun b _ hb => .inl hb), Nat.le_trans h2 hab.size, (hab.block _ (by omega) (fun e => by have := hlo _ e; omega)).trans h3, (hab.block _ (by omega) (fun e => by have := hlo _ e; omega)).trans h4⟩)
      ?_ hSt1 ⟨hI _ _ _ h0 (hA1 _), by omega, hL1, hK1⟩).mono ?_
    · -- one round
      rintro k W x hx ⟨hi, hsz, hl, hk⟩
      rw [List.getElem?_map] at hx
      obtain ⟨x, hxk, rfl⟩ := Option.map_eq_some_iff.mp hx
      have hlt : w.heap.size + 1 < W.heap.size := by omega
      have hy := run_yield (P := P) (args := enc x) hl (by rw [hrec]; simp [hps x])
      rw [hrec] at hy
      have hbw := hwa x W
      obtain ⟨W', hW'⟩ : ∃ W', wa x W = W' := ⟨_, rfl⟩
      rw [hW'] at hbw
      have hl' : W'.heap[w.heap.size + 1]? = some (.loop (rec .ready none)) := (hbw.block _ hlt).trans hl
      have hk' : W'.heap[w.heap.size]? = some (.deferred (some [])) := (hbw.block _ (by omega)).trans hk
      have hs' := hbw.size
      refine ⟨fn, _, assign, body, hy, roundIn_of_wpIn hfn (hassign _ k x W _ hxk ?_)⟩
      rw [hW']
      refine ⟨_, run_beginRound hl' (by rw [hrec]), ?_⟩
      obtain ⟨W2, hW2⟩ : ∃ W2, W'.putObj (w.heap.size + 1) (.loop { rec .ready none with state := .busy }) = W2 := ⟨_, rfl⟩
      have hs2 : W2.heap.size = W'.heap.size := by rw [← hW2]; simp
      have hl2 : W2.heap[w.heap.size + 1]? = some (.loop { rec .ready none with state := .busy }) := by rw [← hW2]; exact World.putObj_heap_same (by omega)
      have hk2 : W2.heap[w.heap.size]? = some (.deferred (some [])) := by rw [← hW2]; exact (World.putObj_heap_other (by omega)).trans hk'
      have hi2 : I k W2 := by rw [← hW2]; exact hStep _ (hI k) _ _ (hI k _ _ hi (Aside.of_all hbw))
      have hK2 : ∀ b, K b → W2.heap[b]? = W.heap[b]? := fun b hb => by rw [← hW2]; exact (World.putObj_heap_other (by have := hK b hb; omega)).trans (hbw.block b (by have := hK b hb; omega))
      rw [show W'.putObj (w.heap.size + 1) (.loop { rec .ready none with state := .busy }) = W2 from hW2]
      refine wpIn_mono (hbody _ k x W W2 _ hxk hsz (by rw [hW']; exact hW2.symm) hi2) ?_
      have fin : ∀ (jump : Option Code) (W3 : World), Aside M W2 W3 →
          (Instr.endRound (w.heap.size + 1) jump).run P W3 = .ok (.bool jump.isNone) (W3.putObj (w.heap.size + 1) (.loop (rec (if jump.isNone then .ready else .done) jump))) ∧
          W2.heap.size ≤ W3.heap.size ∧
          (W3.putObj (w.heap.size + 1) (.loop (rec (if jump.isNone then .ready else .done) jump))).heap[w.heap.size + 1]? = some (.loop (rec (if jump.isNone then .ready else .done) jump)) ∧
          (W3.putObj (w.heap.size + 1) (.loop (rec (if jump.isNone then .ready else .done) jump))).heap[w.heap.size]? = some (.deferred (some [])) ∧
          ∀ b, K b → (W3.putObj (w.heap.size + 1) (.loop (rec (if jump.isNone then .ready else .done) jump))).heap[b]? = W.heap[b]? := fun jump W3 h3 => by
        have hm : ∀ b, b = w.heap.size + 1 ∨ b = w.heap.size ∨ K b → ¬ M b := fun b hb hm => by
          have := hM b hm
          rcases hb with e | e | e
          · exact this.2.2 e
          · exact this.2.1 e
          · exact this.1 e
        have hl3 := (h3.block _ (by omega) (hm _ (.inl rfl))).trans hl2
        have hk3 := (h3.block _ (by omega) (hm _ (.inr (.inl rfl)))).trans hk2
        have := run_endRound (P := P) jump hl3
        rw [hrec] at this ⊢
        refine ⟨this, h3.size, World.putObj_heap_same (Array.getElem?_eq_some_iff.1 hl3).1, (World.putObj_heap_other (by omega)).trans hk3, fun b hb => ?_⟩
        have hb1 := hK b hb
        exact (World.putObj_heap_other (by omega)).trans ((h3.block b (by omega) (hm _ (.inr (.inr hb)))).trans (hK2 b hb))
      rintro e a3 W3 hp
      cases e with
      | normal =>
        obtain ⟨ha3, hh3, hi3⟩ := hp
        obtain ⟨hr, hs3, hl4, hk4, hK4⟩ := fin none W3 ha3
        refine ⟨_, _, hr, .inl ⟨rfl, ⟨hStep _ (hI _) _ _ hi3, by simp; omega, hl4, hk4⟩, by simp; omega, hK4, fun b o hb ho => ?_⟩⟩
        have hne : b ≠ w.heap.size + 1 := by
          rintro rfl
          rw [hl] at hb
          injection hb with hb
          subst hb
          exact hHl _ ho
        have hlt2 : b < W.heap.size := (Array.getElem?_eq_some_iff.mp hb).1
        have hb2 : W2.heap[b]? = some o := by rw [← hW2]; exact (World.putObj_heap_other hne).trans ((hbw.block b hlt2).trans hb)
        exact (World.putObj_heap_other hne).trans (hh3 b o hb2 ho)
      | ret =>
        obtain ⟨ha3, hi3⟩ := hp
        obtain ⟨hr, hs3, hl4, hk4, hK4⟩ := fin (some .ret) W3 ha3
        exact ⟨_, _, hr, .inr ⟨rfl, .ret, hStep _ (hIx _ _) _ _ hi3, hl4, hk4⟩⟩
      | exit id =>
        obtain ⟨ha3, hi3⟩ := hp
        obtain ⟨hr, hs3, hl4, hk4, hK4⟩ := fin (some (.exit id)) W3 ha3
        exact ⟨_, _, hr, .inr ⟨rfl, .exit id, hStep _ (hIx _ _) _ _ hi3, hl4, hk4⟩⟩
      | goto t =>
        obtain ⟨ha3, hi3⟩ := hp
        obtain ⟨hr, hs3, hl4, hk4, hK4⟩ := fin (some (.goto t)) W3 ha3
        exact ⟨_, _, hr, .inr ⟨rfl, .goto t, hStep _ (hIx _ _) _ _ hi3, hl4, hk4⟩⟩
      | panic ch => exact hp.elim
      | outgrown => exact hp.elim
    · -- behind the iterator
      rintro e W2 (⟨hf, ⟨v, rfl⟩, hi, hsz, hl, hk⟩ | ⟨⟨v, rfl⟩, k, hk0, c, hi, hl, hk⟩ | ⟨ch, hf, rfl, hi, hsz, hl, hk⟩)
      · rw [List.length_map] at hi
        refine ⟨none, _, ?_, hdone hf _ (hStep _ (hI _) _ (.loop { rec .ready none with state := .exhausted }) hi) (by simp; omega) ((World.putObj_heap_other (by omega)).trans hk)⟩
        have := run_endLoop (P := P) hl (by rw [hrec]; simp)
        rw [hrec] at this ⊢; exact this
      · rw [List.length_map] at hk0
        refine ⟨some c, _, ?_, (wpIn_wide (n := 0)).2 (hstop c k _ hk0 (hStep _ (hIx c k) _ (.loop { rec .done (some c) with state := .exhausted }) hi) ((World.putObj_heap_other (by omega)).trans hk))⟩
        have := run_endLoop (P := P) hl (by rw [hrec]; simp)
        rw [hrec] at this ⊢; exact this
      · rw [List.length_map] at hi
        exact hpanic ch hf _ hi hk

end Go.Proofs.Ytcjgbholgbjejaa

/-
  The option that stands at a place: option.
-/
namespace Go.Proofs.Ytcjgbholgbjejaa
open Go.RowKit Go.Shelf
set_option linter.unusedVariables false
set_option linter.unusedSimpArgs false
set_option maxRecDepth 100000

theorem n2_at {b : List UInt8} {p : Nat} (h : p + 2 ≤ b.length) : nAt2 (iz b) p = (n2 b p : Int) := by
  unfold nAt2 num2 n2
  rw [iz_get b p (by omega), iz_get b (p + 1) (by omega)]
  simp only [List.getD, List.getElem?_eq_getElem (show p < b.length by omega), List.getElem?_eq_getElem (show p + 1 < b.length by omega), Option.getD_some]
  omega
theorem iz_cut2 (b : List UInt8) (p k : Nat) : cutL (iz b) p k = iz ((b.drop p).take k) := by
  unfold cutL iz
  rw [← List.map_drop, ← List.map_take]
theorem own_aside {G : Nat → Prop} {w w' : World} {g : Nat} {v : Value} {l : List Int} (h : Own w g v l) (ha : Aside G w w') (hl : g < w.heap.size) (hG : ¬ G g) : Own w' g v l := by
  rcases h with h | ⟨h1, h2⟩
  · exact .inl h
  · exact .inr ⟨h1, (ha.block g hl hG).trans h2⟩
theorem own_shape {w : World} {g : Nat} {v : Value} {l : List Int} (h : Own w g v l) : ∃ a c, v = .slice a l.length c := by
  rcases h with ⟨rfl, rfl⟩ | ⟨rfl, _⟩
  · exact ⟨_, _, rfl⟩
  · exact ⟨_, _, rfl⟩
theorem n2_lt (b : List UInt8) (p : Nat) : n2 b p ≤ 65535 := by
  unfold n2
  have h1 := (b.getD p 0).toNat_lt
  have h2 := (b.getD (p + 1) 0).toNat_lt
  omega
theorem get_at {b : List UInt8} {p : Nat} (hl : b.length ≤ 1000000) (h : p + 2 ≤ b.length) (wx : World) {lo hi : Nat} {v : Value} (hs : Sl wx lo hi v (iz b)) (hhi : hi ≤ wx.heap.size) :
    Calls Try.prog 62 #[v, .int .i64 p] wx (GetPost wx (n2 b p) ((p + 2 : Nat) : Int) 0 0) := by
  have := get16_any hs (iz_byte b) (by rw [iz_len]; exact hl) hhi p
  rw [iz_len] at this
  have e1 : getF 2 b.length p (nAt2 (iz b) (p : Int).toNat) = n2 b p := by unfold getF; rw [if_pos (by omega), Int.toNat_natCast, n2_at h]
  have e2 : getF 2 b.length p (p + 2) = ((p + 2 : Nat) : Int) := by unfold getF; rw [if_pos (by omega)]; omega
  have e3 : getE 2 b.length p = 0 := by unfold getE; rw [if_neg (by omega), if_neg (by omega)]
  have e4 : getA 2 b.length p = 0 := by unfold getA; rw [if_neg (by omega)]
  rw [e1, e2, e3, e4] at this
  exact this
theorem get_no {b : List UInt8} {p : Nat} (hl : b.length ≤ 1000000) (h0 : p ≤ b.length) (h : b.length < p + 2) (wx : World) {lo hi : Nat} {v : Value} (hs : Sl wx lo hi v (iz b)) (hhi : hi ≤ wx.heap.size) :
    Calls Try.prog 62 #[v, .int .i64 p] wx (GetPost wx 0 0 4 b.length) := by
  have := get16_any hs (iz_byte b) (by rw [iz_len]; exact hl) hhi p
  rw [iz_len] at this
  have e1 : ∀ x, getF 2 b.length p x = 0 := fun x => by unfold getF; rw [if_neg (by omega)]
  have e3 : getE 2 b.length p = 4 := by unfold getE; rw [if_neg (by omega), if_pos (by omega)]
  have e4 : getA 2 b.length p = b.length := by unfold getA; rw [if_pos (by omega)]
  rw [e1, e1, e3, e4] at this
  exact this

/-- What reading an option tells. -/
def otV : OtR → Value
  | .ok x q => .tuple #[.agg #[.int .i64 x.c, .string (bs x.d)], .int .i64 q, .agg #[.int .i64 0, .int .i64 0]]
  | .bad a => .tuple #[.agg #[.int .i64 0, .string ⟨#[]⟩], .int .i64 0, .agg #[.int .i64 4, .int .i64 a]]

/-- The boxes of option's answer. -/
structure Op3 (w wr : World) (N g : Nat) (F A : Int) : Prop where
  bel : Below N w wr
  o : Cel wr N [.int .i64 0, .string ⟨#[]⟩]
  f : Cel wr (N + 1) [.int .i64 0, .int .i64 0]
  k : Cel wr g [.int .i64 F, .int .i64 A]
  ge : N + 2 ≤ g
section
variable {w wr w' : World} {N g : Nat} {F A : Int}
theorem Op3.lt (h : Op3 w wr N g F A) : g < wr.heap.size := h.k.lt (by simp)
theorem Op3.later (h : Op3 w wr N g F A) (hb : Below wr.heap.size wr w') : Op3 w w' N g F A :=
  ⟨below_aside h.bel (Aside.of_all hb : Aside (fun _ => False) wr w') (fun k hk => ⟨by have := h.lt; have := h.ge; omega, id⟩), h.o.below (by simp) hb, h.f.below (by simp) hb, h.k.below (by simp) hb, h.ge⟩
theorem Op3.put (h : Op3 w wr N g F A) (F' A' : Int) : Op3 w ((wr.setCell ⟨g, 0, none⟩ (.int .i64 F')).setCell ⟨g, 1, none⟩ (.int .i64 A')) N g F' A' := by
  have st : ∀ (x : World) (o : Nat) (v : Value), Aside (fun k => k = g) x (x.setCell ⟨g, o, none⟩ v) := fun x o v => Aside.setCell x (p := ⟨g, o, none⟩) v rfl
  have ha := (st wr 0 (.int .i64 F')).trans (st _ 1 (.int .i64 A'))
  have hg := h.ge
  have hl := h.lt
  exact ⟨below_aside h.bel ha (fun k hk => ⟨by omega, by omega⟩), h.o.aside (by simp) ha (by omega), h.f.aside (by simp) ha (by omega), (h.k.set (o := 0) (by simp) _).set (o := 1) (by simp) _, hg⟩
theorem op3_start (w : World) (hN : w.heap.size = N) {w1 : World} (hb : Below ((w.alloc (.cells #[.int .i64 0, .string ⟨#[]⟩] 61)).alloc (.cells #[.int .i64 0, .int .i64 0] 76)).heap.size ((w.alloc (.cells #[.int .i64 0, .string ⟨#[]⟩] 61)).alloc (.cells #[.int .i64 0, .int .i64 0] 76)) w1)
    (hg : w1.heap.size = g) (F A : Int) : Op3 w (w1.alloc (.cells #[.int .i64 F, .int .i64 A] 76)) N g F A := by
  subst hN; subst hg
  have h1 := cel_new2 w (.int .i64 0) (.string ⟨#[]⟩) 61
  have h2 := cel_new2 (w.alloc (.cells #[.int .i64 0, .string ⟨#[]⟩] 61)) (.int .i64 0) (.int .i64 0) 76
  rw [World.size_alloc] at h2
  have hb1 : Below w.heap.size w ((w.alloc (.cells #[.int .i64 0, .string ⟨#[]⟩] 61)).alloc (.cells #[.int .i64 0, .int .i64 0] 76)) := ((Below.refl _ _).alloc (Nat.le_refl _) _).alloc (by simp) _
  have hs := hb.size
  simp only [World.size_alloc] at hs
  have hb3 : Below w1.heap.size w1 (w1.alloc (.cells #[.int .i64 F, .int .i64 A] 76)) := (Below.refl _ _).alloc (Nat.le_refl _) _
  exact ⟨(bel_call hb1 hb).alloc (by omega) _, ((h1.below (by simp) ((Below.refl _ _).alloc (Nat.le_refl _) _)).below (by simp) hb).below (by simp) hb3, (h2.below (by simp) hb).below (by simp) hb3, cel_new2 w1 _ _ _, by omega⟩
/-- What is told at last. -/
theorem Op3.fin (h : Op3 w wr N g F A) (v0 v1 v2 v3 : Value) :
    Below N w ((((wr.setCell ⟨N, 0, none⟩ v0).setCell ⟨N, 1, none⟩ v1).setCell ⟨N + 1, 0, none⟩ v2).setCell ⟨N + 1, 1, none⟩ v3) ∧
    Cel ((((wr.setCell ⟨N, 0, none⟩ v0).setCell ⟨N, 1, none⟩ v1).setCell ⟨N + 1, 0, none⟩ v2).setCell ⟨N + 1, 1, none⟩ v3) N [v0, v1] ∧
    Cel ((((wr.setCell ⟨N, 0, none⟩ v0).setCell ⟨N, 1, none⟩ v1).setCell ⟨N + 1, 0, none⟩ v2).setCell ⟨N + 1, 1, none⟩ v3) (N + 1) [v2, v3] := by
  have st : ∀ (x : World) (q o : Nat) (v : Value), Aside (fun k => k = q) x (x.setCell ⟨q, o, none⟩ v) := fun x q o v => Aside.setCell x (p := ⟨q, o, none⟩) v rfl
  have ha := ((st wr N 0 v0).trans (st _ N 1 v1))
  have ha2 := ((st ((wr.setCell ⟨N, 0, none⟩ v0).setCell ⟨N, 1, none⟩ v1) (N + 1) 0 v2).trans (st _ (N + 1) 1 v3))
  have hg := h.ge
  have hl := h.lt
  have hs := ha.size
  exact ⟨below_aside (below_aside h.bel ha (fun k hk => ⟨by omega, by omega⟩)) ha2 (fun k hk => ⟨by omega, by omega⟩), ((h.o.set (o := 0) (by simp) v0).set (o := 1) (by simp) v1).aside (by simp) ha2 (by omega), ((h.f.aside (by simp) ha (by omega)).set (o := 0) (by simp) v2).set (o := 1) (by simp) v3⟩
end

set_option maxHeartbeats 600000 in
theorem option_any {w : World} {lo hi : Nat} {v : Value} {b : List UInt8} (hs : Sl w lo hi v (iz b)) (hhi : hi ≤ w.heap.size) (hl : b.length ≤ 1000000) (p : Nat) (hp : p ≤ b.length) :
    Calls Try.prog 57 #[v, .int .i64 p] w (Tells w (otV (otR b p))) := by
  obtain ⟨N, hN⟩ : ∃ N, w.heap.size = N := ⟨_, rfl⟩
  have hb0 : Below w.heap.size w ((w.alloc (.cells #[.int .i64 0, .string ⟨#[]⟩] 61)).alloc (.cells #[.int .i64 0, .int .i64 0] 76)) := ((Below.refl _ _).alloc (Nat.le_refl _) _).alloc (by simp) _
  have hs0 := hs.below hb0 hhi
  have h00 : hi ≤ ((w.alloc (.cells #[.int .i64 0, .string ⟨#[]⟩] 61)).alloc (.cells #[.int .i64 0, .int .i64 0] 76)).heap.size := Nat.le_trans hhi hb0.size
  have HS := Lib.hid (fun wx (hb : Below N w wx) => (⟨hs.below hb (by omega), Nat.le_trans (by omega : hi ≤ N) (by have := hb.size; omega)⟩ : Sl wx lo hi v (iz b) ∧ hi ≤ wx.heap.size))
  obtain ⟨va, vc, rfl, _⟩ := id hs
  rw [iz_len] at *
  by_cases c1 : b.length < p + 2
  · have hR : otR b p = .bad b.length := by unfold otR; rw [if_pos (by omega)]
    rw [hR]
    have HG := Lib.hid (get_no hl hp c1 _ hs0 h00)
    clear hb0 hs0 h00 hs
    go_enter Try.func57, Try.ntmps57
    go_wp2_with fail
    refine HG.out.mono ?_; rintro e w1 ⟨rfl, hb⟩
    obtain ⟨g, hg⟩ : ∃ g, w1.heap.size = g := ⟨_, rfl⟩
    have HP := Lib.hid (op3_start w hN hb hg 4 b.length)
    clear hb HG
    obtain ⟨k0, k1⟩ := HP.out.k.two
    obtain ⟨o0, o1⟩ := HP.out.o.two
    obtain ⟨f0, f1⟩ := HP.out.f.two
    have fo := HP.out.o.fz
    have ff := HP.out.f.fz
    have n1 : N ≠ g := by have := HP.out.ge; omega
    have n2 : g ≠ N := by have := HP.out.ge; omega
    have n3 : N + 1 ≠ g := by have := HP.out.ge; omega
    have n4 : g ≠ N + 1 := by have := HP.out.ge; omega
    go_wp2_with fail
    go_region
    go_wp2_with fail
    clear k0 k1 o0 o1 f0 f1 fo ff n1 n2 n3 n4
    obtain ⟨h1, h2, h3⟩ := HP.out.fin (.int .i64 0) (.string ⟨#[]⟩) (.int .i64 4) (.int .i64 b.length)
    obtain ⟨m0, m1⟩ := h2.two
    obtain ⟨m2, m3⟩ := h3.two
    refine bodyPost_ret (v := otV (.bad b.length)) (by unfold otV; simp [results, Try.results57, go_sem, m0, m1, m2, m3]) rfl ⟨rfl, ?_⟩
    first | exact h1.drew | (rw [hN]; exact h1.drew)
  · have HG := Lib.hid (get_at hl (by omega : p + 2 ≤ b.length) _ hs0 h00)
    clear hb0 hs0 h00 hs
    by_cases c2 : b.length < p + 4
    · have hR : otR b p = .bad b.length := by unfold otR; rw [if_pos (by omega)]
      rw [hR]
      have HG2 := Lib.hid (fun wx (hb : Below N w wx) => (by have h := get_no (b := b) (p := p + 2) hl (by omega) (by omega) wx (HS.out wx hb).1 (HS.out wx hb).2; rw [show ((p + 2 : Nat) : Int) = (p : Int) + 2 by omega] at h; exact h : Calls Try.prog 62 #[.slice va b.length vc, .int .i64 ((p : Int) + 2)] wx (GetPost wx 0 0 4 b.length)))
      go_enter Try.func57, Try.ntmps57
      go_wp2_with fail
      refine HG.out.mono ?_; rintro e w1 ⟨rfl, hb⟩
      obtain ⟨g, hg⟩ : ∃ g, w1.heap.size = g := ⟨_, rfl⟩
      have HP := Lib.hid (op3_start w hN hb hg 0 0)
      clear hb HG
      obtain ⟨x0, x1⟩ := HP.out.k.two
      have fx := HP.out.k.fz
      go_wp2_with fail
      clear x0 x1 fx
      refine (HG2.out _ HP.out.bel).mono ?_; rintro e w2 ⟨rfl, hb⟩
      replace HP := Lib.hid (HP.out.later hb)
      clear hb
      obtain ⟨x0, x1⟩ := HP.out.k.two
      have fx := HP.out.k.fz
      have HQ := Lib.hid (HP.out.put 4 b.length)
      obtain ⟨y0, y1⟩ := HQ.out.k.two
      go_wp2_with fail
      obtain ⟨WE, hWE⟩ : ∃ X, (w2.setCell ⟨g, 0, none⟩ (.int .i64 4)).setCell ⟨g, 1, none⟩ (.int .i64 b.length) = X := ⟨_, rfl⟩
      rw [hWE] at HQ ⊢
      clear hWE x0 x1 fx y0 y1 HP
      have HP := HQ
      clear HQ
      obtain ⟨k0, k1⟩ := HP.out.k.two
      obtain ⟨o0, o1⟩ := HP.out.o.two
      obtain ⟨f0, f1⟩ := HP.out.f.two
      have fo := HP.out.o.fz
      have ff := HP.out.f.fz
      have n1 : N ≠ g := by have := HP.out.ge; omega
      have n2 : g ≠ N := by have := HP.out.ge; omega
      have n3 : N + 1 ≠ g := by have := HP.out.ge; omega
      have n4 : g ≠ N + 1 := by have := HP.out.ge; omega
      go_wp2_with fail
      go_region
      go_wp2_with fail
      clear k0 k1 o0 o1 f0 f1 fo ff n1 n2 n3 n4
      obtain ⟨h1, h2, h3⟩ := HP.out.fin (.int .i64 0) (.string ⟨#[]⟩) (.int .i64 4) (.int .i64 b.length)
      obtain ⟨m0, m1⟩ := h2.two
      obtain ⟨m2, m3⟩ := h3.two
      refine bodyPost_ret (v := otV (.bad b.length)) (by unfold otV; simp [results, Try.results57, go_sem, m0, m1, m2, m3]) rfl ⟨rfl, ?_⟩
      first | exact h1.drew | (rw [hN]; exact h1.drew)
    · have HG2 := Lib.hid (fun wx (hb : Below N w wx) => (by have h := get_at (b := b) (p := p + 2) hl (by omega) wx (HS.out wx hb).1 (HS.out wx hb).2; rw [show ((p + 2 + 2 : Nat) : Int) = (p : Int) + 2 + 2 by omega] at h; rw [show ((p + 2 : Nat) : Int) = (p : Int) + 2 by omega] at h; exact h : Calls Try.prog 62 #[.slice va b.length vc, .int .i64 ((p : Int) + 2)] wx (GetPost wx (n2 b (p + 2)) ((p : Int) + 2 + 2) 0 0)))
      obtain ⟨n, hn⟩ : ∃ n, n2 b (p + 2) = n := ⟨_, rfl⟩
      rw [hn] at HG2
      have hn9 := n2_lt b (p + 2)
      rw [hn] at hn9
      by_cases c3 : b.length < p + 4 + n
      · have hR : otR b p = .bad b.length := by unfold otR; rw [if_neg (by omega), hn, if_pos c3]
        rw [hR]
        have HG3 := Lib.hid (fun wx (hb : Below N w wx) => (by have h := bytes_at_no (iz b) (p + 4) n (by rw [iz_len]; exact hl) (by rw [iz_len]; omega) (by rw [iz_len]; omega) (by omega) wx (HS.out wx hb).1; rw [iz_len] at h; rw [show ((p + 4 : Nat) : Int) = (p : Int) + 2 + 2 by omega] at h; exact h : Calls Try.prog 63 #[.slice va b.length vc, .int .i64 ((p : Int) + 2 + 2), .int .i64 n] wx (BytesPost wx [] 0 4 b.length)))
        go_enter Try.func57, Try.ntmps57
        go_wp2_with fail
        refine HG.out.mono ?_; rintro e w1 ⟨rfl, hb⟩
        obtain ⟨g, hg⟩ : ∃ g, w1.heap.size = g := ⟨_, rfl⟩
        have HP := Lib.hid (op3_start w hN hb hg 0 0)
        clear hb HG
        obtain ⟨x0, x1⟩ := HP.out.k.two
        have fx := HP.out.k.fz
        go_wp2_with fail
        clear x0 x1 fx
        refine (HG2.out _ HP.out.bel).mono ?_; rintro e w2 ⟨rfl, hb⟩
        replace HP := Lib.hid (HP.out.later hb)
        clear hb
        obtain ⟨x0, x1⟩ := HP.out.k.two
        have fx := HP.out.k.fz
        have HQ := Lib.hid (HP.out.put 0 0)
        obtain ⟨y0, y1⟩ := HQ.out.k.two
        go_wp2_with fail
        obtain ⟨WF, hWF⟩ : ∃ X, (w2.setCell ⟨g, 0, none⟩ (.int .i64 0)).setCell ⟨g, 1, none⟩ (.int .i64 0) = X := ⟨_, rfl⟩
        rw [hWF] at HQ ⊢
        clear hWF x0 x1 fx y0 y1 HP
        have HP := HQ
        clear HQ
        refine (HG3.out _ HP.out.bel).mono ?_; rintro e w4 ⟨v4, g4, rfl, ho4, _, _, hb⟩
        obtain ⟨a4, c4, rfl⟩ : ∃ a c, v4 = .slice a 0 c := by
          rcases ho4 with ⟨rfl, _⟩ | ⟨rfl, _⟩
          · exact ⟨_, _, rfl⟩
          · exact ⟨_, _, rfl⟩
        clear ho4
        replace HP := Lib.hid (HP.out.later hb)
        clear hb
        obtain ⟨x0, x1⟩ := HP.out.k.two
        have fx := HP.out.k.fz
        have HQ := Lib.hid (HP.out.put 4 b.length)
        obtain ⟨y0, y1⟩ := HQ.out.k.two
        go_wp2_with fail
        obtain ⟨WE, hWE⟩ : ∃ X, (w4.setCell ⟨g, 0, none⟩ (.int .i64 4)).setCell ⟨g, 1, none⟩ (.int .i64 b.length) = X := ⟨_, rfl⟩
        rw [hWE] at HQ ⊢
        clear hWE x0 x1 fx y0 y1 HP
        have HP := HQ
        clear HQ
        obtain ⟨k0, k1⟩ := HP.out.k.two
        obtain ⟨o0, o1⟩ := HP.out.o.two
        obtain ⟨f0, f1⟩ := HP.out.f.two
        have fo := HP.out.o.fz
        have ff := HP.out.f.fz
        have n1 : N ≠ g := by have := HP.out.ge; omega
        have n2 : g ≠ N := by have := HP.out.ge; omega
        have n3 : N + 1 ≠ g := by have := HP.out.ge; omega
        have n4 : g ≠ N + 1 := by have := HP.out.ge; omega
        go_wp2_with fail
        go_region
        go_wp2_with fail
        clear k0 k1 o0 o1 f0 f1 fo ff n1 n2 n3 n4
        obtain ⟨h1, h2, h3⟩ := HP.out.fin (.int .i64 0) (.string ⟨#[]⟩) (.int .i64 4) (.int .i64 b.length)
        obtain ⟨m0, m1⟩ := h2.two
        obtain ⟨m2, m3⟩ := h3.two
        refine bodyPost_ret (v := otV (.bad b.length)) (by unfold otV; simp [results, Try.results57, go_sem, m0, m1, m2, m3]) rfl ⟨rfl, ?_⟩
        first | exact h1.drew | (rw [hN]; exact h1.drew)
      · have hR : otR b p = .ok ⟨n2 b p, (b.drop (p + 4)).take n⟩ (p + 4 + n) := by unfold otR; rw [if_neg (by omega), hn, if_neg c3]
        rw [hR]
        have HG3 := Lib.hid (fun wx (hb : Below N w wx) => (by have h := bytes_at (iz b) (p + 4) n (by rw [iz_len]; exact hl) (by rw [iz_len]; omega) wx (HS.out wx hb).1; rw [iz_cut2] at h; rw [show ((p + 4 : Nat) : Int) = (p : Int) + 2 + 2 by omega] at h; exact h : Calls Try.prog 63 #[.slice va b.length vc, .int .i64 ((p : Int) + 2 + 2), .int .i64 n] wx (BytesPost wx (iz ((b.drop (p + 4)).take n)) ((p : Int) + 2 + 2 + n) 0 0)))
        go_enter Try.func57, Try.ntmps57
        go_wp2_with fail
        refine HG.out.mono ?_; rintro e w1 ⟨rfl, hb⟩
        obtain ⟨g, hg⟩ : ∃ g, w1.heap.size = g := ⟨_, rfl⟩
        have HP := Lib.hid (op3_start w hN hb hg 0 0)
        clear hb HG
        obtain ⟨x0, x1⟩ := HP.out.k.two
        have fx := HP.out.k.fz
        go_wp2_with fail
        clear x0 x1 fx
        refine (HG2.out _ HP.out.bel).mono ?_; rintro e w2 ⟨rfl, hb⟩
        replace HP := Lib.hid (HP.out.later hb)
        clear hb
        obtain ⟨x0, x1⟩ := HP.out.k.two
        have fx := HP.out.k.fz
        have HQ := Lib.hid (HP.out.put 0 0)
        obtain ⟨y0, y1⟩ := HQ.out.k.two
        go_wp2_with fail
        obtain ⟨WF, hWF⟩ : ∃ X, (w2.setCell ⟨g, 0, none⟩ (.int .i64 0)).setCell ⟨g, 1, none⟩ (.int .i64 0) = X := ⟨_, rfl⟩
        rw [hWF] at HQ ⊢
        clear hWF x0 x1 fx y0 y1 HP
        have HP := HQ
        clear HQ
        refine (HG3.out _ HP.out.bel).mono ?_; rintro e w4 ⟨v4, g4, rfl, ho4, hg4, hg5, hb⟩
        obtain ⟨D, hD⟩ : ∃ D, (b.drop (p + 4)).take n = D := ⟨_, rfl⟩
        rw [hD] at ho4 ⊢
        have st : ∀ (x : World) (o : Nat) (v : Value), Aside (fun k => k = g) x (x.setCell ⟨g, o, none⟩ v) := fun x o v => Aside.setCell x (p := ⟨g, o, none⟩) v rfl
        have ho5 := own_aside ho4 ((st w4 0 (.int .i64 0)).trans (st _ 1 (.int .i64 0))) hg5 (by have := HP.out.lt; omega)
        have hconv := conv_sl ho5.sl
        rw [str_iz] at hconv
        obtain ⟨a4, c4, rfl⟩ := own_shape ho4
        rw [iz_len] at hconv
        try rw [iz_len]
        clear ho4 hg4 hg5 st ho5
        replace HP := Lib.hid (HP.out.later hb)
        clear hb
        have HQ := Lib.hid (HP.out.put 0 0)
        obtain ⟨x0, x1⟩ := HP.out.k.two
        obtain ⟨o0, o1⟩ := HP.out.o.two
        obtain ⟨f0, f1⟩ := HP.out.f.two
        have fx := HP.out.k.fz
        have fo := HP.out.o.fz
        have ff := HP.out.f.fz
        have n1 : N ≠ g := by have := HP.out.ge; omega
        have n2' : g ≠ N := by have := HP.out.ge; omega
        have n3 : N + 1 ≠ g := by have := HP.out.ge; omega
        have n4 : g ≠ N + 1 := by have := HP.out.ge; omega
        go_wp2_with fail
        obtain ⟨WE, hWE⟩ : ∃ X, (w4.setCell ⟨g, 0, none⟩ (.int .i64 0)).setCell ⟨g, 1, none⟩ (.int .i64 0) = X := ⟨_, rfl⟩
        rw [hWE] at HQ ⊢
        clear hWE x0 x1 fx o0 o1 f0 f1 fo ff n1 n2' n3 n4 hconv HP
        have HP := HQ
        clear HQ
        obtain ⟨h1, h2, h3⟩ := HP.out.fin (.int .i64 (n2 b p)) (.string (bs D)) (.int .i64 0) (.int .i64 0)
        obtain ⟨m0, m1⟩ := h2.two
        obtain ⟨m2, m3⟩ := h3.two
        have hq : (p : Int) + 2 + 2 + n = ((p + 4 + n : Nat) : Int) := by omega
        refine bodyPost_ret (v := .tuple #[.agg #[.int .i64 (n2 b p), .string (bs D)], .int .i64 ((p : Int) + 2 + 2 + n), .agg #[.int .i64 0, .int .i64 0]]) (by simp [results, Try.results57, go_sem, m0, m1, m2, m3]) rfl ⟨by first | (rw [hq]; rfl) | (rw [hq, ← hD]; rfl), ?_⟩
        first | exact h1 | (rw [hN]; exact h1)
end Go.Proofs.Ytcjgbholgbjejaa

/-
  The options that stand in bytes, one behind the other: options, and what it yields.
-/
namespace Go.Proofs.Ytcjgbholgbjejaa
open Go.RowKit Go.Shelf
set_option linter.unusedVariables false
set_option linter.unusedSimpArgs false
set_option maxRecDepth 100000

/-- What is yielded: an option, and a fault. -/
structure Yo where
  c : Int
  d : List UInt8
  f : Int
  a : Int
def encY (y : Yo) : Array Value := #[.agg #[.int .i64 y.c, .string (bs y.d)], .agg #[.int .i64 y.f, .int .i64 y.a]]
def yOk (x : Ot) : Yo := ⟨x.c, x.d, 0, 0⟩
def yBad (a : Nat) : Yo := ⟨0, [], 4, a⟩
def yl (b : List UInt8) (n p : Nat) : List Yo := (otsR b n p).1.map yOk ++ (if (otsR b n p).2 = true then [] else [yBad b.length])
theorem yl_end {b : List UInt8} {n p : Nat} (h : b.length ≤ p) : yl b n p = [] := by
  unfold yl
  cases n with
  | zero => simp [otsR]
  | succ n => rw [otsR, if_pos h]; simp
theorem yl_bad {b : List UInt8} {n p a : Nat} (h : p < b.length) (ho : otR b p = .bad a) : yl b (n + 1) p = [yBad b.length] := by
  unfold yl
  rw [otsR, if_neg (by omega), ho]
  simp
theorem yl_ok {b : List UInt8} {n p q : Nat} {x : Ot} (h : p < b.length) (ho : otR b p = .ok x q) : yl b (n + 1) p = yOk x :: yl b n q := by
  unfold yl
  rw [otsR, if_neg (by omega), ho]
  simp
theorem otR_bad {b : List UInt8} {p a : Nat} (h : otR b p = .bad a) : a = b.length := by
  unfold otR at h
  split at h
  · injection h with h; exact h.symm
  · split at h
    · injection h with h; exact h.symm
    · cases h
theorem drop_one {α : Type} {X : List α} {k : Nat} {x : α} {r : List α} (h : X.drop k = x :: r) : X[k]? = some x ∧ X.drop (k + 1) = r ∧ k + 1 ≤ X.length := by
  have hk : k < X.length := by
    rcases Nat.lt_or_ge k X.length with h1 | h1
    · exact h1
    · rw [List.drop_of_length_le h1] at h; cases h
  rw [List.drop_eq_getElem_cons hk] at h
  injection h with h1 h2
  exact ⟨by rw [List.getElem?_eq_getElem hk, h1], h2, hk⟩
theorem drop_nil {α : Type} {X : List α} {k : Nat} (h : X.drop k = []) (hk : k ≤ X.length) : k = X.length := by
  have := congrArg List.length h
  rw [List.length_drop, List.length_nil] at this
  omega

theorem options_any (a : Option Addr) (n c : Nat) (w : World) : Calls Try.prog 48 #[.slice a n c] w fun e w' =>
    e = .returned (.func (.func 56) #[] #[.pointer (some ⟨w.heap.size, 0, none⟩)]) ∧ w' = w.alloc (.cells #[.slice a n c] 67) := by
  go_enter Try.func48, Try.ntmps48
  go_wp2
  go_ret
  exact ⟨rfl, rfl⟩

theorem sl_block {w w' : World} {lo hi : Nat} {v : Value} {l : List Int} (h : Sl w lo hi v l) (hk : ∀ b, lo ≤ b → b < hi → w'.heap[b]? = w.heap[b]?) : Sl w' lo hi v l := by
  obtain ⟨a, c, rfl, h1, h2, h3⟩ := h
  refine ⟨a, c, rfl, h1, h2, fun h0 => ?_⟩
  obtain ⟨b, off, rfl, h4, h5, h6⟩ := h3 h0
  exact ⟨b, off, rfl, h4, h5, fun j hj => (World.cell?_of_block (w := w) (w' := w') (hk b h4 h5)).trans (h6 j hj)⟩

/-- What the walk along the options wants of the world. -/
def StO (Bb lo hi : Nat) (v : Value) (b : List UInt8) (w : World) : Prop := w.cell? ⟨Bb, 0, none⟩ = some v ∧ Sl w lo hi v (iz b) ∧ hi ≤ w.heap.size ∧ Bb < w.heap.size
theorem StO.below {Bb lo hi : Nat} {v : Value} {b : List UInt8} {w w' : World} (h : StO Bb lo hi v b w) (hb : Below w.heap.size w w') : StO Bb lo hi v b w' :=
  ⟨(hb.cell (p := ⟨Bb, 0, none⟩) h.2.2.2).trans h.1, h.2.1.below hb h.2.2.1, Nat.le_trans h.2.2.1 hb.size, Nat.lt_of_lt_of_le h.2.2.2 hb.size⟩
theorem StO.kept {Bb lo hi : Nat} {v : Value} {b : List UInt8} {w w' : World} (h : StO Bb lo hi v b w) (hk : ∀ k, (k = Bb ∨ (lo ≤ k ∧ k < hi)) → w'.heap[k]? = w.heap[k]?) (hs : w.heap.size ≤ w'.heap.size) : StO Bb lo hi v b w' :=
  ⟨(World.cell?_of_block (w := w) (w' := w') (hk Bb (.inl rfl))).trans h.1, sl_block h.2.1 fun k h1 h2 => hk k (.inr ⟨h1, h2⟩), Nat.le_trans h.2.2.1 hs, Nat.lt_of_lt_of_le h.2.2.2 hs⟩

def pOf (v : Value) : Nat := match v with | .int _ n => n.toNat | _ => 0

/-- A fault in its box. -/
def IsF (o : Obj) : Prop := ∃ cs fz, o = .cells cs 76 fz

set_option maxHeartbeats 2000000 in
theorem opts_seq (b : List UInt8) (Bb lo hi : Nat) (v : Value) (hl : b.length ≤ 1000000) :
    SeqV Try.prog 56 #[.pointer (some ⟨Bb, 0, none⟩)] (fun k => k = Bb ∨ (lo ≤ k ∧ k < hi)) (fun _ => False) IsF ((yl b b.length 0).map encY) none (StO Bb lo hi v b) := by
  intro ll J Jx W hJ hY hSt h0
  show CallsIn _ _ _ _ #[.func (.yield ll) #[] #[], .pointer (some ⟨Bb, 0, none⟩)] _ _
  obtain ⟨X, hX⟩ : ∃ X, yl b b.length 0 = X := ⟨_, rfl⟩
  have H00 := Lib.hid (show yl b b.length 0 = X.drop 0 ∧ 0 ≤ X.length by exact ⟨by simpa using hX, by omega⟩)
  rw [hX] at hY ⊢
  rw [List.length_map]
  have HY := Lib.hid hY
  have HJA := Lib.hid hJ
  have HSt := Lib.hid hSt
  obtain ⟨va, vc, hv, _⟩ := id hSt.2.1
  rw [iz_len] at hv
  subst hv
  clear hY hJ hSt hX
  refine callsIn_of_wp Try.func56 rfl trivial ?_
  simp only [Try.ntmps56, List.size_toArray, List.length_cons, List.length_nil, Nat.reduceAdd, Nat.reduceSub, Array.replicate_succ,
     Array.replicate_zero, List.push_toArray, List.append_toArray, List.nil_append, List.cons_append]
  gi_wp2
  gi_loopw [3] (fun v3 wr => ∃ p k n : Nat, v3 = .int .i64 p ∧ p ≤ b.length ∧ b.length - p ≤ n ∧ Hid (yl b n p = X.drop k ∧ k ≤ X.length) ∧ Hid (StO Bb lo hi (.slice va b.length vc) b wr) ∧ Hid (J k wr)) (fun v3 wr => b.length - pOf v3)
  case atStart => exact ⟨0, 0, b.length, rfl, by omega, by omega, H00, HSt, h0⟩
  case round =>
    obtain ⟨p, k, n, rfl, hp, hn, HL, HW, HJ⟩ := hrel
    have hbc := HW.out.1
    have hbl9 : b.length ≤ 1000000 := hl
    by_cases hov : p = b.length
    · have hk : k = X.length := drop_nil (by rw [← HL.out.1]; exact yl_end (by omega)) HL.out.2
      have HK := Lib.hid hk
      have t1 : ¬ ((p : Int) < b.length) := by omega
      clear hk hov
      gi_wp2_with fail
      go_end0
      exact .inl ⟨rfl, ⟨_, rfl⟩, HK.out ▸ HJ.out⟩
    · have hpl : p < b.length := by omega
      obtain ⟨m, rfl⟩ : ∃ m, n = m + 1 := ⟨n - 1, by omega⟩
      have HO := Lib.hid (option_any HW.out.2.1 HW.out.2.2.1 hl p hp)
      have t1 : ((p : Int) < b.length) := by omega
      have hL := HL.out
      have hq9 := fun x q (e : otR b p = .ok x q) => otR_lt e
      have hbad := fun a (e : otR b p = .bad a) => otR_bad e
      have hy1 := fun a (e : otR b p = .bad a) => yl_bad (n := m) hpl e
      have hy2 := fun x q (e : otR b p = .ok x q) => yl_ok (n := m) hpl e
      obtain ⟨Y, hYY⟩ : ∃ Y, otR b p = Y := ⟨_, rfl⟩
      rw [hYY] at HO hq9 hbad hy1 hy2
      clear hYY hov
      cases Y with
      | bad a =>
        have ha := hbad a rfl
        subst ha
        rw [hy1 _ rfl] at hL
        obtain ⟨hx1, hx2, hx3⟩ := drop_one hL.1.symm
        have hke : k + 1 = X.length := drop_nil hx2 hx3
        have HX1 := Lib.hid (show (X.map encY)[k]? = some #[.agg #[.int .i64 0, .string ⟨#[]⟩], .agg #[.int .i64 4, .int .i64 b.length]] by rw [List.getElem?_map, hx1]; rfl)
        have HKE := Lib.hid hke
        have HX3 := Lib.hid hx3
        clear hL hx1 hx2 hx3 hke hq9 hbad hy1 hy2
        unfold otV at HO
        gi_wp2_with fail
        refine ⟨trivial, rfl, (callsIn_wide.2 HO.out).mono ?_⟩
        rintro e1 w2 ⟨rfl, hb⟩
        have hb3 : Below wr.heap.size wr ((w2.alloc (.cells #[.int .i64 0, .string ⟨#[]⟩] 61)).alloc (.cells #[.int .i64 4, .int .i64 b.length] 76)) := (hb.alloc hb.size _).alloc (by have := hb.size; simp; omega) _
        have HW3 := Lib.hid (HW.out.below hb3)
        have HJ3 := Lib.hid (HJA.out k wr _ HJ.out (Aside.of_all hb3 : Aside (fun _ => False) wr _))
        have hc1 := (cel_new2 w2 (.int .i64 0) (.string ⟨#[]⟩) 61).below (by simp) ((Below.refl _ _).alloc (Nat.le_refl _) (.cells #[.int .i64 4, .int .i64 b.length] 76))
        have hnew := World.alloc_heap_new (w2.alloc (.cells #[.int .i64 0, .string ⟨#[]⟩] 61)) (.cells #[.int .i64 4, .int .i64 b.length] 76)
        rw [World.size_alloc] at hnew
        obtain ⟨g, hg⟩ : ∃ g, w2.heap.size = g := ⟨_, rfl⟩
        rw [hg] at hc1 hnew
        obtain ⟨d0, d1⟩ := hc1.two
        have e0 : ((w2.alloc (.cells #[.int .i64 0, .string ⟨#[]⟩] 61)).alloc (.cells #[.int .i64 4, .int .i64 b.length] 76)).cell? ⟨g + 1, 0, none⟩ = some (.int .i64 4) := by simp [World.cell?, hnew]
        have e1 : ((w2.alloc (.cells #[.int .i64 0, .string ⟨#[]⟩] 61)).alloc (.cells #[.int .i64 4, .int .i64 b.length] 76)).cell? ⟨g + 1, 1, none⟩ = some (.int .i64 b.length) := by simp [World.cell?, hnew]
        have HNW := Lib.hid hnew
        obtain ⟨fn, tmps, assign, body, hy, hR⟩ := HY.out k _ _ HX1.out HJ3.out
        clear hb hb3 hc1 hnew
        gi_wp2_with fail
        refine ⟨rfl, hR.mono ?_⟩
        rintro e4 w4 (⟨rfl, hJ', hs, hk, hh⟩ | ⟨rfl, hJx⟩)
        · have h4 := hh _ _ HNW.out ⟨_, _, rfl⟩
          have e4 : w4.cell? ⟨g + 1, 0, none⟩ = some (.int .i64 4) := by simp [World.cell?, h4]
          have HW4 := Lib.hid (HW3.out.kept hk hs)
          have HJ' := Lib.hid hJ'
          clear hk hJ' hh h4 hs e0 e1 d0 d1 hR hy
          gi_wp2_with fail
          go_end0
          exact .inl ⟨rfl, ⟨_, rfl⟩, HKE.out ▸ HJ'.out⟩
        · have HJx := Lib.hid hJx
          clear hJx hR
          gi_wp2_with fail
          go_end0
          exact .inr (.inl ⟨⟨_, rfl⟩, k + 1, HX3.out, HJx.out⟩)
      | ok x q =>
        obtain ⟨hq1, hq2⟩ := hq9 x q rfl
        rw [hy2 _ _ rfl] at hL
        obtain ⟨hx1, hx2, hx3⟩ := drop_one hL.1.symm
        have HX1 := Lib.hid (show (X.map encY)[k]? = some #[.agg #[.int .i64 x.c, .string (bs x.d)], .agg #[.int .i64 0, .int .i64 0]] by rw [List.getElem?_map, hx1]; rfl)
        have HX2 := Lib.hid (And.intro hx2.symm hx3)
        have HX3 := Lib.hid hx3
        clear hL hx1 hx2 hx3 hq9 hbad hy1 hy2
        unfold otV at HO
        gi_wp2_with fail
        refine ⟨trivial, rfl, (callsIn_wide.2 HO.out).mono ?_⟩
        rintro e1 w2 ⟨rfl, hb⟩
        have hb3 : Below wr.heap.size wr ((w2.alloc (.cells #[.int .i64 x.c, .string (bs x.d)] 61)).alloc (.cells #[.int .i64 0, .int .i64 0] 76)) := (hb.alloc hb.size _).alloc (by have := hb.size; simp; omega) _
        have HW3 := Lib.hid (HW.out.below hb3)
        have HJ3 := Lib.hid (HJA.out k wr _ HJ.out (Aside.of_all hb3 : Aside (fun _ => False) wr _))
        have hc1 := (cel_new2 w2 (.int .i64 x.c) (.string (bs x.d)) 61).below (by simp) ((Below.refl _ _).alloc (Nat.le_refl _) (.cells #[.int .i64 0, .int .i64 0] 76))
        have hnew := World.alloc_heap_new (w2.alloc (.cells #[.int .i64 x.c, .string (bs x.d)] 61)) (.cells #[.int .i64 0, .int .i64 0] 76)
        rw [World.size_alloc] at hnew
        obtain ⟨g, hg⟩ : ∃ g, w2.heap.size = g := ⟨_, rfl⟩
        rw [hg] at hc1 hnew
        obtain ⟨d0, d1⟩ := hc1.two
        have e0 : ((w2.alloc (.cells #[.int .i64 x.c, .string (bs x.d)] 61)).alloc (.cells #[.int .i64 0, .int .i64 0] 76)).cell? ⟨g + 1, 0, none⟩ = some (.int .i64 0) := by simp [World.cell?, hnew]
        have e1 : ((w2.alloc (.cells #[.int .i64 x.c, .string (bs x.d)] 61)).alloc (.cells #[.int .i64 0, .int .i64 0] 76)).cell? ⟨g + 1, 1, none⟩ = some (.int .i64 0) := by simp [World.cell?, hnew]
        have HNW := Lib.hid hnew
        obtain ⟨fn, tmps, assign, body, hy, hR⟩ := HY.out k _ _ HX1.out HJ3.out
        clear hb hb3 hc1 hnew
        gi_wp2_with fail
        refine ⟨rfl, hR.mono ?_⟩
        rintro e4 w4 (⟨rfl, hJ', hs, hk, hh⟩ | ⟨rfl, hJx⟩)
        · have h4 := hh _ _ HNW.out ⟨_, _, rfl⟩
          have e4 : w4.cell? ⟨g + 1, 0, none⟩ = some (.int .i64 0) := by simp [World.cell?, h4]
          have HW4 := Lib.hid (HW3.out.kept hk hs)
          have HJ' := Lib.hid hJ'
          clear hk hJ' hh h4 hs e0 e1 d0 d1 hR hy
          gi_wp2_with fail
          have t3 : pOf (.int .i64 ((q : Nat) : Int)) = q := by simp [pOf]
          have t4 : pOf (.int .i64 ((p : Nat) : Int)) = p := by simp [pOf]
          refine ⟨⟨q, k + 1, m, rfl, by omega, by omega, HX2, HW4, HJ'⟩, ?_⟩
          rw [t3, t4]
          omega
        · have HJx := Lib.hid hJx
          clear hJx hR
          gi_wp2_with fail
          go_end0
          exact .inr (.inl ⟨⟨_, rfl⟩, k + 1, HX3.out, HJx.out⟩)
end Go.Proofs.Ytcjgbholgbjejaa
