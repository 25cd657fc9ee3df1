/-
  The option that stands at a place: option.
-/
import Derived.Test.YtpdaekgldgoalaaGreatV17
import Derived.Test.YtpdaekgldgoalaaGreatV00
import Derived.Test.YtpdaekgldgoalaaGreatV02
import Derived.Test.YtpdaekgldgoalaaGreatV11
namespace Go.Proofs.YtpdaekgldgoalaaGreat
open Go.RowKit Go.Shelf
set_option linter.unusedVariables false
set_option linter.unusedSimpArgs false
set_option maxRecDepth 100000

theorem n2_at {b : List UInt8} {p : Nat} (h : p + 2 ≤ b.length) : nAt2 (iz b) p = (n2 b p : Int) := by
  unfold nAt2 num2 n2
  rw [iz_get b p (by omega), iz_get b (p + 1) (by omega)]
  simp only [List.getD, List.getElem?_eq_getElem (show p < b.length by omega), List.getElem?_eq_getElem (show p + 1 < b.length by omega), Option.getD_some]
  omega
theorem iz_cut2 (b : List UInt8) (p k : Nat) : cutL (iz b) p k = iz ((b.drop p).take k) := by
  unfold cutL iz
  rw [← List.map_drop, ← List.map_take]
theorem own_aside {G : Nat → Prop} {w w' : World} {g : Nat} {v : Value} {l : List Int} (h : Own w g v l) (ha : Aside G w w') (hl : g < w.heap.size) (hG : ¬ G g) : Own w' g v l := by
  rcases h with h | ⟨h1, h2⟩
  · exact .inl h
  · exact .inr ⟨h1, (ha.block g hl hG).trans h2⟩
theorem own_shape {w : World} {g : Nat} {v : Value} {l : List Int} (h : Own w g v l) : ∃ a c, v = .slice a l.length c := by
  rcases h with ⟨rfl, rfl⟩ | ⟨rfl, _⟩
  · exact ⟨_, _, rfl⟩
  · exact ⟨_, _, rfl⟩
theorem n2_lt (b : List UInt8) (p : Nat) : n2 b p ≤ 65535 := by
  unfold n2
  have h1 := (b.getD p 0).toNat_lt
  have h2 := (b.getD (p + 1) 0).toNat_lt
  omega
theorem get_at {b : List UInt8} {p : Nat} (hl : b.length ≤ 1000000) (h : p + 2 ≤ b.length) (wx : World) {lo hi : Nat} {v : Value} (hs : Sl wx lo hi v (iz b)) (hhi : hi ≤ wx.heap.size) :
    Calls Tryz.prog 43 #[v, .int .i64 p] wx (GetPost wx (n2 b p) ((p + 2 : Nat) : Int) 0 0) := by
  have := get16_any hs (iz_byte b) (by rw [iz_len]; exact hl) hhi p
  rw [iz_len] at this
  have e1 : getF 2 b.length p (nAt2 (iz b) (p : Int).toNat) = n2 b p := by unfold getF; rw [if_pos (by omega), Int.toNat_natCast, n2_at h]
  have e2 : getF 2 b.length p (p + 2) = ((p + 2 : Nat) : Int) := by unfold getF; rw [if_pos (by omega)]; omega
  have e3 : getE 2 b.length p = 0 := by unfold getE; rw [if_neg (by omega), if_neg (by omega)]
  have e4 : getA 2 b.length p = 0 := by unfold getA; rw [if_neg (by omega)]
  rw [e1, e2, e3, e4] at this
  exact this
theorem get_no {b : List UInt8} {p : Nat} (hl : b.length ≤ 1000000) (h0 : p ≤ b.length) (h : b.length < p + 2) (wx : World) {lo hi : Nat} {v : Value} (hs : Sl wx lo hi v (iz b)) (hhi : hi ≤ wx.heap.size) :
    Calls Tryz.prog 43 #[v, .int .i64 p] wx (GetPost wx 0 0 4 b.length) := by
  have := get16_any hs (iz_byte b) (by rw [iz_len]; exact hl) hhi p
  rw [iz_len] at this
  have e1 : ∀ x, getF 2 b.length p x = 0 := fun x => by unfold getF; rw [if_neg (by omega)]
  have e3 : getE 2 b.length p = 4 := by unfold getE; rw [if_neg (by omega), if_pos (by omega)]
  have e4 : getA 2 b.length p = b.length := by unfold getA; rw [if_pos (by omega)]
  rw [e1, e1, e3, e4] at this
  exact this

/-- What reading an option tells. -/
def otV : OtR → Value
  | .ok x q => .tuple #[.agg #[.int .i64 x.c, .string (bs x.d)], .int .i64 q, .agg #[.int .i64 0, .int .i64 0]]
  | .bad a => .tuple #[.agg #[.int .i64 0, .string ⟨#[]⟩], .int .i64 0, .agg #[.int .i64 4, .int .i64 a]]

/-- The boxes of option's answer. -/
structure Op3 (w wr : World) (N g : Nat) (F A : Int) : Prop where
  bel : Below N w wr
  o : Cel wr N [.int .i64 0, .string ⟨#[]⟩]
  f : Cel wr (N + 1) [.int .i64 0, .int .i64 0]
  k : Cel wr g [.int .i64 F, .int .i64 A]
  ge : N + 2 ≤ g
section
variable {w wr w' : World} {N g : Nat} {F A : Int}
theorem Op3.lt (h : Op3 w wr N g F A) : g < wr.heap.size := h.k.lt (by simp)
theorem Op3.later (h : Op3 w wr N g F A) (hb : Below wr.heap.size wr w') : Op3 w w' N g F A :=
  ⟨below_aside h.bel (Aside.of_all hb : Aside (fun _ => False) wr w') (fun k hk => ⟨by have := h.lt; have := h.ge; omega, id⟩), h.o.below (by simp) hb, h.f.below (by simp) hb, h.k.below (by simp) hb, h.ge⟩
theorem Op3.put (h : Op3 w wr N g F A) (F' A' : Int) : Op3 w ((wr.setCell ⟨g, 0, none⟩ (.int .i64 F')).setCell ⟨g, 1, none⟩ (.int .i64 A')) N g F' A' := by
  have st : ∀ (x : World) (o : Nat) (v : Value), Aside (fun k => k = g) x (x.setCell ⟨g, o, none⟩ v) := fun x o v => Aside.setCell x (p := ⟨g, o, none⟩) v rfl
  have ha := (st wr 0 (.int .i64 F')).trans (st _ 1 (.int .i64 A'))
  have hg := h.ge
  have hl := h.lt
  exact ⟨below_aside h.bel ha (fun k hk => ⟨by omega, by omega⟩), h.o.aside (by simp) ha (by omega), h.f.aside (by simp) ha (by omega), (h.k.set (o := 0) (by simp) _).set (o := 1) (by simp) _, hg⟩
theorem op3_start (w : World) (hN : w.heap.size = N) {w1 : World} (hb : Below ((w.alloc (.cells #[.int .i64 0, .string ⟨#[]⟩] 58)).alloc (.cells #[.int .i64 0, .int .i64 0] 47)).heap.size ((w.alloc (.cells #[.int .i64 0, .string ⟨#[]⟩] 58)).alloc (.cells #[.int .i64 0, .int .i64 0] 47)) w1)
    (hg : w1.heap.size = g) (F A : Int) : Op3 w (w1.alloc (.cells #[.int .i64 F, .int .i64 A] 47)) N g F A := by
  subst hN; subst hg
  have h1 := cel_pair w (.int .i64 0) (.string ⟨#[]⟩) 58
  have h2 := cel_pair (w.alloc (.cells #[.int .i64 0, .string ⟨#[]⟩] 58)) (.int .i64 0) (.int .i64 0) 47
  rw [World.size_alloc] at h2
  have hb1 : Below w.heap.size w ((w.alloc (.cells #[.int .i64 0, .string ⟨#[]⟩] 58)).alloc (.cells #[.int .i64 0, .int .i64 0] 47)) := ((Below.refl _ _).alloc (Nat.le_refl _) _).alloc (by simp) _
  have hs := hb.size
  simp only [World.size_alloc] at hs
  have hb3 : Below w1.heap.size w1 (w1.alloc (.cells #[.int .i64 F, .int .i64 A] 47)) := (Below.refl _ _).alloc (Nat.le_refl _) _
  exact ⟨(bel_call hb1 hb).alloc (by omega) _, ((h1.below (by simp) ((Below.refl _ _).alloc (Nat.le_refl _) _)).below (by simp) hb).below (by simp) hb3, (h2.below (by simp) hb).below (by simp) hb3, cel_pair w1 _ _ _, by omega⟩
/-- What is told at last. -/
theorem Op3.fin (h : Op3 w wr N g F A) (v0 v1 v2 v3 : Value) :
    Below N w ((((wr.setCell ⟨N, 0, none⟩ v0).setCell ⟨N, 1, none⟩ v1).setCell ⟨N + 1, 0, none⟩ v2).setCell ⟨N + 1, 1, none⟩ v3) ∧
    Cel ((((wr.setCell ⟨N, 0, none⟩ v0).setCell ⟨N, 1, none⟩ v1).setCell ⟨N + 1, 0, none⟩ v2).setCell ⟨N + 1, 1, none⟩ v3) N [v0, v1] ∧
    Cel ((((wr.setCell ⟨N, 0, none⟩ v0).setCell ⟨N, 1, none⟩ v1).setCell ⟨N + 1, 0, none⟩ v2).setCell ⟨N + 1, 1, none⟩ v3) (N + 1) [v2, v3] := by
  have st : ∀ (x : World) (q o : Nat) (v : Value), Aside (fun k => k = q) x (x.setCell ⟨q, o, none⟩ v) := fun x q o v => Aside.setCell x (p := ⟨q, o, none⟩) v rfl
  have ha := ((st wr N 0 v0).trans (st _ N 1 v1))
  have ha2 := ((st ((wr.setCell ⟨N, 0, none⟩ v0).setCell ⟨N, 1, none⟩ v1) (N + 1) 0 v2).trans (st _ (N + 1) 1 v3))
  have hg := h.ge
  have hl := h.lt
  have hs := ha.size
  exact ⟨below_aside (below_aside h.bel ha (fun k hk => ⟨by omega, by omega⟩)) ha2 (fun k hk => ⟨by omega, by omega⟩), ((h.o.set (o := 0) (by simp) v0).set (o := 1) (by simp) v1).aside (by simp) ha2 (by omega), ((h.f.aside (by simp) ha (by omega)).set (o := 0) (by simp) v2).set (o := 1) (by simp) v3⟩
end

set_option maxHeartbeats 600000 in
theorem option_any {w : World} {lo hi : Nat} {v : Value} {b : List UInt8} (hs : Sl w lo hi v (iz b)) (hhi : hi ≤ w.heap.size) (hl : b.length ≤ 1000000) (p : Nat) (hp : p ≤ b.length) :
    Calls Tryz.prog 46 #[v, .int .i64 p] w (Tells w (otV (otR b p))) := by
  obtain ⟨N, hN⟩ : ∃ N, w.heap.size = N := ⟨_, rfl⟩
  have hb0 : Below w.heap.size w ((w.alloc (.cells #[.int .i64 0, .string ⟨#[]⟩] 58)).alloc (.cells #[.int .i64 0, .int .i64 0] 47)) := ((Below.refl _ _).alloc (Nat.le_refl _) _).alloc (by simp) _
  have hs0 := hs.below hb0 hhi
  have h00 : hi ≤ ((w.alloc (.cells #[.int .i64 0, .string ⟨#[]⟩] 58)).alloc (.cells #[.int .i64 0, .int .i64 0] 47)).heap.size := Nat.le_trans hhi hb0.size
  have HS := Lib.hid (fun wx (hb : Below N w wx) => (⟨hs.below hb (by omega), Nat.le_trans (by omega : hi ≤ N) (by have := hb.size; omega)⟩ : Sl wx lo hi v (iz b) ∧ hi ≤ wx.heap.size))
  obtain ⟨va, vc, rfl, _⟩ := id hs
  rw [iz_len] at *
  by_cases c1 : b.length < p + 2
  · have hR : otR b p = .bad b.length := by unfold otR; rw [if_pos (by omega)]
    rw [hR]
    have HG := Lib.hid (get_no hl hp c1 _ hs0 h00)
    clear hb0 hs0 h00 hs
    go_enter Tryz.func46, Tryz.ntmps46
    go_wp2_with fail
    refine HG.out.mono ?_; rintro e w1 ⟨rfl, hb⟩
    obtain ⟨g, hg⟩ : ∃ g, w1.heap.size = g := ⟨_, rfl⟩
    have HP := Lib.hid (op3_start w hN hb hg 4 b.length)
    clear hb HG
    obtain ⟨k0, k1⟩ := HP.out.k.two
    obtain ⟨o0, o1⟩ := HP.out.o.two
    obtain ⟨f0, f1⟩ := HP.out.f.two
    have fo := HP.out.o.fz
    have ff := HP.out.f.fz
    have n1 : N ≠ g := by have := HP.out.ge; omega
    have n2 : g ≠ N := by have := HP.out.ge; omega
    have n3 : N + 1 ≠ g := by have := HP.out.ge; omega
    have n4 : g ≠ N + 1 := by have := HP.out.ge; omega
    go_wp2_with fail
    go_region
    go_wp2_with fail
    clear k0 k1 o0 o1 f0 f1 fo ff n1 n2 n3 n4
    obtain ⟨h1, h2, h3⟩ := HP.out.fin (.int .i64 0) (.string ⟨#[]⟩) (.int .i64 4) (.int .i64 b.length)
    obtain ⟨m0, m1⟩ := h2.two
    obtain ⟨m2, m3⟩ := h3.two
    refine bodyPost_ret (v := otV (.bad b.length)) (by unfold otV; simp [results, Tryz.results46, go_sem, m0, m1, m2, m3]) rfl ⟨rfl, ?_⟩
    first | exact h1.drew | (rw [hN]; exact h1.drew)
  · have HG := Lib.hid (get_at hl (by omega : p + 2 ≤ b.length) _ hs0 h00)
    clear hb0 hs0 h00 hs
    by_cases c2 : b.length < p + 4
    · have hR : otR b p = .bad b.length := by unfold otR; rw [if_pos (by omega)]
      rw [hR]
      have HG2 := Lib.hid (fun wx (hb : Below N w wx) => (by have h := get_no (b := b) (p := p + 2) hl (by omega) (by omega) wx (HS.out wx hb).1 (HS.out wx hb).2; rw [show ((p + 2 : Nat) : Int) = (p : Int) + 2 by omega] at h; exact h : Calls Tryz.prog 43 #[.slice va b.length vc, .int .i64 ((p : Int) + 2)] wx (GetPost wx 0 0 4 b.length)))
      go_enter Tryz.func46, Tryz.ntmps46
      go_wp2_with fail
      refine HG.out.mono ?_; rintro e w1 ⟨rfl, hb⟩
      obtain ⟨g, hg⟩ : ∃ g, w1.heap.size = g := ⟨_, rfl⟩
      have HP := Lib.hid (op3_start w hN hb hg 0 0)
      clear hb HG
      obtain ⟨x0, x1⟩ := HP.out.k.two
      have fx := HP.out.k.fz
      go_wp2_with fail
      clear x0 x1 fx
      refine (HG2.out _ HP.out.bel).mono ?_; rintro e w2 ⟨rfl, hb⟩
      replace HP := Lib.hid (HP.out.later hb)
      clear hb
      obtain ⟨x0, x1⟩ := HP.out.k.two
      have fx := HP.out.k.fz
      have HQ := Lib.hid (HP.out.put 4 b.length)
      obtain ⟨y0, y1⟩ := HQ.out.k.two
      go_wp2_with fail
      obtain ⟨WE, hWE⟩ : ∃ X, (w2.setCell ⟨g, 0, none⟩ (.int .i64 4)).setCell ⟨g, 1, none⟩ (.int .i64 b.length) = X := ⟨_, rfl⟩
      rw [hWE] at HQ ⊢
      clear hWE x0 x1 fx y0 y1 HP
      have HP := HQ
      clear HQ
      obtain ⟨k0, k1⟩ := HP.out.k.two
      obtain ⟨o0, o1⟩ := HP.out.o.two
      obtain ⟨f0, f1⟩ := HP.out.f.two
      have fo := HP.out.o.fz
      have ff := HP.out.f.fz
      have n1 : N ≠ g := by have := HP.out.ge; omega
      have n2 : g ≠ N := by have := HP.out.ge; omega
      have n3 : N + 1 ≠ g := by have := HP.out.ge; omega
      have n4 : g ≠ N + 1 := by have := HP.out.ge; omega
      go_wp2_with fail
      go_region
      go_wp2_with fail
      clear k0 k1 o0 o1 f0 f1 fo ff n1 n2 n3 n4
      obtain ⟨h1, h2, h3⟩ := HP.out.fin (.int .i64 0) (.string ⟨#[]⟩) (.int .i64 4) (.int .i64 b.length)
      obtain ⟨m0, m1⟩ := h2.two
      obtain ⟨m2, m3⟩ := h3.two
      refine bodyPost_ret (v := otV (.bad b.length)) (by unfold otV; simp [results, Tryz.results46, go_sem, m0, m1, m2, m3]) rfl ⟨rfl, ?_⟩
      first | exact h1.drew | (rw [hN]; exact h1.drew)
    · have HG2 := Lib.hid (fun wx (hb : Below N w wx) => (by have h := get_at (b := b) (p := p + 2) hl (by omega) wx (HS.out wx hb).1 (HS.out wx hb).2; rw [show ((p + 2 + 2 : Nat) : Int) = (p : Int) + 2 + 2 by omega] at h; rw [show ((p + 2 : Nat) : Int) = (p : Int) + 2 by omega] at h; exact h : Calls Tryz.prog 43 #[.slice va b.length vc, .int .i64 ((p : Int) + 2)] wx (GetPost wx (n2 b (p + 2)) ((p : Int) + 2 + 2) 0 0)))
      obtain ⟨n, hn⟩ : ∃ n, n2 b (p + 2) = n := ⟨_, rfl⟩
      rw [hn] at HG2
      have hn9 := n2_lt b (p + 2)
      rw [hn] at hn9
      by_cases c3 : b.length < p + 4 + n
      · have hR : otR b p = .bad b.length := by unfold otR; rw [if_neg (by omega), hn, if_pos c3]
        rw [hR]
        have HG3 := Lib.hid (fun wx (hb : Below N w wx) => (by have h := bytes_at_no (iz b) (p + 4) n (by rw [iz_len]; exact hl) (by rw [iz_len]; omega) (by rw [iz_len]; omega) (by omega) wx (HS.out wx hb).1; rw [iz_len] at h; rw [show ((p + 4 : Nat) : Int) = (p : Int) + 2 + 2 by omega] at h; exact h : Calls Tryz.prog 50 #[.slice va b.length vc, .int .i64 ((p : Int) + 2 + 2), .int .i64 n] wx (BytesPost wx [] 0 4 b.length)))
        go_enter Tryz.func46, Tryz.ntmps46
        go_wp2_with fail
        refine HG.out.mono ?_; rintro e w1 ⟨rfl, hb⟩
        obtain ⟨g, hg⟩ : ∃ g, w1.heap.size = g := ⟨_, rfl⟩
        have HP := Lib.hid (op3_start w hN hb hg 0 0)
        clear hb HG
        obtain ⟨x0, x1⟩ := HP.out.k.two
        have fx := HP.out.k.fz
        go_wp2_with fail
        clear x0 x1 fx
        refine (HG2.out _ HP.out.bel).mono ?_; rintro e w2 ⟨rfl, hb⟩
        replace HP := Lib.hid (HP.out.later hb)
        clear hb
        obtain ⟨x0, x1⟩ := HP.out.k.two
        have fx := HP.out.k.fz
        have HQ := Lib.hid (HP.out.put 0 0)
        obtain ⟨y0, y1⟩ := HQ.out.k.two
        go_wp2_with fail
        obtain ⟨WF, hWF⟩ : ∃ X, (w2.setCell ⟨g, 0, none⟩ (.int .i64 0)).setCell ⟨g, 1, none⟩ (.int .i64 0) = X := ⟨_, rfl⟩
        rw [hWF] at HQ ⊢
        clear hWF x0 x1 fx y0 y1 HP
        have HP := HQ
        clear HQ
        refine (HG3.out _ HP.out.bel).mono ?_; rintro e w4 ⟨v4, g4, rfl, ho4, _, _, hb⟩
        obtain ⟨a4, c4, rfl⟩ : ∃ a c, v4 = .slice a 0 c := by
          rcases ho4 with ⟨rfl, _⟩ | ⟨rfl, _⟩
          · exact ⟨_, _, rfl⟩
          · exact ⟨_, _, rfl⟩
        clear ho4
        replace HP := Lib.hid (HP.out.later hb)
        clear hb
        obtain ⟨x0, x1⟩ := HP.out.k.two
        have fx := HP.out.k.fz
        have HQ := Lib.hid (HP.out.put 4 b.length)
        obtain ⟨y0, y1⟩ := HQ.out.k.two
        go_wp2_with fail
        obtain ⟨WE, hWE⟩ : ∃ X, (w4.setCell ⟨g, 0, none⟩ (.int .i64 4)).setCell ⟨g, 1, none⟩ (.int .i64 b.length) = X := ⟨_, rfl⟩
        rw [hWE] at HQ ⊢
        clear hWE x0 x1 fx y0 y1 HP
        have HP := HQ
        clear HQ
        obtain ⟨k0, k1⟩ := HP.out.k.two
        obtain ⟨o0, o1⟩ := HP.out.o.two
        obtain ⟨f0, f1⟩ := HP.out.f.two
        have fo := HP.out.o.fz
        have ff := HP.out.f.fz
        have n1 : N ≠ g := by have := HP.out.ge; omega
        have n2 : g ≠ N := by have := HP.out.ge; omega
        have n3 : N + 1 ≠ g := by have := HP.out.ge; omega
        have n4 : g ≠ N + 1 := by have := HP.out.ge; omega
        go_wp2_with fail
        go_region
        go_wp2_with fail
        clear k0 k1 o0 o1 f0 f1 fo ff n1 n2 n3 n4
        obtain ⟨h1, h2, h3⟩ := HP.out.fin (.int .i64 0) (.string ⟨#[]⟩) (.int .i64 4) (.int .i64 b.length)
        obtain ⟨m0, m1⟩ := h2.two
        obtain ⟨m2, m3⟩ := h3.two
        refine bodyPost_ret (v := otV (.bad b.length)) (by unfold otV; simp [results, Tryz.results46, go_sem, m0, m1, m2, m3]) rfl ⟨rfl, ?_⟩
        first | exact h1.drew | (rw [hN]; exact h1.drew)
      · have hR : otR b p = .ok ⟨n2 b p, (b.drop (p + 4)).take n⟩ (p + 4 + n) := by unfold otR; rw [if_neg (by omega), hn, if_neg c3]
        rw [hR]
        have HG3 := Lib.hid (fun wx (hb : Below N w wx) => (by have h := bytes_at (iz b) (p + 4) n (by rw [iz_len]; exact hl) (by rw [iz_len]; omega) wx (HS.out wx hb).1; rw [iz_cut2] at h; rw [show ((p + 4 : Nat) : Int) = (p : Int) + 2 + 2 by omega] at h; exact h : Calls Tryz.prog 50 #[.slice va b.length vc, .int .i64 ((p : Int) + 2 + 2), .int .i64 n] wx (BytesPost wx (iz ((b.drop (p + 4)).take n)) ((p : Int) + 2 + 2 + n) 0 0)))
        go_enter Tryz.func46, Tryz.ntmps46
        go_wp2_with fail
        refine HG.out.mono ?_; rintro e w1 ⟨rfl, hb⟩
        obtain ⟨g, hg⟩ : ∃ g, w1.heap.size = g := ⟨_, rfl⟩
        have HP := Lib.hid (op3_start w hN hb hg 0 0)
        clear hb HG
        obtain ⟨x0, x1⟩ := HP.out.k.two
        have fx := HP.out.k.fz
        go_wp2_with fail
        clear x0 x1 fx
        refine (HG2.out _ HP.out.bel).mono ?_; rintro e w2 ⟨rfl, hb⟩
        replace HP := Lib.hid (HP.out.later hb)
        clear hb
        obtain ⟨x0, x1⟩ := HP.out.k.two
        have fx := HP.out.k.fz
        have HQ := Lib.hid (HP.out.put 0 0)
        obtain ⟨y0, y1⟩ := HQ.out.k.two
        go_wp2_with fail
        obtain ⟨WF, hWF⟩ : ∃ X, (w2.setCell ⟨g, 0, none⟩ (.int .i64 0)).setCell ⟨g, 1, none⟩ (.int .i64 0) = X := ⟨_, rfl⟩
        rw [hWF] at HQ ⊢
        clear hWF x0 x1 fx y0 y1 HP
        have HP := HQ
        clear HQ
        refine (HG3.out _ HP.out.bel).mono ?_; rintro e w4 ⟨v4, g4, rfl, ho4, hg4, hg5, hb⟩
        obtain ⟨D, hD⟩ : ∃ D, (b.drop (p + 4)).take n = D := ⟨_, rfl⟩
        rw [hD] at ho4 ⊢
        have st : ∀ (x : World) (o : Nat) (v : Value), Aside (fun k => k = g) x (x.setCell ⟨g, o, none⟩ v) := fun x o v => Aside.setCell x (p := ⟨g, o, none⟩) v rfl
        have ho5 := own_aside ho4 ((st w4 0 (.int .i64 0)).trans (st _ 1 (.int .i64 0))) hg5 (by have := HP.out.lt; omega)
        have hconv := conv_sl ho5.sl
        rw [str_iz] at hconv
        obtain ⟨a4, c4, rfl⟩ := own_shape ho4
        rw [iz_len] at hconv
        try rw [iz_len]
        clear ho4 hg4 hg5 st ho5
        replace HP := Lib.hid (HP.out.later hb)
        clear hb
        have HQ := Lib.hid (HP.out.put 0 0)
        obtain ⟨x0, x1⟩ := HP.out.k.two
        obtain ⟨o0, o1⟩ := HP.out.o.two
        obtain ⟨f0, f1⟩ := HP.out.f.two
        have fx := HP.out.k.fz
        have fo := HP.out.o.fz
        have ff := HP.out.f.fz
        have n1 : N ≠ g := by have := HP.out.ge; omega
        have n2' : g ≠ N := by have := HP.out.ge; omega
        have n3 : N + 1 ≠ g := by have := HP.out.ge; omega
        have n4 : g ≠ N + 1 := by have := HP.out.ge; omega
        go_wp2_with fail
        obtain ⟨WE, hWE⟩ : ∃ X, (w4.setCell ⟨g, 0, none⟩ (.int .i64 0)).setCell ⟨g, 1, none⟩ (.int .i64 0) = X := ⟨_, rfl⟩
        rw [hWE] at HQ ⊢
        clear hWE x0 x1 fx o0 o1 f0 f1 fo ff n1 n2' n3 n4 hconv HP
        have HP := HQ
        clear HQ
        obtain ⟨h1, h2, h3⟩ := HP.out.fin (.int .i64 (n2 b p)) (.string (bs D)) (.int .i64 0) (.int .i64 0)
        obtain ⟨m0, m1⟩ := h2.two
        obtain ⟨m2, m3⟩ := h3.two
        have hq : (p : Int) + 2 + 2 + n = ((p + 4 + n : Nat) : Int) := by omega
        refine bodyPost_ret (v := .tuple #[.agg #[.int .i64 (n2 b p), .string (bs D)], .int .i64 ((p : Int) + 2 + 2 + n), .agg #[.int .i64 0, .int .i64 0]]) (by simp [results, Tryz.results46, go_sem, m0, m1, m2, m3]) rfl ⟨by first | (rw [hq]; rfl) | (rw [hq, ← hD]; rfl), ?_⟩
        first | exact h1 | (rw [hN]; exact h1)
end Go.Proofs.YtpdaekgldgoalaaGreat

/-
  The options that stand in bytes, one behind the other: options, and what it yields.
-/
namespace Go.Proofs.YtpdaekgldgoalaaGreat
open Go.RowKit Go.Shelf
set_option linter.unusedVariables false
set_option linter.unusedSimpArgs false
set_option maxRecDepth 100000

/-- What is yielded: an option, and a fault. -/
structure Yo where
  c : Int
  d : List UInt8
  f : Int
  a : Int
def encY (y : Yo) : Array Value := #[.agg #[.int .i64 y.c, .string (bs y.d)], .agg #[.int .i64 y.f, .int .i64 y.a]]
def yOk (x : Ot) : Yo := ⟨x.c, x.d, 0, 0⟩
def yBad (a : Nat) : Yo := ⟨0, [], 4, a⟩
def yl (b : List UInt8) (n p : Nat) : List Yo := (otsR b n p).1.map yOk ++ (if (otsR b n p).2 = true then [] else [yBad b.length])
theorem yl_end {b : List UInt8} {n p : Nat} (h : b.length ≤ p) : yl b n p = [] := by
  unfold yl
  cases n with
  | zero => simp [otsR]
  | succ n => rw [otsR, if_pos h]; simp
theorem yl_bad {b : List UInt8} {n p a : Nat} (h : p < b.length) (ho : otR b p = .bad a) : yl b (n + 1) p = [yBad b.length] := by
  unfold yl
  rw [otsR, if_neg (by omega), ho]
  simp
theorem yl_ok {b : List UInt8} {n p q : Nat} {x : Ot} (h : p < b.length) (ho : otR b p = .ok x q) : yl b (n + 1) p = yOk x :: yl b n q := by
  unfold yl
  rw [otsR, if_neg (by omega), ho]
  simp
theorem otR_bad {b : List UInt8} {p a : Nat} (h : otR b p = .bad a) : a = b.length := by
  unfold otR at h
  split at h
  · injection h with h; exact h.symm
  · split at h
    · injection h with h; exact h.symm
    · cases h
theorem drop_one {α : Type} {X : List α} {k : Nat} {x : α} {r : List α} (h : X.drop k = x :: r) : X[k]? = some x ∧ X.drop (k + 1) = r ∧ k + 1 ≤ X.length := by
  have hk : k < X.length := by
    rcases Nat.lt_or_ge k X.length with h1 | h1
    · exact h1
    · rw [List.drop_of_length_le h1] at h; cases h
  rw [List.drop_eq_getElem_cons hk] at h
  injection h with h1 h2
  exact ⟨by rw [List.getElem?_eq_getElem hk, h1], h2, hk⟩
theorem drop_nil {α : Type} {X : List α} {k : Nat} (h : X.drop k = []) (hk : k ≤ X.length) : k = X.length := by
  have := congrArg List.length h
  rw [List.length_drop, List.length_nil] at this
  omega

theorem options_any (a : Option Addr) (n c : Nat) (w : World) : Calls Tryz.prog 39 #[.slice a n c] w fun e w' =>
    e = .returned (.func (.func 45) #[] #[.pointer (some ⟨w.heap.size, 0, none⟩)]) ∧ w' = w.alloc (.cells #[.slice a n c] 43) := by
  go_enter Tryz.func39, Tryz.ntmps39
  go_wp2
  go_ret
  exact ⟨rfl, rfl⟩

theorem sl_block {w w' : World} {lo hi : Nat} {v : Value} {l : List Int} (h : Sl w lo hi v l) (hk : ∀ b, lo ≤ b → b < hi → w'.heap[b]? = w.heap[b]?) : Sl w' lo hi v l := by
  obtain ⟨a, c, rfl, h1, h2, h3⟩ := h
  refine ⟨a, c, rfl, h1, h2, fun h0 => ?_⟩
  obtain ⟨b, off, rfl, h4, h5, h6⟩ := h3 h0
  exact ⟨b, off, rfl, h4, h5, fun j hj => (World.cell?_of_block (w := w) (w' := w') (hk b h4 h5)).trans (h6 j hj)⟩

/-- What the walk along the options wants of the world. -/
def StO (Bb lo hi : Nat) (v : Value) (b : List UInt8) (w : World) : Prop := w.cell? ⟨Bb, 0, none⟩ = some v ∧ Sl w lo hi v (iz b) ∧ hi ≤ w.heap.size ∧ Bb < w.heap.size
theorem StO.below {Bb lo hi : Nat} {v : Value} {b : List UInt8} {w w' : World} (h : StO Bb lo hi v b w) (hb : Below w.heap.size w w') : StO Bb lo hi v b w' :=
  ⟨(hb.cell (p := ⟨Bb, 0, none⟩) h.2.2.2).trans h.1, h.2.1.below hb h.2.2.1, Nat.le_trans h.2.2.1 hb.size, Nat.lt_of_lt_of_le h.2.2.2 hb.size⟩
theorem StO.kept {Bb lo hi : Nat} {v : Value} {b : List UInt8} {w w' : World} (h : StO Bb lo hi v b w) (hk : ∀ k, (k = Bb ∨ (lo ≤ k ∧ k < hi)) → w'.heap[k]? = w.heap[k]?) (hs : w.heap.size ≤ w'.heap.size) : StO Bb lo hi v b w' :=
  ⟨(World.cell?_of_block (w := w) (w' := w') (hk Bb (.inl rfl))).trans h.1, sl_block h.2.1 fun k h1 h2 => hk k (.inr ⟨h1, h2⟩), Nat.le_trans h.2.2.1 hs, Nat.lt_of_lt_of_le h.2.2.2 hs⟩

def pOf (v : Value) : Nat := match v with | .int _ n => n.toNat | _ => 0

/-- A fault in its box. -/
def IsF (o : Obj) : Prop := ∃ cs fz, o = .cells cs 47 fz

set_option maxHeartbeats 2000000 in
theorem opts_seq (b : List UInt8) (Bb lo hi : Nat) (v : Value) (hl : b.length ≤ 1000000) :
    SeqV Tryz.prog 45 #[.pointer (some ⟨Bb, 0, none⟩)] (fun k => k = Bb ∨ (lo ≤ k ∧ k < hi)) (fun _ => False) IsF ((yl b b.length 0).map encY) none (StO Bb lo hi v b) := by
  intro ll J Jx W hJ hY hSt h0
  show CallsIn _ _ _ _ #[.func (.yield ll) #[] #[], .pointer (some ⟨Bb, 0, none⟩)] _ _
  obtain ⟨X, hX⟩ : ∃ X, yl b b.length 0 = X := ⟨_, rfl⟩
  have H00 := Lib.hid (show yl b b.length 0 = X.drop 0 ∧ 0 ≤ X.length by exact ⟨by simpa using hX, by omega⟩)
  rw [hX] at hY ⊢
  rw [List.length_map]
  have HY := Lib.hid hY
  have HJA := Lib.hid hJ
  have HSt := Lib.hid hSt
  obtain ⟨va, vc, hv, _⟩ := id hSt.2.1
  rw [iz_len] at hv
  subst hv
  clear hY hJ hSt hX
  refine callsIn_of_wp Tryz.func45 rfl trivial ?_
  simp only [Tryz.ntmps45, List.size_toArray, List.length_cons, List.length_nil, Nat.reduceAdd, Nat.reduceSub, Array.replicate_succ,
     Array.replicate_zero, List.push_toArray, List.append_toArray, List.nil_append, List.cons_append]
  gi_wp2
  gi_loopw [3] (fun v3 wr => ∃ p k n : Nat, v3 = .int .i64 p ∧ p ≤ b.length ∧ b.length - p ≤ n ∧ Hid (yl b n p = X.drop k ∧ k ≤ X.length) ∧ Hid (StO Bb lo hi (.slice va b.length vc) b wr) ∧ Hid (J k wr)) (fun v3 wr => b.length - pOf v3)
  case atStart => exact ⟨0, 0, b.length, rfl, by omega, by omega, H00, HSt, h0⟩
  case round =>
    obtain ⟨p, k, n, rfl, hp, hn, HL, HW, HJ⟩ := hrel
    have hbc := HW.out.1
    have hbl9 : b.length ≤ 1000000 := hl
    by_cases hov : p = b.length
    · have hk : k = X.length := drop_nil (by rw [← HL.out.1]; exact yl_end (by omega)) HL.out.2
      have HK := Lib.hid hk
      have t1 : ¬ ((p : Int) < b.length) := by omega
      clear hk hov
      gi_wp2_with fail
      go_end0
      exact .inl ⟨rfl, ⟨_, rfl⟩, HK.out ▸ HJ.out⟩
    · have hpl : p < b.length := by omega
      obtain ⟨m, rfl⟩ : ∃ m, n = m + 1 := ⟨n - 1, by omega⟩
      have HO := Lib.hid (option_any HW.out.2.1 HW.out.2.2.1 hl p hp)
      have t1 : ((p : Int) < b.length) := by omega
      have hL := HL.out
      have hq9 := fun x q (e : otR b p = .ok x q) => otR_lt e
      have hbad := fun a (e : otR b p = .bad a) => otR_bad e
      have hy1 := fun a (e : otR b p = .bad a) => yl_bad (n := m) hpl e
      have hy2 := fun x q (e : otR b p = .ok x q) => yl_ok (n := m) hpl e
      obtain ⟨Y, hYY⟩ : ∃ Y, otR b p = Y := ⟨_, rfl⟩
      rw [hYY] at HO hq9 hbad hy1 hy2
      clear hYY hov
      cases Y with
      | bad a =>
        have ha := hbad a rfl
        subst ha
        rw [hy1 _ rfl] at hL
        obtain ⟨hx1, hx2, hx3⟩ := drop_one hL.1.symm
        have hke : k + 1 = X.length := drop_nil hx2 hx3
        have HX1 := Lib.hid (show (X.map encY)[k]? = some #[.agg #[.int .i64 0, .string ⟨#[]⟩], .agg #[.int .i64 4, .int .i64 b.length]] by rw [List.getElem?_map, hx1]; rfl)
        have HKE := Lib.hid hke
        have HX3 := Lib.hid hx3
        clear hL hx1 hx2 hx3 hke hq9 hbad hy1 hy2
        unfold otV at HO
        gi_wp2_with fail
        refine ⟨trivial, rfl, (callsIn_wide.2 HO.out).mono ?_⟩
        rintro e1 w2 ⟨rfl, hb⟩
        have hb3 : Below wr.heap.size wr ((w2.alloc (.cells #[.int .i64 0, .string ⟨#[]⟩] 58)).alloc (.cells #[.int .i64 4, .int .i64 b.length] 47)) := (hb.alloc hb.size _).alloc (by have := hb.size; simp; omega) _
        have HW3 := Lib.hid (HW.out.below hb3)
        have HJ3 := Lib.hid (HJA.out k wr _ HJ.out (Aside.of_all hb3 : Aside (fun _ => False) wr _))
        have hc1 := (cel_pair w2 (.int .i64 0) (.string ⟨#[]⟩) 58).below (by simp) ((Below.refl _ _).alloc (Nat.le_refl _) (.cells #[.int .i64 4, .int .i64 b.length] 47))
        have hnew := World.alloc_heap_new (w2.alloc (.cells #[.int .i64 0, .string ⟨#[]⟩] 58)) (.cells #[.int .i64 4, .int .i64 b.length] 47)
        rw [World.size_alloc] at hnew
        obtain ⟨g, hg⟩ : ∃ g, w2.heap.size = g := ⟨_, rfl⟩
        rw [hg] at hc1 hnew
        obtain ⟨d0, d1⟩ := hc1.two
        have e0 : ((w2.alloc (.cells #[.int .i64 0, .string ⟨#[]⟩] 58)).alloc (.cells #[.int .i64 4, .int .i64 b.length] 47)).cell? ⟨g + 1, 0, none⟩ = some (.int .i64 4) := by simp [World.cell?, hnew]
        have e1 : ((w2.alloc (.cells #[.int .i64 0, .string ⟨#[]⟩] 58)).alloc (.cells #[.int .i64 4, .int .i64 b.length] 47)).cell? ⟨g + 1, 1, none⟩ = some (.int .i64 b.length) := by simp [World.cell?, hnew]
        have HNW := Lib.hid hnew
        obtain ⟨fn, tmps, assign, body, hy, hR⟩ := HY.out k _ _ HX1.out HJ3.out
        clear hb hb3 hc1 hnew
        gi_wp2_with fail
        refine ⟨rfl, hR.mono ?_⟩
        rintro e4 w4 (⟨rfl, hJ', hs, hk, hh⟩ | ⟨rfl, hJx⟩)
        · have h4 := hh _ _ HNW.out ⟨_, _, rfl⟩
          have e4 : w4.cell? ⟨g + 1, 0, none⟩ = some (.int .i64 4) := by simp [World.cell?, h4]
          have HW4 := Lib.hid (HW3.out.kept hk hs)
          have HJ' := Lib.hid hJ'
          clear hk hJ' hh h4 hs e0 e1 d0 d1 hR hy
          gi_wp2_with fail
          go_end0
          exact .inl ⟨rfl, ⟨_, rfl⟩, HKE.out ▸ HJ'.out⟩
        · have HJx := Lib.hid hJx
          clear hJx hR
          gi_wp2_with fail
          go_end0
          exact .inr (.inl ⟨⟨_, rfl⟩, k + 1, HX3.out, HJx.out⟩)
      | ok x q =>
        obtain ⟨hq1, hq2⟩ := hq9 x q rfl
        rw [hy2 _ _ rfl] at hL
        obtain ⟨hx1, hx2, hx3⟩ := drop_one hL.1.symm
        have HX1 := Lib.hid (show (X.map encY)[k]? = some #[.agg #[.int .i64 x.c, .string (bs x.d)], .agg #[.int .i64 0, .int .i64 0]] by rw [List.getElem?_map, hx1]; rfl)
        have HX2 := Lib.hid (And.intro hx2.symm hx3)
        have HX3 := Lib.hid hx3
        clear hL hx1 hx2 hx3 hq9 hbad hy1 hy2
        unfold otV at HO
        gi_wp2_with fail
        refine ⟨trivial, rfl, (callsIn_wide.2 HO.out).mono ?_⟩
        rintro e1 w2 ⟨rfl, hb⟩
        have hb3 : Below wr.heap.size wr ((w2.alloc (.cells #[.int .i64 x.c, .string (bs x.d)] 58)).alloc (.cells #[.int .i64 0, .int .i64 0] 47)) := (hb.alloc hb.size _).alloc (by have := hb.size; simp; omega) _
        have HW3 := Lib.hid (HW.out.below hb3)
        have HJ3 := Lib.hid (HJA.out k wr _ HJ.out (Aside.of_all hb3 : Aside (fun _ => False) wr _))
        have hc1 := (cel_pair w2 (.int .i64 x.c) (.string (bs x.d)) 58).below (by simp) ((Below.refl _ _).alloc (Nat.le_refl _) (.cells #[.int .i64 0, .int .i64 0] 47))
        have hnew := World.alloc_heap_new (w2.alloc (.cells #[.int .i64 x.c, .string (bs x.d)] 58)) (.cells #[.int .i64 0, .int .i64 0] 47)
        rw [World.size_alloc] at hnew
        obtain ⟨g, hg⟩ : ∃ g, w2.heap.size = g := ⟨_, rfl⟩
        rw [hg] at hc1 hnew
        obtain ⟨d0, d1⟩ := hc1.two
        have e0 : ((w2.alloc (.cells #[.int .i64 x.c, .string (bs x.d)] 58)).alloc (.cells #[.int .i64 0, .int .i64 0] 47)).cell? ⟨g + 1, 0, none⟩ = some (.int .i64 0) := by simp [World.cell?, hnew]
        have e1 : ((w2.alloc (.cells #[.int .i64 x.c, .string (bs x.d)] 58)).alloc (.cells #[.int .i64 0, .int .i64 0] 47)).cell? ⟨g + 1, 1, none⟩ = some (.int .i64 0) := by simp [World.cell?, hnew]
        have HNW := Lib.hid hnew
        obtain ⟨fn, tmps, assign, body, hy, hR⟩ := HY.out k _ _ HX1.out HJ3.out
        clear hb hb3 hc1 hnew
        gi_wp2_with fail
        refine ⟨rfl, hR.mono ?_⟩
        rintro e4 w4 (⟨rfl, hJ', hs, hk, hh⟩ | ⟨rfl, hJx⟩)
        · have h4 := hh _ _ HNW.out ⟨_, _, rfl⟩
          have e4 : w4.cell? ⟨g + 1, 0, none⟩ = some (.int .i64 0) := by simp [World.cell?, h4]
          have HW4 := Lib.hid (HW3.out.kept hk hs)
          have HJ' := Lib.hid hJ'
          clear hk hJ' hh h4 hs e0 e1 d0 d1 hR hy
          gi_wp2_with fail
          have t3 : pOf (.int .i64 ((q : Nat) : Int)) = q := by simp [pOf]
          have t4 : pOf (.int .i64 ((p : Nat) : Int)) = p := by simp [pOf]
          refine ⟨⟨q, k + 1, m, rfl, by omega, by omega, HX2, HW4, HJ'⟩, ?_⟩
          rw [t3, t4]
          omega
        · have HJx := Lib.hid hJx
          clear hJx hR
          gi_wp2_with fail
          go_end0
          exact .inr (.inl ⟨⟨_, rfl⟩, k + 1, HX3.out, HJx.out⟩)
end Go.Proofs.YtpdaekgldgoalaaGreat

/-
  What a record of the type says: read.
-/
namespace Go.Proofs.YtpdaekgldgoalaaGreat
open Go.RowKit Go.Shelf
set_option linter.unusedVariables false
set_option linter.unusedSimpArgs false
set_option maxRecDepth 100000
attribute [local go_sem] Oper.semAt_some

theorem i64_and255 (n : Int) : bits .and .i64 n 255 = n % 256 := by
  have h15 : (BitVec.ofInt 64 255).toNat = 2 ^ 8 - 1 := by decide
  have key : (BitVec.ofInt 64 n &&& BitVec.ofInt 64 255).toNat = (n % ((2 ^ 64 : Nat) : Int)).toNat % 2 ^ 8 := by
    rw [BitVec.toNat_and, BitVec.toNat_ofInt, h15, Nat.and_two_pow_sub_one_eq_mod]
  show IntKind.i64.wrap ((BitVec.ofInt 64 n &&& BitVec.ofInt 64 255).toNat : Nat) = n % 256
  rw [key, IntKind.wrap_i64]
  omega
theorem i64_and1 (n : Int) : bits .and .i64 n 1 = n % 2 := by
  have h15 : (BitVec.ofInt 64 1).toNat = 2 ^ 1 - 1 := by decide
  have key : (BitVec.ofInt 64 n &&& BitVec.ofInt 64 1).toNat = (n % ((2 ^ 64 : Nat) : Int)).toNat % 2 ^ 1 := by
    rw [BitVec.toNat_and, BitVec.toNat_ofInt, h15, Nat.and_two_pow_sub_one_eq_mod]
  show IntKind.i64.wrap ((BitVec.ofInt 64 n &&& BitVec.ofInt 64 1).toNat : Nat) = n % 2
  rw [key, IntKind.wrap_i64]
  omega
theorem bs_list (l : List UInt8) : (bs l).toList = l := ByteArray.toList_mk _

/-- While options are being read: the boxes of the answer, and of what is said. -/
structure Rdo (w W : World) (N D : Nat) (s x v : Int) (b : Bool) (ov : Value) (L : List Ot) : Prop where
  bel : Below N w W
  z : Cel W (N + 1) [.int .i64 0, .int .i64 0, .int .i64 0, .bool false, .slice none 0 0]
  f : Cel W (N + 2) [.int .i64 0]
  e : W.heap[N + 3]? = some (.cells #[.int .i64 s, .int .i64 x, .int .i64 v, .bool b, ov] 28)
  own : OwnO W (D + 2) ov L
  size : N + 4 ≤ W.heap.size
section
variable {w W W' : World} {N D : Nat} {s x v : Int} {b : Bool} {ov : Value} {L : List Ot}
theorem Rdo.aside {G : Nat → Prop} (h : Rdo w W N D s x v b ov L) (ha : Aside G W W') (hG : ∀ k, G k → N + 3 < k ∧ k < D + 2) : Rdo w W' N D s x v b ov L :=
  ⟨below_aside h.bel ha (fun k hk => ⟨by have := h.size; omega, fun hg => by have := hG k hg; omega⟩), h.z.aside (by simp) ha (fun hg => by have := hG _ hg; omega), h.f.aside (by simp) ha (fun hg => by have := hG _ hg; omega),
    (ha.block _ (Array.getElem?_eq_some_iff.mp h.e).1 (fun hg => by have := hG _ hg; omega)).trans h.e, row_aside h.own ha (fun k hk hg => by have := (World.ownsRow.lt h.own k hk).1; have := hG _ hg; omega), Nat.le_trans h.size ha.size⟩
theorem Rdo.later (h : Rdo w W N D s x v b ov L) (hb : Below W.heap.size W W') : Rdo w W' N D s x v b ov L := h.aside (Aside.of_all hb : Aside (fun _ => False) W W') fun _ h => h.elim
theorem heap_setCell_same {g : Nat} {a0 a1 a2 a3 a4 u : Value} {T : TypeId} (h : W.heap[g]? = some (.cells #[a0, a1, a2, a3, a4] T)) : (W.setCell ⟨g, 4, none⟩ u).heap[g]? = some (.cells #[a0, a1, a2, a3, u] T) := by
  have hl := (Array.getElem?_eq_some_iff.mp h).1
  have h2 := (Array.getElem?_eq_some_iff.mp h).2
  simp only [World.setCell]
  rw [Array.getElem?_eq_getElem (by simpa using hl), Array.getElem_modify, if_pos rfl, h2]
  rfl
theorem Rdo.cells (h : Rdo w W N D s x v b ov L) : W.cell? ⟨N + 3, 0, none⟩ = some (.int .i64 s) ∧ W.cell? ⟨N + 3, 1, none⟩ = some (.int .i64 x) ∧ W.cell? ⟨N + 3, 2, none⟩ = some (.int .i64 v) ∧ W.cell? ⟨N + 3, 3, none⟩ = some (.bool b) ∧ W.cell? ⟨N + 3, 4, none⟩ = some ov := by
  have h := h.e
  exact ⟨by simp [World.cell?, h], by simp [World.cell?, h], by simp [World.cell?, h], by simp [World.cell?, h], by simp [World.cell?, h]⟩
theorem row_not {B : Nat} {v : Value} {l : List Ot} (h : OwnO W B v l) {k : Nat} {o : Obj} (ho : W.heap[k]? = some o) (hf : IsF o) : v.ownBlock ≠ some k := by
  obtain ⟨cs, fz, rfl⟩ := hf
  intro he
  rcases h.2 with ⟨rfl, _⟩ | ⟨g, cap, cur, rfl, _, hg, _⟩
  · simp [Value.ownBlock] at he
  · have e : g = k := by simpa [Value.ownBlock] using he
    subst e
    rw [ho] at hg
    injection hg with hg
    injection hg with _ hg
    cases hg
/-- An option more. -/
theorem Rdo.app (h : Rdo w W N D s x v b ov L) {g : Nat} {y : Ot} (hD : D + 2 ≤ W.heap.size) (hND : N + 3 < D) (hc : W.heap[g]? = some (.cells #[.int .i64 y.c, .string (bs y.d)] 58)) (hl : L.length + 1 ≤ 1000000) :
    ∃ a c w6, (Builtin.append_ #[26, 26] 26 #[ov, .slice (some ⟨g, 0, none⟩) 1 1]).run Tryz.prog W = .ok (.slice a (L.length + 1) c) w6 ∧ w6.cell? ⟨N + 3, 4, none⟩ = some ov ∧ w6.frozen? ⟨N + 3, 4, none⟩ = false ∧
      Rdo w (w6.setCell ⟨N + 3, 4, none⟩ (.slice a (L.length + 1) c)) N D s x v b (.slice a (L.length + 1) c) (L ++ [y]) ∧
      Aside (fun k => k = N + 3 ∨ D + 2 ≤ k) W (w6.setCell ⟨N + 3, 4, none⟩ (.slice a (L.length + 1) c)) ∧
      ∀ (k : Nat) (o : Obj), W.heap[k]? = some o → IsF o → (w6.setCell ⟨N + 3, 4, none⟩ (.slice a (L.length + 1) c)).heap[k]? = some o := by
  have hg := (Array.getElem?_eq_some_iff.mp hc).1
  have hx : SO W (g + 1) (.slice (some ⟨g, 0, none⟩) 1 1) [y] := ⟨_, 1, rfl, by simp, fun h => by simp at h, fun _ => ⟨g, 0, rfl, by omega, fun i u hu => by
    rw [Nat.zero_add]
    match i, hu with
    | 0, hu => simpa [aco, co, World.cell?, hc] using hu
    | 1, hu => simpa [aco, co, World.cell?, hc] using hu
    | i + 2, hu => simp [aco, co] at hu⟩⟩
  obtain ⟨a, c, w6, h1, h2, h3, _⟩ := run_appOt h.own hx hl hD
  simp only [List.length_singleton] at h1 h2
  have hlt := World.ownsRow.lt h.own
  have h3' : Aside (fun k => D + 2 ≤ k) W w6 := h3.mono fun k _ hk => (hlt k hk).1
  have e6 : w6.heap[N + 3]? = _ := (h3'.block _ (by have := h.size; omega) (by omega)).trans h.e
  have hst : Aside (fun k => k = N + 3) w6 (w6.setCell ⟨N + 3, 4, none⟩ (.slice a (L.length + 1) c)) := Aside.setCell w6 (p := ⟨N + 3, 4, none⟩) _ rfl
  have hs6 := Nat.le_trans h.size h3'.size
  refine ⟨a, c, w6, h1, by simp [World.cell?, e6], by simp [World.frozen?, e6], ⟨?_, ?_, ?_, heap_setCell_same e6, row_aside h2 hst fun k hk hg => by have := (World.ownsRow.lt h2 k hk).1; omega, Nat.le_trans hs6 hst.size⟩, ?_, fun k o ho hf => ?_⟩
  · exact below_aside (below_aside h.bel h3' (fun k hk => ⟨by have := h.size; omega, by omega⟩)) hst (fun k hk => ⟨by omega, by omega⟩)
  · exact (h.z.aside (by simp) h3' (by omega)).other (a := ⟨N + 3, 4, none⟩) (by show N + 3 ≠ N + 1; omega) _
  · exact (h.f.aside (by simp) h3' (by omega)).other (a := ⟨N + 3, 4, none⟩) (by show N + 3 ≠ N + 2; omega) _
  · exact (h3'.mono fun _ _ h => .inr h).trans (hst.mono fun _ _ h => .inl h)
  · have hne : k ≠ N + 3 := by
      rintro rfl
      rw [h.e] at ho
      injection ho with ho
      subst ho
      obtain ⟨cs, fz, hf⟩ := hf
      injection hf with _ hf
      cases hf
    have hk := (Array.getElem?_eq_some_iff.mp ho).1
    have := (h3.block k hk (row_not h.own ho hf)).trans ho
    exact (hst.block k (Array.getElem?_eq_some_iff.mp this).1 hne).trans this
end

theorem yl_get {b : List UInt8} {n p k : Nat} {y : Yo} (h : (yl b n p)[k]? = some y) : (∃ hk : k < (otsR b n p).1.length, y = yOk ((otsR b n p).1[k]'hk)) ∨ (k = (otsR b n p).1.length ∧ (otsR b n p).2 = false ∧ y = yBad b.length) := by
  unfold yl at h
  rcases Nat.lt_or_ge k (otsR b n p).1.length with h1 | h1
  · left
    rw [List.getElem?_append_left (by rw [List.length_map]; exact h1), List.getElem?_map, List.getElem?_eq_getElem h1] at h
    injection h with h
    exact ⟨h1, h.symm⟩
  · right
    rw [List.getElem?_append_right (by rw [List.length_map]; exact h1), List.length_map] at h
    cases hc : (otsR b n p).2 with
    | true => rw [hc] at h; simp at h
    | false =>
      rw [hc] at h
      simp only [Bool.false_eq_true, if_false] at h
      have h0 : k - (otsR b n p).1.length = 0 := by
        rcases Nat.eq_zero_or_pos (k - (otsR b n p).1.length) with h2 | h2
        · exact h2
        · rw [List.getElem?_eq_none (by simp; omega)] at h; cases h
      rw [h0] at h
      injection h with h
      exact ⟨by omega, rfl, h.symm⟩
theorem yl_len (b : List UInt8) (n p : Nat) : (yl b n p).length ≤ (otsR b n p).1.length → (otsR b n p).2 = true := by
  intro h
  unfold yl at h
  rw [List.length_append, List.length_map] at h
  cases hc : (otsR b n p).2 with
  | true => rfl
  | false => rw [hc] at h; simp at h; omega
theorem otsR_len (b : List UInt8) : ∀ n p, (otsR b n p).1.length ≤ n
  | 0, _ => Nat.le_refl _
  | n + 1, p => by
    unfold otsR
    split
    · simp
    · split
      · simp
      · have := otsR_len b n
        simp
        exact this _

/-- What read tells. -/
def RdPostE (w : World) (x : Rc) (e : Ending) (w' : World) : Prop := ∃ v, e = .returned (.tuple #[v, .int .i64 (recE x).2]) ∧ Egw w' w.heap.size v (recE x).1 ∧ Below w.heap.size w w'

set_option maxHeartbeats 4000000 in
theorem readx_any (x : Rc) (w : World) (hd : x.d.length ≤ 900000) :
    Calls Tryz.prog 24 #[.agg #[.string (bs x.n), .int .i64 x.t, .int .i64 x.c, .int .i64 x.l, .string (bs x.d)]] w (RdPostE w x) := by
  obtain ⟨n, t, c, l, d⟩ := x
  simp only at hd ⊢
  have H1 := Lib.hid (fun wx => bounded_any c 65535 wx)
  have H2 := Lib.hid (fun wx => bounded_any l 2147483647 wx)
  obtain ⟨b1, hb1⟩ : ∃ b, bnd c 65535 = b := ⟨_, rfl⟩
  obtain ⟨b2, hb2⟩ : ∃ b, bnd l 2147483647 = b := ⟨_, rfl⟩
  rw [hb1] at H1
  rw [hb2] at H2
  by_cases hgood : n = [0] ∧ b1 = true ∧ b2 = true
  · obtain ⟨rfl, rfl, rfl⟩ := hgood
    have hlst : (bs [0]).toList = [0] := bs_list [0]
    have hB1 : 0 ≤ c ∧ c ≤ 65535 := by unfold bnd at hb1; simpa using hb1
    have hB2 : 0 ≤ l ∧ l ≤ 2147483647 := by unfold bnd at hb2; simpa using hb2
    obtain ⟨N, hN⟩ : ∃ N, w.heap.size = N := ⟨_, rfl⟩
    have ha1 := i64_and255 (l / 65536)
    have ha2 := i64_and1 (l / 32768)
    obtain ⟨B, hB⟩ : ∃ B, (l / 32768 % 2 == 1) = B := ⟨_, rfl⟩
    obtain ⟨X, hX⟩ : ∃ X, l / 16777216 = X := ⟨_, rfl⟩
    obtain ⟨Vv, hV⟩ : ∃ X, l / 65536 % 256 = X := ⟨_, rfl⟩
    rw [hV] at ha1
    have ha3 : (bits .and .i64 (l / 32768) 1 == 1) = B := by rw [ha2]; exact hB
    have hR1 : (recE ⟨[0], t, c, l, d⟩) = if (otsR d d.length 0).2 = true then (⟨c, X, Vv, B, (otsR d d.length 0).1⟩, 0) else (ed0, 4) := by
      have hBd : B = decide (l / 32768 % 2 = 1) := by rw [← hB]; rfl
      unfold recE
      simp only [hB1, hB2, and_self, true_and, hX, hV, ← hBd]
    unfold RdPostE
    rw [hR1]
    obtain ⟨GL, hGL⟩ : ∃ x, (otsR d d.length 0).1 = x := ⟨_, rfl⟩
    obtain ⟨OKB, hOK⟩ : ∃ x, (otsR d d.length 0).2 = x := ⟨_, rfl⟩
    have HGL := Lib.hid (show GL.length ≤ 900000 by rw [← hGL]; exact Nat.le_trans (otsR_len _ _ _) hd)
    rw [hGL, hOK]
    obtain ⟨W0, hW0⟩ : ∃ Y, (((w.alloc (.cells #[.string (bs [0]), .int .i64 t, .int .i64 c, .int .i64 l, .string (bs d)] 52)).alloc (.cells #[.int .i64 0, .int .i64 0, .int .i64 0, .bool false, .slice none 0 0] 28)).alloc (.cells #[.int .i64 0] 32)).alloc (.cells #[.int .i64 c, .int .i64 X, .int .i64 Vv, .bool B, .slice none 0 0] 28) = Y := ⟨_, rfl⟩
    have s0 : W0.heap.size = N + 4 := by rw [← hW0]; simp [hN]
    have z0 : Cel W0 (N + 1) [.int .i64 0, .int .i64 0, .int .i64 0, .bool false, .slice none 0 0] := by
      rw [← hW0]
      have := ((cel_new (w.alloc (.cells #[.string (bs [0]), .int .i64 t, .int .i64 c, .int .i64 l, .string (bs d)] 52)) (.int .i64 0) (.int .i64 0) (.int .i64 0) (.bool false) (.slice none 0 0) 28).below (by simp) ((Below.refl _ _).alloc (Nat.le_refl _) (.cells #[.int .i64 0] 32))).below (by simp) ((Below.refl _ _).alloc (Nat.le_refl _) (.cells #[.int .i64 c, .int .i64 X, .int .i64 Vv, .bool B, .slice none 0 0] 28))
      rwa [World.size_alloc, hN] at this
    have f0 : Cel W0 (N + 2) [.int .i64 0] := by
      rw [← hW0]
      have := (cel_new1 ((w.alloc (.cells #[.string (bs [0]), .int .i64 t, .int .i64 c, .int .i64 l, .string (bs d)] 52)).alloc (.cells #[.int .i64 0, .int .i64 0, .int .i64 0, .bool false, .slice none 0 0] 28)) (.int .i64 0) 32).below (by simp) ((Below.refl _ _).alloc (Nat.le_refl _) (.cells #[.int .i64 c, .int .i64 X, .int .i64 Vv, .bool B, .slice none 0 0] 28))
      rwa [World.size_alloc, World.size_alloc, hN] at this
    have e0 : W0.heap[N + 3]? = some (.cells #[.int .i64 c, .int .i64 X, .int .i64 Vv, .bool B, .slice none 0 0] 28) := by
      rw [← hW0]
      have := World.alloc_heap_new (((w.alloc (.cells #[.string (bs [0]), .int .i64 t, .int .i64 c, .int .i64 l, .string (bs d)] 52)).alloc (.cells #[.int .i64 0, .int .i64 0, .int .i64 0, .bool false, .slice none 0 0] 28)).alloc (.cells #[.int .i64 0] 32)) (.cells #[.int .i64 c, .int .i64 X, .int .i64 Vv, .bool B, .slice none 0 0] 28)
      rwa [World.size_alloc, World.size_alloc, World.size_alloc, hN] at this
    have b0 : Below N w W0 := by
      rw [← hW0]
      exact ((((Below.refl _ _).alloc (by omega) _).alloc (by simp; omega) _).alloc (by simp; omega) _).alloc (by simp; omega) _
    obtain ⟨cap, W1, hconv, hob, hb1', _⟩ := conv_B W0 d (by omega)
    have s1 := hb1'.size
    obtain ⟨S1, hS1⟩ : ∃ x, W1.heap.size = x := ⟨_, rfl⟩
    have hsl := hob.sl
    rw [s0] at hconv hob s1 hsl
    rw [hS1] at s1 hsl
    have hP1 : Rdo w W1 N (S1 + 1) c X Vv B (.slice none 0 0) [] := ⟨b0.trans (hb1'.mono (by omega)), z0.below (by simp) hb1', f0.below (by simp) hb1', (hb1'.block _ (by omega)).trans e0, World.ownsRow_nil _ _ _ _, by omega⟩
    have hst : StO S1 (N + 4) S1 (.slice (some ⟨N + 4, 0, none⟩) d.length cap) d (W1.alloc (.cells #[.slice (some ⟨N + 4, 0, none⟩) d.length cap] 43)) := by
      have hba : Below W1.heap.size W1 (W1.alloc (.cells #[.slice (some ⟨N + 4, 0, none⟩) d.length cap] 43)) := (Below.refl _ _).alloc (Nat.le_refl _) _
      refine ⟨?_, hsl.below hba (by omega), by simp; omega, by simp; omega⟩
      have := (cel_new1 W1 (.slice (some ⟨N + 4, 0, none⟩) d.length cap) 43).c 0 (by simp)
      rw [hS1] at this
      exact this
    have HOP := Lib.hid (options_any (some ⟨N + 4, 0, none⟩) d.length cap W1)
    have HST := Lib.hid hst
    have HP := Lib.hid (hP1.later ((Below.refl _ _).alloc (Nat.le_refl _) (.cells #[.slice (some ⟨N + 4, 0, none⟩) d.length cap] 43)))
    have HSZ := Lib.hid (show N + 4 ≤ S1 from s1)
    rw [hS1] at HOP
    rw [← hW0] at hconv
    clear hW0 s0 hob hsl hP1 hst z0 f0 e0 b0 hb1' hB1 hB2 hb1 hb2 hR1 s1
    refine calls_of_wp_marks Tryz.func24 rfl ?_
    simp only [Tryz.ntmps24, List.size_toArray, List.length_cons, List.length_nil, Nat.reduceAdd, Nat.reduceSub, Array.replicate_succ,
       Array.replicate_zero, List.push_toArray, List.append_toArray, List.nil_append, List.cons_append]
    go_wp2_with fail
    refine (H1.out _).mono ?_; rintro e w2 ⟨rfl, rfl⟩
    go_wp2_with fail
    refine (H2.out _).mono ?_; rintro e w2 ⟨rfl, rfl⟩
    go_wp2_with fail
    refine HOP.out.mono ?_; rintro e w2 ⟨rfl, rfl⟩
    go_wp2_with fail
    obtain ⟨WL, hWL⟩ : ∃ x, W1.alloc (.cells #[.slice (some ⟨N + 4, 0, none⟩) d.length cap] 43) = x := ⟨_, rfl⟩
    have hWS : WL.heap.size = S1 + 1 := by rw [← hWL, World.size_alloc, hS1]
    rw [hWL] at HP HST ⊢
    clear hWL hconv H1 H2 ha1 ha2 ha3
    apply wp_rangeFunc_V (D := S1 + 1) (hD := hWS) (enc := encY) (ys := yl d d.length 0) (K := fun k => k = S1 ∨ (N + 4 ≤ k ∧ k < S1)) (G := fun _ => False) (H := IsF) (M := fun b => b = N + 1 ∨ b = N + 2 ∨ b = N + 3 ∨ S1 + 1 + 2 ≤ b) (fin := none) (hg := rfl)
      (eg := enters_of Tryz.func45 (by kernel_rfl) rfl) (hseq := opts_seq d S1 (N + 4) S1 (.slice (some ⟨N + 4, 0, none⟩) d.length cap) (by omega)) (hSt := HST.out)
      (wa := fun y W => (W.alloc (.cells #[.int .i64 y.c, .string (bs y.d)] 58)).alloc (.cells #[.int .i64 y.f, .int .i64 y.a] 47))
      (I := fun k W => k ≤ GL.length ∧ ∃ ov, Rdo w W N (S1 + 1) c X Vv B ov (GL.take k))
      (Ix := fun cc k W => cc = .ret ∧ OKB = false ∧ Below N w W ∧ Cel W (N + 1) [.int .i64 0, .int .i64 0, .int .i64 0, .bool false, .slice none 0 0] ∧ Cel W (N + 2) [.int .i64 4] ∧ N + 4 ≤ W.heap.size)
    case hassign =>
      intro li k y W K hk hK
      unfold encY
      gi_wp2
      exact hK
    case hHl =>
      rintro r ⟨cs, fz, h⟩
      cases h
    case hwa => exact fun y W => ((Below.refl _ _).alloc (Nat.le_refl _) _).alloc (by simp) _
    case hStK => exact fun A B h hk hs => h.kept hk hs
    case hK => intro b hb; have := HSZ.out; omega
    case hM => intro b hb; have := HSZ.out; omega
    case hGK => exact fun _ h => h.elim
    case hps => exact fun _ => rfl
    case hI =>
      rintro k A Bw ⟨h1, ov, h2⟩ ha
      exact ⟨h1, ov, h2.aside ha fun b hb => by have := HSZ.out; rcases hb with h | h | h; exact h.elim; omega; omega⟩
    case hIx =>
      rintro cc k A Bw ⟨h0, h1, h2, h3, h4, h5⟩ ha
      have hG : ∀ b, (False ∨ b = S1 + 1 ∨ b = S1 + 1 + 1) → N + 4 < b := fun b hb => by have := HSZ.out; rcases hb with h | h | h; exact h.elim; omega; omega
      exact ⟨h0, h1, below_aside h2 ha (fun k hk => ⟨by omega, fun hg => by have := hG k hg; omega⟩), h3.aside (by simp) ha (fun hg => by have := hG _ hg; omega), h4.aside (by simp) ha (fun hg => by have := hG _ hg; omega), Nat.le_trans h5 ha.size⟩
    case h0 => exact ⟨Nat.zero_le _, _, HP.out⟩
    case hbody =>
      rintro li k y W V o hy hs hV ⟨hk, ov, hR⟩
      obtain ⟨g, hg⟩ : ∃ x, W.heap.size = x := ⟨_, rfl⟩
      have hsV : V.heap.size = g + 2 := by rw [hV]; simp [hg]
      have v1 : V.heap[g]? = some (.cells #[.int .i64 y.c, .string (bs y.d)] 58) := by
        rw [hV]
        refine (World.putObj_heap_other (by omega)).trans ?_
        have := World.alloc_heap_new W (.cells #[.int .i64 y.c, .string (bs y.d)] 58)
        rw [hg] at this
        exact (Below.heap_alloc _ _ _ (by simp; omega)).trans this
      have v2 : V.heap[g + 1]? = some (.cells #[.int .i64 y.f, .int .i64 y.a] 47) := by
        rw [hV]
        refine (World.putObj_heap_other (by omega)).trans ?_
        have := World.alloc_heap_new (W.alloc (.cells #[.int .i64 y.c, .string (bs y.d)] 58)) (.cells #[.int .i64 y.f, .int .i64 y.a] 47)
        rwa [World.size_alloc, hg] at this
      have q0 : V.cell? ⟨g, 0, none⟩ = some (.int .i64 y.c) := by simp [World.cell?, v1]
      have q1 : V.cell? ⟨g, 1, none⟩ = some (.string (bs y.d)) := by simp [World.cell?, v1]
      have p0 : V.cell? ⟨g + 1, 0, none⟩ = some (.int .i64 y.f) := by simp [World.cell?, v2]
      have hgD : S1 + 1 + 2 ≤ g := by omega
      clear hV v1 v2 hs
      rcases yl_get hy with ⟨hk2, rfl⟩ | ⟨hke, hbad, rfl⟩
      · have hkG : k < GL.length := by rw [← hGL]; exact hk2
        have hxe : (otsR d d.length 0).1[k]'hk2 = GL[k] := by simp only [hGL]
        obtain ⟨x, hx⟩ : ∃ x, (otsR d d.length 0).1[k]'hk2 = x := ⟨_, rfl⟩
        rw [hx] at q0 q1 p0 hxe ⊢
        have HTK := Lib.hid (show GL.take (k + 1) = GL.take k ++ [x] by rw [List.take_add_one, List.getElem?_eq_getElem hkG, hxe]; rfl)
        have r0 : V.cell? ⟨g, 0, none⟩ = some (.int .i64 x.c) := q0
        have r1 : V.cell? ⟨g, 1, none⟩ = some (.string (bs x.d)) := q1
        have r2 : V.cell? ⟨g + 1, 0, none⟩ = some (.int .i64 0) := p0
        have htl : (GL.take k).length = k := by rw [List.length_take]; omega
        have hRn := hR.later ((Below.refl _ _).alloc (Nat.le_refl _) (.cells #[.int .i64 x.c, .string (bs x.d)] 58))
        obtain ⟨a6, c6, w6, h1, hc6, hf6, hR2, hA, hH⟩ := hRn.app (g := V.heap.size) (y := x) (by simp; omega) (by have := HSZ.out; omega) (World.alloc_heap_new V _) (by have := HGL.out; omega)
        rw [htl] at h1 hR2 hA hH
        obtain ⟨oa, oc, rfl⟩ := row_shape hR.own
        obtain ⟨_, _, _, _, e4⟩ := hR.cells
        try rw [htl] at h1
        try rw [htl] at e4
        try rw [htl] at hc6
        have hAl : Aside (fun b => b = N + 1 ∨ b = N + 2 ∨ b = N + 3 ∨ S1 + 1 + 2 ≤ b) V (V.alloc (.cells #[.int .i64 x.c, .string (bs x.d)] 58)) := Aside.alloc _ _
        have HI := Lib.hid (show Aside (fun b => b = N + 1 ∨ b = N + 2 ∨ b = N + 3 ∨ S1 + 1 + 2 ≤ b) V (w6.setCell ⟨N + 3, 4, none⟩ (.slice a6 (k + 1) c6)) ∧ (∀ (b : Nat) (o : Obj), V.heap[b]? = some o → IsF o → (w6.setCell ⟨N + 3, 4, none⟩ (.slice a6 (k + 1) c6)).heap[b]? = some o) ∧ (k + 1 ≤ GL.length ∧ ∃ ov, Rdo w (w6.setCell ⟨N + 3, 4, none⟩ (.slice a6 (k + 1) c6)) N (S1 + 1) c X Vv B ov (GL.take (k + 1))) from
          ⟨hAl.trans (hA.mono fun b _ hb => by omega), fun b o hb ho => hH b o ((Below.heap_alloc _ _ _ (Array.getElem?_eq_some_iff.mp hb).1).trans hb) ho, hkG, _, by rw [HTK.out]; exact hR2⟩)
        rw [hsV] at h1
        have HR1 := Lib.hid h1
        clear hR hy hx hxe hk2 htl hRn h1 hR2 hA hH hAl q0 q1 p0 hkG
        gi_wp2_with (gi_at_builtin; refine wpListIn_append_run (.tmp 51) (.tmp 53) 26 26 rfl rfl rfl rfl HR1.out ?_)
        exact ⟨HI.out.1, HI.out.2.1, HI.out.2.2⟩
      · have r2 : V.cell? ⟨g + 1, 0, none⟩ = some (.int .i64 4) := p0
        obtain ⟨z0, z1, z2, z3, z4⟩ := hR.z.five
        have fz := hR.z.fz
        have f0 : V.cell? ⟨N + 2, 0, none⟩ = some (.int .i64 0) := hR.f.c 0 (by simp)
        have ff := hR.f.fz
        have HRr := Lib.hid hR
        have HBAD := Lib.hid (show OKB = false by rw [← hOK]; exact hbad)
        have n1 : N + 1 ≠ g + 1 := by have := HSZ.out; omega
        have n2 : g + 1 ≠ N + 1 := by have := HSZ.out; omega
        have n3 : N + 2 ≠ g + 1 := by have := HSZ.out; omega
        have n4 : g + 1 ≠ N + 2 := by have := HSZ.out; omega
        clear hR hy hke hbad q0 q1 p0
        gi_wp2_with fail
        have st : ∀ (x : World) (q o : Nat) (v : Value), Aside (fun k => k = q) x (x.setCell ⟨q, o, none⟩ v) := fun x q o v => Aside.setCell x (p := ⟨q, o, none⟩) v rfl
        have ha1 := aside_put5 V (N + 1) (.int .i64 0) (.int .i64 0) (.int .i64 0) (.bool false) (.slice none 0 0)
        have ha2 := st (put5 V (N + 1) (.int .i64 0) (.int .i64 0) (.int .i64 0) (.bool false) (.slice none 0 0)) (N + 1 + 1) 0 (.int .i64 4)
        have hbd : Below ((put5 V (N + 1) (.int .i64 0) (.int .i64 0) (.int .i64 0) (.bool false) (.slice none 0 0)).setCell ⟨N + 1 + 1, 0, none⟩ (.int .i64 4)).heap.size ((put5 V (N + 1) (.int .i64 0) (.int .i64 0) (.int .i64 0) (.bool false) (.slice none 0 0)).setCell ⟨N + 1 + 1, 0, none⟩ (.int .i64 4)) ((put5 V (N + 1) (.int .i64 0) (.int .i64 0) (.int .i64 0) (.bool false) (.slice none 0 0)).setCell ⟨N + 1 + 1, 0, none⟩ (.int .i64 4)).drew := (Below.refl _ _).drew
        have hsv := HRr.out.size
        have hs1 := ha1.size
        have hs2 := ha2.size
        have c1 := (cel_put5 HRr.out.z (.int .i64 0) (.int .i64 0) (.int .i64 0) (.bool false) (.slice none 0 0)).aside (by simp) ha2 (by omega)
        have c2 := (HRr.out.f.aside (by simp) ha1 (by omega)).set (o := 0) (by simp) (.int .i64 4)
        have HFIN := Lib.hid (show Aside (fun b => b = N + 1 ∨ b = N + 2 ∨ b = N + 3 ∨ S1 + 1 + 2 ≤ b) V ((put5 V (N + 1) (.int .i64 0) (.int .i64 0) (.int .i64 0) (.bool false) (.slice none 0 0)).setCell ⟨N + 1 + 1, 0, none⟩ (.int .i64 4)).drew ∧ (Code.ret = Code.ret ∧ OKB = false ∧ Below N w ((put5 V (N + 1) (.int .i64 0) (.int .i64 0) (.int .i64 0) (.bool false) (.slice none 0 0)).setCell ⟨N + 1 + 1, 0, none⟩ (.int .i64 4)).drew ∧
            Cel ((put5 V (N + 1) (.int .i64 0) (.int .i64 0) (.int .i64 0) (.bool false) (.slice none 0 0)).setCell ⟨N + 1 + 1, 0, none⟩ (.int .i64 4)).drew (N + 1) [.int .i64 0, .int .i64 0, .int .i64 0, .bool false, .slice none 0 0] ∧ Cel ((put5 V (N + 1) (.int .i64 0) (.int .i64 0) (.int .i64 0) (.bool false) (.slice none 0 0)).setCell ⟨N + 1 + 1, 0, none⟩ (.int .i64 4)).drew (N + 2) [.int .i64 4] ∧
            N + 4 ≤ ((put5 V (N + 1) (.int .i64 0) (.int .i64 0) (.int .i64 0) (.bool false) (.slice none 0 0)).setCell ⟨N + 1 + 1, 0, none⟩ (.int .i64 4)).drew.heap.size) from
          ⟨((ha1.mono fun b _ hb => .inl hb).trans (ha2.mono fun b _ hb => by omega)).trans (Aside.of_all hbd), rfl, HBAD.out, (below_aside (below_aside HRr.out.bel ha1 (fun k hk => ⟨by omega, by omega⟩)) ha2 (fun k hk => ⟨by omega, by omega⟩)).drew, c1.below (by simp) hbd, c2.below (by simp) hbd, by have := hbd.size; omega⟩)
        unfold put5 at HFIN
        clear st ha1 ha2 hbd hsv hs1 hs2 c1 c2 HRr HBAD
        gi_region
        all_goals gi_wp2_with fail
        all_goals exact ⟨HFIN.out.1, rfl, HFIN.out.2.2⟩
    case hdone =>
      rintro _ W ⟨hk, ov, hR⟩ hsz hD
      have hok : OKB = true := by rw [← hOK]; exact yl_len _ _ _ (by rw [hGL]; exact hk)
      have htk : GL.take (yl d d.length 0).length = GL := by
        refine List.take_of_length_le ?_
        unfold yl
        rw [List.length_append, List.length_map, hGL]
        omega
      rw [htk] at hR
      obtain ⟨oa, oc, rfl⟩ := row_shape hR.own
      have HRr := Lib.hid hR
      have HDD := Lib.hid hD
      obtain ⟨x0, x1, x2, x3, x4⟩ := hR.cells
      obtain ⟨z0, z1, z2, z3, z4⟩ := hR.z.five
      have fz := hR.z.fz
      have f0 : W.cell? ⟨N + 2, 0, none⟩ = some (.int .i64 0) := hR.f.c 0 (by simp)
      have ff := hR.f.fz
      clear hR hD htk
      go_wp2_with fail
      clear x0 x1 x2 x3 x4 z0 z1 z2 z3 z4 fz f0 ff
      have st : ∀ (x : World) (q o : Nat) (v : Value), Aside (fun k => k = q) x (x.setCell ⟨q, o, none⟩ v) := fun x q o v => Aside.setCell x (p := ⟨q, o, none⟩) v rfl
      have hN4 := HSZ.out
      have ha1 := aside_put5 W (N + 1) (.int .i64 c) (.int .i64 X) (.int .i64 Vv) (.bool B) (.slice oa GL.length oc)
      have ha2 := st (put5 W (N + 1) (.int .i64 c) (.int .i64 X) (.int .i64 Vv) (.bool B) (.slice oa GL.length oc)) (N + 1 + 1) 0 (.int .i64 0)
      have ha3 : Aside (fun b => b = S1 + 1) ((put5 W (N + 1) (.int .i64 c) (.int .i64 X) (.int .i64 Vv) (.bool B) (.slice oa GL.length oc)).setCell ⟨N + 1 + 1, 0, none⟩ (.int .i64 0)) (((put5 W (N + 1) (.int .i64 c) (.int .i64 X) (.int .i64 Vv) (.bool B) (.slice oa GL.length oc)).setCell ⟨N + 1 + 1, 0, none⟩ (.int .i64 0)).putObj (S1 + 1) (.deferred none)) := Aside.putObj _ _ rfl
      have hs1 := ha1.size
      have hs2 := ha2.size
      have c1 := ((cel_put5 HRr.out.z (.int .i64 c) (.int .i64 X) (.int .i64 Vv) (.bool B) (.slice oa GL.length oc)).aside (by simp) ha2 (by omega)).aside (by simp) ha3 (by omega)
      have c2 := ((HRr.out.f.aside (by simp) ha1 (by omega)).set (o := 0) (by simp) (.int .i64 0)).aside (by simp) ha3 (by omega)
      have hrow := row_aside (row_aside (row_aside HRr.out.own ha1 fun k hk hg => by have := (World.ownsRow.lt HRr.out.own k hk).1; omega) ha2 fun k hk hg => by have := (World.ownsRow.lt HRr.out.own k hk).1; omega) ha3 fun k hk hg => by have := (World.ownsRow.lt HRr.out.own k hk).1; omega
      have hbF := below_aside (below_aside (below_aside HRr.out.bel ha1 (fun k hk => ⟨by have := HRr.out.size; omega, by omega⟩)) ha2 (fun k hk => ⟨by have := HRr.out.size; omega, by omega⟩)) ha3 (fun k hk => ⟨by have := HRr.out.size; omega, by omega⟩)
      have hDf := (ha2.block (S1 + 1) (by omega) (by omega)).trans ((ha1.block (S1 + 1) (by omega) (by omega)).trans HDD.out)
      obtain ⟨m0, m1, m2, m3, m4⟩ := c1.five
      have m5 := c2.c 0 (by simp)
      unfold put5 at m0 m1 m2 m3 m4 m5 hrow hbF hDf
      refine marks_ret hDf (.tuple #[.agg #[.int .i64 c, .int .i64 X, .int .i64 Vv, .bool B, .slice oa GL.length oc], .int .i64 0]) (by simp [results, Tryz.results24, go_sem, m0, m1, m2, m3, m4, m5]) ?_
      try rw [if_pos hok]
      have hgl9 := HGL.out
      exact ⟨_, rfl, ⟨_, rfl, by first | exact row_base hrow (by omega) | (rw [hN]; exact row_base hrow (by omega))⟩, by first | exact hbF | (rw [hN]; exact hbF)⟩
    case hstop =>
      rintro cc k W hk ⟨rfl, hbad, hb, hz, hf, hsz⟩ hD
      have hN4 := HSZ.out
      have ha3 : Aside (fun b => b = S1 + 1) W (W.putObj (S1 + 1) (.deferred none)) := Aside.putObj _ _ rfl
      obtain ⟨m0, m1, m2, m3, m4⟩ := (hz.aside (by simp) ha3 (by omega)).five
      have m5 : (W.putObj (S1 + 1) (.deferred none)).cell? ⟨N + 1 + 1, 0, none⟩ = some (.int .i64 4) := (hf.aside (by simp) ha3 (by omega)).c 0 (by simp)
      have hbF := below_aside hb ha3 (fun k hk => ⟨by omega, by omega⟩)
      refine wp_ret (marks_ret hD (.tuple #[.agg #[.int .i64 0, .int .i64 0, .int .i64 0, .bool false, .slice none 0 0], .int .i64 4]) (by simp [results, Tryz.results24, go_sem, m0, m1, m2, m3, m4, m5]) ?_)
      try rw [hbad, if_neg (by simp)]
      exact ⟨_, rfl, egw_zero _ _, by first | exact hbF | (rw [hN]; exact hbF)⟩
    case hpanic => exact fun ch h => by cases h
  · have hR1 : recE ⟨n, t, c, l, d⟩ = (ed0, 4) := by
      unfold recE
      rw [if_neg]
      rintro ⟨h1, h2, h3, _⟩
      refine hgood ⟨h1, ?_, ?_⟩
      · rw [← hb1]; unfold bnd; simp [h2.1, h2.2]
      · rw [← hb2]; unfold bnd; simp [h3.1, h3.2]
    unfold RdPostE
    rw [hR1]
    clear hR1
    by_cases hn : n = [0]
    · subst hn
      have hlst : (bs [0]).toList = [0] := bs_list [0]
      cases b1 with
      | false =>
        clear hgood
        go_enter Tryz.func24, Tryz.ntmps24
        go_wp2_with fail
        refine (H1.out _).mono ?_; rintro e w2 ⟨rfl, rfl⟩
        go_wp2_with fail
        refine bodyPost_ret (v := .tuple #[.agg #[.int .i64 0, .int .i64 0, .int .i64 0, .bool false, .slice none 0 0], .int .i64 4]) (by simp [results, Tryz.results24, go_sem]) rfl ?_
        exact ⟨_, rfl, egw_zero _ _, (((Below.refl _ _).alloc (Nat.le_refl _) _).alloc (by simp) _).alloc (by simp; omega) _⟩
      | true =>
        cases b2 with
        | true => exact absurd ⟨rfl, rfl, rfl⟩ hgood
        | false =>
          clear hgood
          go_enter Tryz.func24, Tryz.ntmps24
          go_wp2_with fail
          refine (H1.out _).mono ?_; rintro e w2 ⟨rfl, rfl⟩
          go_wp2_with fail
          refine (H2.out _).mono ?_; rintro e w2 ⟨rfl, rfl⟩
          go_wp2_with fail
          refine bodyPost_ret (v := .tuple #[.agg #[.int .i64 0, .int .i64 0, .int .i64 0, .bool false, .slice none 0 0], .int .i64 4]) (by simp [results, Tryz.results24, go_sem]) rfl ?_
          exact ⟨_, rfl, egw_zero _ _, (((Below.refl _ _).alloc (Nat.le_refl _) _).alloc (by simp) _).alloc (by simp; omega) _⟩
    · have hlst : ((bs n).toList == [0]) = false := by rw [bs_list]; simpa using hn
      clear hgood
      go_enter Tryz.func24, Tryz.ntmps24
      go_wp2_with fail
      refine bodyPost_ret (v := .tuple #[.agg #[.int .i64 0, .int .i64 0, .int .i64 0, .bool false, .slice none 0 0], .int .i64 4]) (by simp [results, Tryz.results24, go_sem]) rfl ?_
      exact ⟨_, rfl, egw_zero _ _, (((Below.refl _ _).alloc (Nat.le_refl _) _).alloc (by simp) _).alloc (by simp; omega) _⟩
end Go.Proofs.YtpdaekgldgoalaaGreat
