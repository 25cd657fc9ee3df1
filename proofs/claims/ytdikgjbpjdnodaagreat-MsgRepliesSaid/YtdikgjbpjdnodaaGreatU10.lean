/-
  A strings.Builder of the call's own: what it checks of itself, and writing.
-/
import Derived.Test.YtdikgjbpjdnodaaGreatU02
import Derived.Test.YtdikgjbpjdnodaaGreatShelf
import Derived.Lib.FrozenHead
import Derived.Test.YtdikgjbpjdnodaaGreatU06
import Derived.Test.YtdikgjbpjdnodaaGreatU09
import Derived.BigQuiet
import Derived.Test.YtdikgjbpjdnodaaGreatU04
namespace Go.Proofs.YtdikgjbpjdnodaaGreat
open Go.RowKit Go.Shelf
set_option linter.unusedVariables false
set_option maxRecDepth 100000
set_option linter.unusedSimpArgs false

/-- Block b is a builder that holds the bytes l, with p for its own address; its row lies in blocks from B on. -/
def Bp (w : World) (B b : Nat) (p : Value) (l : List UInt8) : Prop :=
  ∃ v, w.heap[b]? = some (.cells #[p, v] 203 (0, 0)) ∧ OwnU w B v l ∧ b < B

/-- .. used or not. -/
def Bd (w : World) (B b : Nat) (l : List UInt8) : Prop := Bp w B b (.pointer none) l ∨ Bp w B b (.pointer (some ⟨b, 0, none⟩)) l

theorem Bp.lt {w : World} {B b : Nat} {p : Value} {l : List UInt8} (h : Bp w B b p l) : b < w.heap.size := by
  obtain ⟨v, h1, _⟩ := h
  exact (Array.getElem?_eq_some_iff.mp h1).1
theorem Bp.aside {w w' : World} {B b : Nat} {p : Value} {l : List UInt8} {G : Nat → Prop} (h : Bp w B b p l) (ha : Aside G w w') (h0 : ¬ G b) (hG : ∀ k, B ≤ k → ¬ G k) : Bp w' B b p l := by
  have hl := h.lt
  obtain ⟨v, h1, h2, h3⟩ := h
  exact ⟨v, (ha.block b hl h0).trans h1, h2.aside ha hG, h3⟩
theorem Bd.aside {w w' : World} {B b : Nat} {l : List UInt8} {G : Nat → Prop} (h : Bd w B b l) (ha : Aside G w w') (h0 : ¬ G b) (hG : ∀ k, B ≤ k → ¬ G k) : Bd w' B b l :=
  h.elim (fun h => .inl (h.aside ha h0 hG)) (fun h => .inr (h.aside ha h0 hG))
theorem Bd.lt {w : World} {B b : Nat} {l : List UInt8} (h : Bd w B b l) : b < w.heap.size := h.elim Bp.lt Bp.lt
theorem Bd.below {w w' : World} {B b : Nat} {l : List UInt8} (h : Bd w B b l) (hb : Below w.heap.size w w') : Bd w' B b l :=
  h.aside (G := fun _ => False) (Aside.of_all hb) (fun h => h) fun _ _ h => h
theorem Bp.cells {w : World} {B b : Nat} {p : Value} {l : List UInt8} (h : Bp w B b p l) : ∃ v, w.cell? ⟨b, 0, none⟩ = some p ∧ w.cell? ⟨b, 1, none⟩ = some v ∧ (∀ j, w.frozen? ⟨b, j, none⟩ = false) ∧ OwnU w B v l ∧ w.shape? b = some (203, 2) := by
  obtain ⟨v, h1, h2, h3⟩ := h
  exact ⟨v, by simp [World.cell?, h1], by simp [World.cell?, h1], fun j => by simp [World.frozen?, h1], h2, by simp [World.shape?, h1]⟩
theorem Bp.set {w : World} {B b : Nat} {p : Value} {l : List UInt8} (h : Bp w B b p l) (q : Value) : Bp (w.setCell ⟨b, 0, none⟩ q) B b q l := by
  obtain ⟨v, h1, h2, h3⟩ := h
  exact ⟨v, by simp [World.setCell, Array.getElem?_modify, h1], h2.setCell h3 _, h3⟩
theorem Bp.put {w : World} {B b : Nat} {p v v' : Value} {l : List UInt8} (h1 : w.heap[b]? = some (.cells #[p, v] 203 (0, 0))) (h2 : OwnU w B v' l) (h3 : b < B) : Bp (w.setCell ⟨b, 1, none⟩ v') B b p l :=
  ⟨v', by simp [World.setCell, Array.getElem?_modify, h1], h2.setCell h3 _, h3⟩

theorem sizeB : (Tryz.prog.info? 203).map (fun i => i.size) = some 2 := by kernel_rfl
theorem liesB : liesAt Tryz.prog Tryz.prog.depth 203 (2 / Tryz.prog.cellsOf 203) 0 203 1 = true := by kernel_rfl

/-- How a builder is behind a check of itself, or a write. -/
def BdPost (w : World) (G : Nat → Prop) (B b : Nat) (v : Value) (l : List UInt8) (e : Ending) (w' : World) : Prop :=
  e = .returned v ∧ Bp w' B b (.pointer (some ⟨b, 0, none⟩)) l ∧ Aside G w w'

theorem check_used {w : World} {B b : Nat} {l : List UInt8} (h : Bp w B b (.pointer (some ⟨b, 0, none⟩)) l) : Calls Tryz.prog 158 #[.pointer (some ⟨b, 0, none⟩)] w (BdPost w (fun k => k = b) B b (.tuple #[]) l) := by
  obtain ⟨j, hj, _⟩ := Option.map_eq_some_iff.1 sizeB
  obtain ⟨v, h0, _, _, _, _⟩ := h.cells
  have HH := Lib.hid h
  clear h
  go_enter Tryz.func158, Tryz.ntmps158
  go_wp2
  rw [Lib.run_neq_ptr_same w _ Tryz.underlying201 hj]
  go_wp2
  go_end0
  exact ⟨rfl, HH.out, Aside.refl _ _⟩

theorem check_fresh {w : World} {B b : Nat} {l : List UInt8} (h : Bp w B b (.pointer none) l) : Calls Tryz.prog 158 #[.pointer (some ⟨b, 0, none⟩)] w (BdPost w (fun k => k = b) B b (.tuple #[]) l) := by
  obtain ⟨j, hj, hjs⟩ := Option.map_eq_some_iff.1 sizeB
  obtain ⟨v, h0, _, hf, _, hsh⟩ := h.cells
  have HH := Lib.hid (And.intro (h.set (.pointer (some ⟨b, 0, none⟩))) (Aside.setCell (G := fun k => k = b) w (p := ⟨b, 0, none⟩) (.pointer (some ⟨b, 0, none⟩)) rfl))
  clear h
  have hc1 := Lib.run_to_unsafe (P := Tryz.prog) w (src := 201) (dst := 211) ⟨b, 0, none⟩ Tryz.underlying201 Tryz.underlying211 hj (by rw [hjs]; decide) hsh (Nat.zero_lt_succ 1)
  have hc2 := Lib.run_from_unsafe (P := Tryz.prog) w (src := 211) (dst := 201) ⟨b, 0, none⟩ Tryz.underlying211 Tryz.underlying201 hj hsh liesB
  have hcf : (callFunc 162 #[.pointer (some ⟨b, 0, none⟩)]).run Tryz.prog w = .ok (.value (.pointer (some ⟨b, 0, none⟩))) w := by
    rw [run_callFunc_extern Tryz.func162 (by kernel_rfl) (by kernel_rfl) (by kernel_rfl) (e := Extern.AbiNoEscape.same) (by kernel_rfl), Lib.run_noEscape]
    rfl
  have hne := fun w => Lib.run_neq_ptr_same (P := Tryz.prog) w (tp := 201) ⟨b, 0, none⟩ Tryz.underlying201 hj
  go_enter Tryz.func158, Tryz.ntmps158
  go_wp2
  go_end0
  exact ⟨rfl, HH.out⟩

theorem checkB_any {w : World} {B b : Nat} {l : List UInt8} (h : Bd w B b l) : Calls Tryz.prog 158 #[.pointer (some ⟨b, 0, none⟩)] w (BdPost w (fun k => k = b) B b (.tuple #[]) l) := h.elim check_fresh check_used

end Go.Proofs.YtdikgjbpjdnodaaGreat

/-
  join: the data of pieces.
-/
namespace Go.Proofs.YtdikgjbpjdnodaaGreat
open Go.RowKit Go.Shelf
set_option linter.unusedVariables false
set_option linter.unusedSimpArgs false
set_option maxRecDepth 100000

/-- A write of a text: append, and the store. -/
theorem writeS_step {W : World} {B b : Nat} {p : Value} {l l' : List UInt8} (h : Bp W B b p l) (hl : l.length + l'.length ≤ 1000000) (hB : B ≤ W.heap.size) :
    ∃ v a2 c2 W2, W.cell? ⟨b, 1, none⟩ = some v ∧ (Builtin.append_ #[28, 9] 28 #[v, .string (bs l')]).run Tryz.prog W = .ok (.slice a2 (l.length + l'.length) c2) W2 ∧
      W2.cell? ⟨b, 1, none⟩ = some v ∧ W2.frozen? ⟨b, 1, none⟩ = false ∧ Bp (W2.setCell ⟨b, 1, none⟩ (.slice a2 (l.length + l'.length) c2)) B b p (l ++ l') ∧
      Aside (fun k => k = b ∨ B ≤ k) W (W2.setCell ⟨b, 1, none⟩ (.slice a2 (l.length + l'.length) c2)) := by
  have hlt := h.lt
  obtain ⟨v, h1, h2, h3⟩ := h
  obtain ⟨a2, c2, W2, hr, ho, hg⟩ := run_appS (w := W) B v l l' h2 hl hB
  have ha : Aside (fun k => B ≤ k) W W2 := Aside.grown hg fun k hk => h2.row k hk
  have hb2 : W2.heap[b]? = some (.cells #[p, v] 203 (0, 0)) := (ha.block b hlt (by omega)).trans h1
  refine ⟨v, a2, c2, W2, by simp [World.cell?, h1], hr, by simp [World.cell?, hb2], by simp [World.frozen?, hb2], Bp.put hb2 ho h3, ?_⟩
  exact (ha.mono fun _ _ h => .inr h).trans (Aside.setCell _ _ (.inl rfl))

theorem writeS_any {w : World} {B b : Nat} {l l' : List UInt8} (h : Bd w B b l) (hl : l.length + l'.length ≤ 1000000) (hB : B ≤ w.heap.size) :
    Calls Tryz.prog 152 #[.pointer (some ⟨b, 0, none⟩), .string (bs l')] w (BdPost w (fun k => k = b ∨ B ≤ k) B b (.tuple #[.int .i64 l'.length, .nilIface]) (l ++ l')) := by
  have HC := Lib.hid (checkB_any h)
  obtain ⟨n, hn⟩ : ∃ n, l'.length = n := ⟨_, rfl⟩
  clear h
  have hsz : (bs l').size = n := by rw [bs_size, hn]
  rw [hn]
  go_enter Tryz.func152, Tryz.ntmps152
  go_wp2_with fail
  refine HC.out.mono ?_; rintro e w1 ⟨rfl, hp, ha⟩
  have hs := ha.size
  replace ha := ha.mono (G' := fun k => k = b ∨ B ≤ k) fun _ _ h => .inl h
  obtain ⟨v, a2, c2, W2, q1, hr, q2, q3, hq, ha2⟩ := writeS_step (W := w1) (l' := l') hp hl (by omega)
  rw [hn] at hr hq ha2
  have HR := Lib.hid hr
  have HH := Lib.hid (And.intro hq (ha.trans ha2))
  clear hr hq ha ha2 hp hs hn
  go_wp2_with (at_builtin; refine wpList_append_run (.tmp 12) (.tmp 13) 28 9 rfl rfl rfl rfl HR.out ?_)
  go_ret2
  exact ⟨rfl, HH.out⟩

theorem joined_take {L : List Pc} {k : Nat} (h : k < L.length) : joined (L.take (k + 1)) = joined (L.take k) ++ L[k].1 := by
  rw [List.take_add_one, List.getElem?_eq_getElem h, Option.toList_some, joined_app]
  simp [joined]

theorem joined_part (L : List Pc) (k : Nat) : (joined (L.take k)).length ≤ (joined L).length := by
  have := congrArg (fun x => (joined x).length) (List.take_append_drop k L)
  simp only [joined_app, List.length_append] at this
  omega

set_option maxHeartbeats 4000000 in
theorem joinP_any {w : World} {B : Nat} {v : Value} {L : List Pc} (h : OwnP w B v L) (hl : (joined L).length ≤ 1000000) (hn : L.length ≤ 1000000) : Calls Tryz.prog 146 #[v] w (Tells w (.string (bs (joined L)))) := by
  have HO := Lib.hid h
  obtain ⟨av, cv, rfl⟩ := h.shape
  obtain ⟨n, hnn⟩ : ∃ n, L.length = n := ⟨_, rfl⟩
  have HN := Lib.hid hnn
  rw [hnn] at HO hn ⊢
  have HL := Lib.hid hl
  clear h hnn hl
  have hb0 : Below w.heap.size w (w.alloc (.cells #[.pointer none, .slice none 0 0] 203)) := (Below.refl _ _).alloc (Nat.le_refl _) _
  have hd0 : Bd (w.alloc (.cells #[.pointer none, .slice none 0 0] 203)) (w.heap.size + 1) w.heap.size [] := .inl ⟨.slice none 0 0, heap_alloc_new w _, OwnU.nil _ _, by omega⟩
  have HB0 := Lib.hid hb0
  have HD0 := Lib.hid hd0
  clear hb0 hd0
  go_enter Tryz.func146, Tryz.ntmps146
  go_wp2_with fail
  go_loopg [8] n (fun g v8 wr => ∃ k : Nat, k + g = n ∧ v8 = .int .i64 k ∧ Hid (Bd wr (w.heap.size + 1) w.heap.size (joined (L.take k))) ∧ Hid (Below w.heap.size w wr) ∧ w.heap.size + 1 ≤ wr.heap.size)
  case atStart => exact ⟨0, by omega, rfl, HD0, HB0, by simp⟩
  case round =>
    obtain ⟨k, hk, rfl, HD, HB, hsz⟩ := hrel
    by_cases hlt0 : k < n
    · have hlt : k < L.length := by have := HN.out; omega
      have hown := (HO.out)
      obtain ⟨g0, c0, he0, hc0, hc1⟩ := OwnP.at_ (v := .slice av L.length cv) (K := L) (w := w) (B := B) (by rw [HN.out]; exact HO.out) k hlt
      injection he0 with he1 he2 he3
      subst he1
      subst he3
      clear he2 hown
      have hg0 : g0 < w.heap.size := World.block_lt_of_cell? w _ hc0
      have d0 := (HB.out.cell (p := ⟨g0, k * 2, none⟩) hg0).trans hc0
      have d1 := (HB.out.cell (p := ⟨g0, k * 2 + 1, none⟩) hg0).trans hc1
      have hjt := joined_take hlt
      have hjp := joined_part L (k + 1)
      obtain ⟨x, hx⟩ : ∃ x, L[k].1 = x := ⟨_, rfl⟩
      obtain ⟨f, hf⟩ : ∃ f, L[k].2 = f := ⟨_, rfl⟩
      rw [hx] at d0 hjt
      rw [hf] at d1
      have hal : Below wr.heap.size wr (wr.alloc (.cells #[.string (bs x), .bool f] 184)) := (Below.refl _ _).alloc (Nat.le_refl _) _
      have HW := Lib.hid (writeS_any (l' := x) (HD.out.below hal) (by rw [hjt, List.length_append] at hjp; have := HL.out; omega) (by have := hal.size; omega))
      have HBA := Lib.hid (bel_call HB.out hal)
      have HJ := Lib.hid hjt
      clear hc0 hc1 hjt hjp hx hf hal HD
      go_wp2_with fail
      refine HW.out.mono ?_
      rintro e w2 ⟨rfl, hp, ha2⟩
      have hs2 := ha2.size
      simp only [World.size_alloc] at hs2
      have HD2 : Hid (Bd w2 (w.heap.size + 1) w.heap.size (joined (L.take (k + 1)))) := by rw [HJ.out]; exact .inr hp
      have HB2 := Lib.hid (below_aside HBA.out ha2 fun b hb => ⟨Nat.lt_of_lt_of_le hb HBA.out.size, by omega⟩)
      clear hp ha2
      go_wp2_with fail
      go_roundg (n - (k + 1))
      case measure => omega
      case rel => exact ⟨k + 1, by omega, by go_num, HD2, HB2, by omega⟩
    · have hke : k = n := by omega
      subst hke
      have hd := HD.out
      rw [List.take_of_length_le (by have := HN.out; omega)] at hd
      have hBF : Lib.IsBuilderF 203 5 w.heap.size w.heap.size (Lib.byteCells (joined L)) wr := by
        have key : ∀ p, Bp wr (w.heap.size + 1) w.heap.size p (joined L) → Lib.BuilderAtF 203 5 w.heap.size w.heap.size p (Lib.byteCells (joined L)) wr := by
          rintro p ⟨v, h1, h2, h3⟩
          have h4 := h2.mono (B' := w.heap.size) (by omega)
          have h5 : wr.ownsRowF w.heap.size 5 1 v (Lib.byteCells (joined L)).length (Lib.byteCells (joined L)) := by rw [Lib.byteCells_length]; exact h4
          refine ⟨Nat.le_refl _, v, h1, h5, fun e => ?_⟩
          have := h2.row _ e
          omega
        exact hd.elim (fun h => .inl (key _ h)) (fun h => .inr (key _ h))
      have HS := Lib.hid (Tryz.Builder_String_any_k w.heap.size w.heap.size (joined L) wr hBF (by omega))
      clear hd hBF HD
      go_wp2_with fail
      refine HS.out.mono ?_
      rintro e w2 ⟨rfl, _, hb2, _⟩
      have HB2 := Lib.hid (HB.out.trans hb2)
      clear hb2
      go_wp2_with fail
      go_ret
      exact ⟨rfl, HB2.out⟩
end Go.Proofs.YtdikgjbpjdnodaaGreat

/-
  bounded, split.
-/
namespace Go.Proofs.YtdikgjbpjdnodaaGreat
open Go.RowKit Go.Shelf
set_option linter.unusedVariables false
set_option linter.unusedSimpArgs false
set_option maxRecDepth 100000

theorem bounded_yes (t : Int) (h0 : 0 ≤ t) (h1 : t ≤ 65535) (w : World) : Calls Tryz.prog 142 #[.int .i64 t] w fun e w' => e = .returned (.bool true) ∧ w = w' := by
  have t1 : decide ((0 : Int) ≤ t) = true := by simpa using h0
  have t2 : decide (t ≤ (65535 : Int)) = true := by simpa using h1
  go_enter Tryz.func142, Tryz.ntmps142
  go_wp2
  go_ret
  exact ⟨rfl, rfl⟩

theorem bounded_no (t : Int) (h : t < 0 ∨ 65535 < t) (w : World) : Calls Tryz.prog 142 #[.int .i64 t] w fun e w' => e = .returned (.bool false) ∧ w = w' := by
  by_cases h0 : 0 ≤ t
  · have t1 : decide ((0 : Int) ≤ t) = true := by simpa using h0
    have t2 : decide (t ≤ (65535 : Int)) = false := by simp; omega
    clear h
    go_enter Tryz.func142, Tryz.ntmps142
    go_wp2
    go_ret
    exact ⟨rfl, rfl⟩
  · have t1 : decide ((0 : Int) ≤ t) = false := by simp; omega
    clear h
    go_enter Tryz.func142, Tryz.ntmps142
    go_wp2
    go_ret
    exact ⟨rfl, rfl⟩

/-- What split tells. -/
def SplitPost (w : World) (R : RR) (en : Ending) (w' : World) : Prop :=
  ∃ v, en = .returned (.tuple #[v, .int .i64 R.code]) ∧ OwnP w' w.heap.size v R.pcs ∧ Below w.heap.size w w'

theorem wf_small {t : Int} (h0 : 0 ≤ t) (h1 : t ≤ 65535) : (Lit.int .i64 t).wf = true := WalkArith.wf_i64 (by omega)

set_option maxHeartbeats 4000000 in
theorem split_any (t : Int) (d : List UInt8) (hd : d.length ≤ 1000000) (w : World) : Calls Tryz.prog 136 #[.int .i64 t, .string (bs d)] w (SplitPost w (spl t d)) := by
  have hsz : (bs d).size = d.length := bs_size d
  by_cases ht : t < 0 ∨ 65535 < t
  · have e : spl t d = .bad 5 0 := by unfold spl; rw [if_pos ht]
    rw [e]
    have HB := Lib.hid (bounded_no t ht w)
    clear ht e hsz
    go_enter Tryz.func136, Tryz.ntmps136
    go_wp2_with fail
    refine HB.out.mono ?_; rintro e w1 ⟨rfl, rfl⟩
    go_wp2_with fail
    go_ret2
    exact ⟨_, rfl, OwnP.nil _ _, Below.refl _ _⟩
  · have HB := Lib.hid (bounded_yes t (by omega) (by omega) w)
    by_cases hlong : 65535 < d.length
    · have e : spl t d = .bad 3 0 := by unfold spl; rw [if_neg ht, if_pos hlong]
      rw [e]
      have t1 : decide ((65535 : Int) < d.length) = true := by simp; omega
      clear ht e
      go_enter Tryz.func136, Tryz.ntmps136
      go_wp2_with fail
      refine HB.out.mono ?_; rintro e w1 ⟨rfl, rfl⟩
      go_wp2_with fail
      go_ret2
      exact ⟨_, rfl, OwnP.nil _ _, Below.refl _ _⟩
    · have e : spl t d = goP (pln d) d 0 d.length (kinds t) 0 [] := by unfold spl; rw [if_neg ht, if_neg hlong]
      rw [e]
      have t1 : decide ((65535 : Int) < d.length) = false := by simp; omega
      obtain ⟨cap, W, hcv, ho, hbW, hltW⟩ := conv_B w d (by omega)
      have HR := Lib.hid (show Calls Tryz.prog 143 #[.agg #[.slice (some ⟨w.heap.size, 0, none⟩) d.length cap, .int .i64 0, .int .i64 0, .int .i64 d.length, .func (.func 144) #[] #[], .slice none 0 0], .int .i64 t] W (ReadPost W (goP (pln d) d 0 d.length (kinds t) 0 [])) from
        read_plain (s := 0) (p := 0) t (wf_small (by omega) (by omega)) ho.sl (Nat.le_refl _) hd (Nat.zero_le _) (Nat.le_refl _) fun wx hs hh p => plain_any hs hh hd p)
      obtain ⟨R, hR⟩ : ∃ R, goP (pln d) d 0 d.length (kinds t) 0 [] = R := ⟨_, rfl⟩
      rw [hR] at HR ⊢
      have HW := Lib.hid hbW
      clear ht hlong e ho hbW hltW hR
      go_enter Tryz.func136, Tryz.ntmps136
      go_wp2_with fail
      refine HB.out.mono ?_; rintro e w1 ⟨rfl, rfl⟩
      go_wp2_with fail
      refine HR.out.mono ?_; rintro e w1 ⟨v, rfl, hown, hb1⟩
      have HO := Lib.hid hown
      have HB1 := Lib.hid (bel_call HW.out hb1)
      have hws := HW.out.size
      clear hown hb1
      go_wp2_with fail
      go_quiet (fail)
      go_wp2_with fail
      go_ret2
      exact ⟨v, rfl, ((HO.out.mono hws).below ((Below.refl _ _).alloc (Nat.le_refl _) _)).below (below_drewN (Below.refl _ _) _), below_drewN (bel_alloc HB1.out _) _⟩
end Go.Proofs.YtdikgjbpjdnodaaGreat

/-
  Check, Target, Address, Least.
-/
namespace Go.Proofs.YtdikgjbpjdnodaaGreat
open Go.RowKit Go.Shelf
set_option linter.unusedVariables false
set_option linter.unusedSimpArgs false
set_option maxRecDepth 100000

theorem split_ok {t : Int} {d : List UInt8} {L : List Pc} (h : spl t d = .ok L) (hd : d.length ≤ 1000000) (w : World) : Calls Tryz.prog 136 #[.int .i64 t, .string (bs d)] w fun en w' => ∃ v, en = .returned (.tuple #[v, .int .i64 0]) ∧ OwnP w' w.heap.size v L ∧ Below w.heap.size w w' := by
  have := split_any t d hd w
  rw [h] at this
  exact this
theorem split_bad {t : Int} {d : List UInt8} {c : Int} {a : Nat} (h : spl t d = .bad c a) (hd : d.length ≤ 1000000) (w : World) : Calls Tryz.prog 136 #[.int .i64 t, .string (bs d)] w fun en w' => ∃ v, en = .returned (.tuple #[v, .int .i64 c]) ∧ Below w.heap.size w w' := by
  have := split_any t d hd w
  rw [h] at this
  refine this.mono ?_
  rintro e w' ⟨v, rfl, _, hb⟩
  exact ⟨v, rfl, hb⟩

theorem rcheckD_any (t : Int) (d : List UInt8) (hd : d.length ≤ 1000000) (w : World) : Calls Tryz.prog 131 #[.int .i64 t, .string (bs d)] w (Tells w (.int .i64 (spl t d).code)) := by
  have HS := Lib.hid (split_any t d hd w)
  obtain ⟨R, hR⟩ : ∃ R, spl t d = R := ⟨_, rfl⟩
  rw [hR] at HS ⊢
  clear hR
  go_enter Tryz.func131, Tryz.ntmps131
  go_wp2_with fail
  refine HS.out.mono ?_; rintro e w1 ⟨v, rfl, hown, hb1⟩
  have HB := Lib.hid hb1
  clear hown hb1
  go_wp2_with fail
  go_ret
  exact ⟨rfl, HB.out⟩

theorem fits_len {ks : List PK} {L : List Pc} (h : Fits ks L) : L.length = ks.length := by
  induction h with
  | nil => rfl
  | fix h h2 ih => simp [ih]
  | nam h h2 ih => simp [ih]
  | txt h => rfl
  | rst => rfl

end Go.Proofs.YtdikgjbpjdnodaaGreat

/-
  Read.
-/
namespace Go.Proofs.YtdikgjbpjdnodaaGreat
open Go.RowKit Go.Shelf
set_option linter.unusedVariables false
set_option linter.unusedSimpArgs false
set_option maxRecDepth 100000

/-- How long what is read may be. -/
theorem go_len {F : Nat → Got} {b : List UInt8} {s e : Nat} (hF : ∀ p, (F p).2.2.1 = 0 → (F p).1.length ≤ 255) : ∀ (ks : List PK) (p : Nat) (acc L : List Pc), goP F b s e ks p acc = .ok L → (joined L).length ≤ (joined acc).length + ks.length * (b.length + 255) ∧ L.length = acc.length + ks.length
  | [], p, acc, L, h => by
    rw [goP] at h
    split at h
    · simp at h
    · injection h with h; subst h; simp
  | k :: ks, p, acc, L, h => by
    rw [goP] at h
    split at h
    · rename_i x q hx
      have hlen : x.1.length ≤ b.length + 255 := by
        have hcut : ∀ q', cutP b s e p q' = .ok x q → x.1.length ≤ b.length + 255 := by
          intro q' hq
          unfold cutP at hq
          split at hq
          · simp at hq
          · injection hq with h1 h2
            subst h1
            simp only [List.length_take, List.length_drop]
            omega
        cases k with
        | fix n => exact hcut _ hx
        | nam =>
          simp only [stepP] at hx
          split at hx
          · simp at hx
          · split at hx
            · simp at hx
            · rename_i h0
              split at hx
              · simp at hx
              · injection hx with h1 h2
                subst h1
                have := hF p (by simpa using h0)
                show (F p).1.length ≤ _
                omega
        | txt =>
          rw [txR_step] at hx
          cases hy : txE b e (e + 1) p with
          | none => rw [hy] at hx; simp [txR] at hx
          | some y => rw [hy] at hx; exact hcut _ hx
        | rst => exact hcut _ hx
      obtain ⟨h1, h2⟩ := go_len hF ks q (acc ++ [x]) L h
      rw [joined_app, List.length_append] at h1
      have h3 : joined [x] = x.1 := by simp [joined]
      rw [h3] at h1
      rw [List.length_append] at h2
      simp only [List.length_cons, List.length_nil] at h2 ⊢
      refine ⟨?_, by omega⟩
      rw [Nat.add_mul]
      omega
    · simp at h

theorem rda_len (b : List UInt8) (p : Nat) (h : (rda b p).2.2.1 = 0) : (rda b p).1.length ≤ 255 := (chk_pos (rda_fine b p h).1).2

theorem rdR_byt (b : List UInt8) (a size t : Int) (h : ¬ (t < 0 ∨ 65535 < t ∨ size < 0 ∨ 65535 < size)) :
    rdR b a size t = if bytE b.length a size ≠ 0 then .bad (bytE b.length a size) (bytA b.length a size).toNat else goP (fun p => rda b p) b a.toNat (a.toNat + size.toNat) (kinds t) a.toNat [] := by
  have e0 : rdR b a size t = if a < 0 ∨ (b.length : Int) < a then .bad 5 0 else if (b.length : Int) < a + size then .bad 4 b.length else goP (fun p => rda b p) b a.toNat (a.toNat + size.toNat) (kinds t) a.toNat [] := by unfold rdR; rw [if_neg h]
  rw [e0]
  by_cases h1 : a < 0 ∨ (b.length : Int) < a
  · have e1 : bytE b.length a size = 5 := by unfold bytE; rw [if_neg (by omega), if_pos h1]
    have e2 : bytA b.length a size = 0 := by unfold bytA; rw [if_neg (by omega)]
    rw [if_pos h1, e1, e2, if_pos (by decide)]; rfl
  · rw [if_neg h1]
    by_cases h2 : (b.length : Int) < a + size
    · have e1 : bytE b.length a size = 4 := by unfold bytE; rw [if_neg (by omega), if_neg h1, if_pos h2]
      have e2 : bytA b.length a size = b.length := by unfold bytA; rw [if_pos (by omega)]
      rw [if_pos h2, e1, e2, if_pos (by decide)]; rfl
    · have e1 : bytE b.length a size = 0 := by unfold bytE; rw [if_neg (by omega), if_neg h1, if_neg h2]
      rw [if_neg h2, e1, if_neg (by simp)]

theorem aside_set2 (w : World) (g : Nat) (x y : Value) : Aside (fun b => b = g) w ((w.setCell ⟨g, 0, none⟩ x).setCell ⟨g, 1, none⟩ y) :=
  (Aside.setCell (G := fun b => b = g) w (p := ⟨g, 0, none⟩) x rfl).trans (Aside.setCell (G := fun b => b = g) _ (p := ⟨g, 1, none⟩) y rfl)

set_option maxHeartbeats 4000000 in
theorem readD_any {w : World} {lo hi : Nat} {v : Value} {b : List UInt8} (hS : Sl w lo hi v (iz b)) (hhi : hi ≤ w.heap.size) (hbl : b.length ≤ 300000) (a size t : Int) (ht : (Lit.int .i64 t).wf = true) :
    Calls Tryz.prog 139 #[v, .int .i64 a, .int .i64 size, .int .i64 t] w (Tells w (.tuple #[.string (bs (joined (rdR b a size t).pcs)), .agg #[.int .i64 (rdR b a size t).code, .int .i64 (rdR b a size t).place]])) := by
  have hb0 : Below w.heap.size w (w.alloc (.cells #[.int .i64 0, .int .i64 0] 43)) := (Below.refl _ _).alloc (Nat.le_refl _) _
  have HB0 := Lib.hid hb0
  have hS2 := hS
  obtain ⟨av, cv, rfl, _⟩ := hS
  replace hS2 : Sl w lo hi (.slice av b.length cv) (iz b) := by rw [iz_len] at hS2; exact hS2
  rw [iz_len]
  by_cases harg : t < 0 ∨ 65535 < t ∨ size < 0 ∨ 65535 < size
  · have e : rdR b a size t = .bad 2 0 := by unfold rdR; rw [if_pos harg]
    rw [e]
    show Calls _ _ _ _ (Tells w (.tuple #[.string (bs []), .agg #[.int .i64 2, .int .i64 0]]))
    by_cases ht1 : t < 0 ∨ 65535 < t
    · have HT := Lib.hid (fun wx => bounded_no t ht1 wx)
      clear harg e ht1
      go_enter Tryz.func139, Tryz.ntmps139
      go_wp2_with fail
      refine (HT.out _).mono ?_; rintro e w1 ⟨rfl, rfl⟩
      go_wp2_with fail
      exact bodyPost_ret (by simp [results, Tryz.results139, go_sem]; rfl) rfl ⟨rfl, (Below.refl _ _).alloc (Nat.le_refl _) _⟩
    · have HT := Lib.hid (fun wx => bounded_yes t (by omega) (by omega) wx)
      have HT2 := Lib.hid (fun wx => bounded_no size (by omega) wx)
      clear harg e ht1
      go_enter Tryz.func139, Tryz.ntmps139
      go_wp2_with fail
      refine (HT.out _).mono ?_; rintro e w1 ⟨rfl, rfl⟩
      go_wp2_with fail
      refine (HT2.out _).mono ?_; rintro e w1 ⟨rfl, rfl⟩
      go_wp2_with fail
      exact bodyPost_ret (by simp [results, Tryz.results139, go_sem]; rfl) rfl ⟨rfl, (Below.refl _ _).alloc (Nat.le_refl _) _⟩
  · have HT := Lib.hid (fun wx => bounded_yes t (by omega) (by omega) wx)
    have HT2 := Lib.hid (fun wx => bounded_yes size (by omega) (by omega) wx)
    have HBy := Lib.hid (bytes_any (hS2.below hb0 hhi) (by rw [iz_len]; omega) (Nat.le_trans hhi hb0.size) a size (by omega))
    rw [iz_len] at HBy
    rw [rdR_byt b a size t harg]
    by_cases hE : bytE b.length a size = 0
    · rw [if_neg (by simpa using hE)]
      have hin : 0 ≤ a ∧ 0 ≤ size ∧ a + size ≤ b.length := by
        unfold bytE at hE
        split at hE
        · simp at hE
        · split at hE
          · simp at hE
          · split at hE
            · simp at hE
            · omega
      obtain ⟨p, rfl⟩ : ∃ p : Nat, a = p := ⟨a.toNat, by omega⟩
      obtain ⟨m, rfl⟩ : ∃ m : Nat, size = m := ⟨size.toNat, by omega⟩
      have hA : bytA b.length p m = 0 := by unfold bytA; rw [if_neg (by omega)]
      have hF : bytF b.length p m = ((p + m : Nat) : Int) := by unfold bytF; rw [if_pos (by omega)]; push_cast; rfl
      rw [hE, hA, hF] at HBy
      rw [Int.toNat_natCast, Int.toNat_natCast]
      obtain ⟨q, hq⟩ : ∃ q, p + m = q := ⟨_, rfl⟩
      rw [hq] at HBy ⊢
      have HRd := Lib.hid (fun wx (hb : Below w.heap.size w wx) => read_read (s := p) (p := p) (e := q) (F := fun p => rda b p) t ht (hS2.below hb hhi) (Nat.le_trans hhi hb.size) (by omega) (by omega) (by omega) fun wy hs hh p => read_any hs hh (by omega) p)
      have HGl := Lib.hid (fun L (h : goP (fun p => rda b p) b p q (kinds t) p [] = .ok L) => go_len (F := fun p => rda b p) (b := b) (s := p) (e := q) (fun p h => rda_len b p h) (kinds t) p [] L h)
      have HK3 := Lib.hid (kinds_small t).1
      obtain ⟨R, hR⟩ : ∃ R, goP (fun p => rda b p) b p q (kinds t) p [] = R := ⟨_, rfl⟩
      rw [hR] at HRd HGl ⊢
      have HJ : Hid (∀ wx B v, OwnP wx B v R.pcs → Calls Tryz.prog 146 #[v] wx (Tells wx (.string (bs (joined R.pcs))))) := by
        intro wx B v hown
        refine joinP_any hown ?_ ?_
        · rcases R with L | ⟨c, aa⟩
          · obtain ⟨h1, h2⟩ := HGl.out L rfl
            have hk := HK3.out
            show (joined L).length ≤ _
            have h3 : (joined ([] : List Pc)).length = 0 := rfl
            have h4 : (kinds t).length * (b.length + 255) ≤ 3 * (b.length + 255) := Nat.mul_le_mul_right _ hk
            omega
          · show (joined []).length ≤ _; simp [joined]
        · rcases R with L | ⟨c, aa⟩
          · obtain ⟨h1, h2⟩ := HGl.out L rfl
            have hk := HK3.out
            show L.length ≤ _
            simp at h2
            omega
          · simp [RR.pcs]
      clear harg hE hin hA hF hq hR HGl hS2
      go_enter Tryz.func139, Tryz.ntmps139
      go_wp2_with fail
      refine (HT.out _).mono ?_; rintro e w1 ⟨rfl, rfl⟩
      go_wp2_with fail
      refine (HT2.out _).mono ?_; rintro e w1 ⟨rfl, rfl⟩
      go_wp2_with fail
      refine HBy.out.mono ?_; rintro e w1 ⟨v1, g1, rfl, _, _, _, hb1⟩
      simp only [World.size_alloc] at hb1
      have HB1 := Lib.hid hb1
      have hlt := below_lt hb1
      obtain ⟨k0, k1, k3⟩ := res_cells hb1
      have HBW := Lib.hid (HB0.out.trans (hb1.mono (Nat.le_succ _)))
      have HR2 := Lib.hid (HRd.out (w1.alloc (.cells #[.int .i64 0, .int .i64 0] 43)) (bel_alloc HBW.out _))
      clear hb1
      go_wp2_with fail
      refine HR2.out.mono ?_; rintro e w3 ⟨v3, rfl, hown, hb3⟩
      simp only [World.size_alloc] at hown
      have m0 : w3.cell? ⟨w1.heap.size, 0, none⟩ = some (.int .i64 0) := cell_later hb3 (by simp [go_sem])
      have m1 : w3.cell? ⟨w1.heap.size, 1, none⟩ = some (.int .i64 0) := cell_later hb3 (by simp [go_sem])
      have mf : ∀ j, w3.frozen? ⟨w1.heap.size, j, none⟩ = false := fun j => (hb3.frozen (p := ⟨w1.heap.size, j, none⟩) (by simp)).trans (by simp [go_sem])
      have hal1 : Below w1.heap.size w1 (w1.alloc (.cells #[.int .i64 0, .int .i64 0] 43)) := (Below.refl _ _).alloc (Nat.le_refl _) _
      have n0 : w3.cell? ⟨w.heap.size, 0, none⟩ = some (.int .i64 0) := cell_later hb3 (cell_later hal1 k0)
      have n1 : w3.cell? ⟨w.heap.size, 1, none⟩ = some (.int .i64 0) := cell_later hb3 (cell_later hal1 k1)
      have nf : ∀ j, w3.frozen? ⟨w.heap.size, j, none⟩ = false := fun j => (hb3.frozen (p := ⟨w.heap.size, j, none⟩) (by simp; omega)).trans ((hal1.frozen (p := ⟨w.heap.size, j, none⟩) hlt).trans (k3 j))
      obtain ⟨g, hg⟩ : ∃ g, w1.heap.size = g := ⟨_, rfl⟩
      rw [hg] at m0 m1 mf hlt hown ⊢
      obtain ⟨C, hC⟩ : ∃ C, R.code = C := ⟨_, rfl⟩
      obtain ⟨A, hA⟩ : ∃ A, R.place = A := ⟨_, rfl⟩
      rw [hC, hA]
      have HCh := Lib.hid hC
      have HAh := Lib.hid hA
      obtain ⟨W4, hW4⟩ : ∃ W4, (w3.setCell ⟨g, 0, none⟩ (.int .i64 C)).setCell ⟨g, 1, none⟩ (.int .i64 A) = W4 := ⟨_, rfl⟩
      have HW4 := Lib.hid hW4
      have hAs : Aside (fun b => b = g) w3 W4 := by rw [← hW4]; exact aside_set2 w3 g _ _
      obtain ⟨q0, q1⟩ := res_set (.int .i64 C) (.int .i64 A) m0 m1
      have q0' : W4.cell? ⟨g, 0, none⟩ = some (.int .i64 C) := by rw [← hW4, World.cell?_setCell_other _ _ _ _ (by simp)]; exact q0
      have q1' : W4.cell? ⟨g, 1, none⟩ = some (.int .i64 A) := by rw [← hW4]; exact q1
      have hgw : ¬ w.heap.size = g := by omega
      have n0' := hAs.cell_lt n0 hgw
      have n1' := hAs.cell_lt n1 hgw
      have nf' : ∀ j, W4.frozen? ⟨w.heap.size, j, none⟩ = false := fun j => (hAs.frozen (p := ⟨w.heap.size, j, none⟩) (show w.heap.size < _ from World.block_lt_of_cell? w3 ⟨w.heap.size, 0, none⟩ n0) hgw).trans (nf j)
      have ho4 := hown.aside hAs fun b hb e => by have := (hown.lt b hb).1; omega
      have hbw3 : Below w.heap.size w w3 := bel_call (bel_alloc HBW.out _) hb3
      have hbw4 : Below w.heap.size w W4 := below_aside hbw3 hAs fun b hb => ⟨Nat.lt_of_lt_of_le hb hbw3.size, by omega⟩
      have hd4 : Below W4.heap.size W4 W4.drew := (Below.refl _ _).drew
      have HJ4 := Lib.hid (HJ.out W4.drew _ _ (ho4.below hd4))
      have HB4 := Lib.hid hbw4
      have HN4 := Lib.hid (And.intro n0' (And.intro n1' nf'))
      have HQ4 := Lib.hid (And.intro q0' q1')
      have mf0 := mf 0
      have mf1 := mf 1
      clear hown hb3 n0 n1 nf hAs q0 q1 q0' q1' hgw n0' n1' nf' ho4 hbw3 hbw4 hd4 k0 k1 k3 hal1 mf hC hA HR2 HRd HJ HBy
      go_wp2_with fail
      clear m0 m1 mf0 mf1 hW4
      obtain ⟨q0, q1⟩ := HQ4.out
      go_region_held3 (fun wx => wx.cell? ⟨g, 0, none⟩ = some (.int .i64 C) ∧ wx.cell? ⟨g, 1, none⟩ = some (.int .i64 A)) (first | exact HQ4.out | exact ⟨cell_later ((Below.refl _ W4).drew) HQ4.out.1, cell_later ((Below.refl _ W4).drew) HQ4.out.2⟩ | exact HQ5.out | exact ⟨(World.cell?_setCell_other _ _ _ _ (by first | (simp; done) | (simp; omega))).trans ((World.cell?_setCell_other _ _ _ _ (by first | (simp; done) | (simp; omega))).trans HQ5.out.1), (World.cell?_setCell_other _ _ _ _ (by first | (simp; done) | (simp; omega))).trans ((World.cell?_setCell_other _ _ _ _ (by first | (simp; done) | (simp; omega))).trans HQ5.out.2)⟩) (first | (go_at_call 146; refine HJ4.out.mono ?_; rintro e w5 ⟨rfl, hb5⟩; have hbb : Below W4.heap.size W4 w5 := bel_call ((Below.refl _ W4).drew) hb5; have HQ5 := Lib.hid (And.intro (cell_later hbb HQ4.out.1) (cell_later hbb HQ4.out.2)); have HB5 := Lib.hid hbb; have n0 := cell_later hbb HN4.out.1; have n1 := cell_later hbb HN4.out.2.1; have nf0 := (hbb.frozen (p := ⟨w.heap.size, 0, none⟩) (show w.heap.size < _ from World.block_lt_of_cell? W4 ⟨w.heap.size, 0, none⟩ HN4.out.1)).trans (HN4.out.2.2 0); have nf1 := (hbb.frozen (p := ⟨w.heap.size, 1, none⟩) (show w.heap.size < _ from World.block_lt_of_cell? W4 ⟨w.heap.size, 0, none⟩ HN4.out.1)).trans (HN4.out.2.2 1); clear hb5 hbb))
      obtain ⟨z0, z1⟩ := res_set (.int .i64 C) (.int .i64 A) n0 n1
      have HFin := Lib.hid (bel_set2 (bel_call HB4.out HB5.out) (Nat.le_refl _) (.int .i64 C) (.int .i64 A))
      clear HQ4 HQ5 HN4 q0 q1
      go_wp2_with fail
      exact bodyPost_ret (by simp [results, Tryz.results139, go_sem, z0, z1]; rfl) rfl ⟨by rw [HCh.out, HAh.out], HFin.out⟩
    · rw [if_pos hE]
      obtain ⟨E, hEe⟩ : ∃ E, bytE b.length a size = E := ⟨_, rfl⟩
      have hAp : bytA b.length a size = ((bytA b.length a size).toNat : Int) := by unfold bytA; split <;> simp
      obtain ⟨A, hAe⟩ : ∃ A, (bytA b.length a size).toNat = A := ⟨_, rfl⟩
      obtain ⟨F, hFe⟩ : ∃ F, bytF b.length a size = F := ⟨_, rfl⟩
      rw [hAe] at hAp
      rw [hEe, hAp, hFe] at HBy
      rw [hEe] at hE
      rw [hEe, hAe]
      show Calls _ _ _ _ (Tells w (.tuple #[.string (bs []), .agg #[.int .i64 E, .int .i64 A]]))
      have tE : (E != 0) = true := by simpa using hE
      clear harg hE hEe hAe hFe hAp hS2
      go_enter Tryz.func139, Tryz.ntmps139
      go_wp2_with fail
      refine (HT.out _).mono ?_; rintro e w1 ⟨rfl, rfl⟩
      go_wp2_with fail
      refine (HT2.out _).mono ?_; rintro e w1 ⟨rfl, rfl⟩
      go_wp2_with fail
      refine HBy.out.mono ?_; rintro e w1 ⟨v1, g1, rfl, _, _, _, hb1⟩
      simp only [World.size_alloc] at hb1
      have HB1 := Lib.hid hb1
      have hlt := below_lt hb1
      obtain ⟨k0, k1, k3⟩ := res_cells hb1
      have k30 := k3 0
      have k31 := k3 1
      clear hb1
      go_wp2_with fail
      go_region
      all_goals
        try go_wp2_with fail
        obtain ⟨z0, z1⟩ := res_set (.int .i64 E) (.int .i64 A) k0 k1
        exact bodyPost_ret (by simp [results, Tryz.results139, go_sem, z0, z1, hlt]; rfl) rfl ⟨rfl, below_drewN (res_below HB1.out _ _ _) 1⟩
end Go.Proofs.YtdikgjbpjdnodaaGreat

/-
  The reader that goes along a message: data; its methods.
-/
namespace Go.Proofs.YtdikgjbpjdnodaaGreat
open Go.RowKit Go.Shelf
set_option linter.unusedVariables false
set_option linter.unusedSimpArgs false
set_option maxRecDepth 100000

/-- Data are read. -/
def stD (b : List UInt8) (s : RS) (size t : Int) : RS := if s.e ≠ 0 then s else ⟨wrap64 (s.a + size), (rdR b s.a size t).code, ((rdR b s.a size t).place : Nat)⟩
def vlD (b : List UInt8) (s : RS) (size t : Int) (old : List UInt8) : List UInt8 := if s.e ≠ 0 then old else joined (rdR b s.a size t).pcs

set_option maxHeartbeats 4000000 in
theorem data1_any {w : World} {lo hi gs gt : Nat} {vb : Value} {b : List UInt8} {size t : Int} (hS : Sl w lo hi vb (iz b)) (hhi : hi ≤ w.heap.size) (hbl : b.length ≤ 300000) (hs : w.cell? ⟨gs, 0, none⟩ = some (.int .i64 size)) (hw : w.cell? ⟨gt, 0, none⟩ = some (.int .i64 t)) (a : Int) (ht : (Lit.int .i64 t).wf = true) :
    Calls Tryz.prog 138 #[vb, .int .i64 a, .pointer (some ⟨gs, 0, none⟩), .pointer (some ⟨gt, 0, none⟩)] w (Tells w (.tuple #[.string (bs (joined (rdR b a size t).pcs)), .int .i64 (wrap64 (a + size)), .agg #[.int .i64 (rdR b a size t).code, .int .i64 ((rdR b a size t).place : Nat)]])) := by
  have HB0 := Lib.hid ((Below.refl w.heap.size w).alloc (Nat.le_refl _) (.cells #[.int .i64 0, .int .i64 0] 43))
  have hrd := readD_any (w := w.alloc (.cells #[.int .i64 0, .int .i64 0] 43)) (hS.below HB0.out hhi) (Nat.le_trans hhi HB0.out.size) hbl a size t ht
  obtain ⟨n, hn⟩ : ∃ n, joined (rdR b a size t).pcs = n := ⟨_, rfl⟩
  obtain ⟨f, hf⟩ : ∃ f, (rdR b a size t).code = f := ⟨_, rfl⟩
  obtain ⟨g, hg⟩ : ∃ g : Int, ((rdR b a size t).place : Nat) = g := ⟨_, rfl⟩
  rw [hn, hf, hg] at hrd
  rw [hn, hf, hg]
  have HRd := Lib.hid hrd
  have hs1 := cell_later HB0.out hs
  have hw1 := cell_later HB0.out hw
  have ls := World.block_lt_of_cell? w _ hs
  have lw := World.block_lt_of_cell? w _ hw
  simp only at ls lw
  clear hrd hn hf hg hS
  go_enter Tryz.func138, Tryz.ntmps138
  go_wp2_with fail
  refine HRd.out.mono ?_; rintro en w1 ⟨rfl, hb1⟩
  have HB1 := Lib.hid (bel_call HB0.out hb1)
  have hs2 := cell_later hb1 hs1
  simp only [World.size_alloc] at hb1
  obtain ⟨k0, k1, k3⟩ := res_cells hb1
  have hlt := below_lt hb1
  have k30 := k3 0
  have k31 := k3 1
  have lg : gs < w1.heap.size := Nat.lt_of_lt_of_le ls HB1.out.size
  clear hb1 hs1 hw1 k3
  obtain ⟨A, hA⟩ : ∃ A, wrap64 (a + size) = A := ⟨_, rfl⟩
  have hA2 : IntKind.i64.wrap (a + size) = A := by rw [← hA, IntKind.wrap_i64]; first | rfl | (unfold wrap64; rfl)
  rw [hA]
  go_wp2_with fail
  go_region
  go_wp2_with fail
  obtain ⟨z0, z1⟩ := res_set (.int .i64 f) (.int .i64 g) k0 k1
  have hb2 := bel_set2 HB1.out (Nat.le_refl _) (.int .i64 f) (.int .i64 g)
  exact bodyPost_ret (by simp [results, Tryz.results138, go_sem, z0, z1, hlt]; rfl) rfl ⟨by rw [hA], (bel_alloc hb2 _).drew⟩

set_option maxHeartbeats 8000000 in
theorem data_next {w : World} {r q o lo hi gs gt : Nat} {vb : Value} {s : RS} {l : List Value} {b : List UInt8} {size t : Int} (hR : Rdr w r vb s) (hC : Cel w q l) (ho : o < l.length) (hne : r ≠ q) {old : List UInt8} (hold : l[o] = .string (bs old)) (hS : Sl w lo hi vb (iz b)) (hhi : hi ≤ w.heap.size) (hbl : b.length ≤ 300000) (hs : w.cell? ⟨gs, 0, none⟩ = some (.int .i64 size)) (hw : w.cell? ⟨gt, 0, none⟩ = some (.int .i64 t)) (ht : (Lit.int .i64 t).wf = true) :
    Calls Tryz.prog 107 #[.pointer (some ⟨r, 0, none⟩), .pointer (some ⟨q, o, none⟩), .func (.func 138) #[] #[.pointer (some ⟨gs, 0, none⟩), .pointer (some ⟨gt, 0, none⟩)]] w (NextPost w r q o vb (stD b s size t) (l.set o (.string (bs (vlD b s size t old))))) := by
  obtain ⟨a, e, p⟩ := s
  by_cases h0 : e = 0
  · subst h0
    have e1 : stD b ⟨a, 0, p⟩ size t = ⟨wrap64 (a + size), (rdR b a size t).code, ((rdR b a size t).place : Nat)⟩ := by unfold stD; rw [if_neg (by simp)]
    have e2 : vlD b ⟨a, 0, p⟩ size t old = joined (rdR b a size t).pcs := by unfold vlD; rw [if_neg (by simp)]
    rw [e1, e2]
    have hrd := data1_any (w := w.drew) (hS.below (Below.refl w.heap.size w).drew hhi) (Nat.le_trans hhi (Nat.le_refl _)) hbl (cell_later (Below.refl _ w).drew hs) (cell_later (Below.refl _ w).drew hw) a ht
    obtain ⟨n, hn⟩ : ∃ n, joined (rdR b a size t).pcs = n := ⟨_, rfl⟩
    obtain ⟨i, hi2⟩ : ∃ i, wrap64 (a + size) = i := ⟨_, rfl⟩
    obtain ⟨f, hf⟩ : ∃ f, (rdR b a size t).code = f := ⟨_, rfl⟩
    obtain ⟨g, hg⟩ : ∃ g : Int, ((rdR b a size t).place : Nat) = g := ⟨_, rfl⟩
    rw [hn, hi2, hf, hg] at hrd
    rw [hn, hi2, hf, hg]
    clear hn hi2 hf hg e1 e2 hs hw
    have HRd := Lib.hid hrd
    clear hrd
    have HH := Lib.hid (half_start (t := ⟨i, f, g⟩) (v := .string (bs n)) hR hC ho hne hold)
    clear hR hC hold hS
    obtain ⟨c0, c1, c2, c3, fz⟩ := HH.out.rd
    simp only [if_true, if_false, Bool.false_eq_true] at c1 c2 c3
    have c2' : w.cell? ⟨r, 2, none⟩ = some (.int .i64 0) := c2
    have fz1 := fz 1
    have fz2 := fz 2
    have fz3 := fz 3
    have cq := HH.out.old
    have fq := HH.out.ce.fz o
    clear fz
    go_enter Tryz.func107, Tryz.ntmps107
    go_wp2_with fail
    refine wp_region_held_drew (S := (fun wx => wx.cell? ⟨r, 0, none⟩ = some vb)) (by kernel_rfl) HH.out.rd.c0 (fun hHeld => ?_)
    refine wpAnyH_take (i := 0) (v := ?_) rfl (by kernel_rfl) (by kernel_rfl) (by kernel_rfl) (fun _ _ _ h => h) (Or.inl ⟨by rfl, ?_⟩) (by assumption) ?_
    rotate_left 1
    · intro w hSw; (try dsimp only at hSw); go_simp; try (with_reducible rfl)
    try simp only [Act.put, List.setIfInBounds_toArray, List.set_cons_zero, List.set_cons_succ]
    refine wpAnyH_take (i := 1) (v := ?_) rfl (by kernel_rfl) (by kernel_rfl) (by kernel_rfl) (fun _ _ _ h => h) (Or.inl ⟨by rfl, ?_⟩) (by assumption) ?_
    rotate_left 1
    · intro w hSw; (try dsimp only at hSw); go_simp; try (with_reducible rfl)
    try simp only [Act.put, List.setIfInBounds_toArray, List.set_cons_zero, List.set_cons_succ]
    refine wpAnyH_take (i := 2) (v := ?_) rfl (by kernel_rfl) (by kernel_rfl) (by kernel_rfl) (fun _ _ _ h => h) (Or.inl ⟨by rfl, ?_⟩) (by assumption) ?_
    rotate_left 1
    · intro w hSw; (try dsimp only at hSw); go_simp; try (with_reducible rfl)
    try simp only [Act.put, List.setIfInBounds_toArray, List.set_cons_zero, List.set_cons_succ]
    refine wpAnyH_take (i := 3) (v := ?_) rfl (by kernel_rfl) (by kernel_rfl) (by kernel_rfl) (fun _ _ _ h => h) (Or.inl ⟨by rfl, ?_⟩) (by assumption) ?_
    rotate_left 1
    · intro w hSw; (try dsimp only at hSw); go_simp; try (with_reducible rfl)
    try simp only [Act.put, List.setIfInBounds_toArray, List.set_cons_zero, List.set_cons_succ]
    refine wpAnyH_take (i := 4) (v := ?_) rfl (by kernel_rfl) (by kernel_rfl) (by kernel_rfl) (fun _ _ _ h => h) (Or.inl ⟨by rfl, ?_⟩) (by assumption) ?_
    rotate_left 1
    · intro w hSw; (try dsimp only at hSw); go_simp; try (with_reducible rfl)
    try simp only [Act.put, List.setIfInBounds_toArray, List.set_cons_zero, List.set_cons_succ]
    refine wpAnyH_take (i := 5) (v := ?_) rfl (by kernel_rfl) (by kernel_rfl) (by kernel_rfl) (fun _ _ _ h => h) (Or.inl ⟨by rfl, ?_⟩) (by assumption) ?_
    rotate_left 1
    · intro w hSw; (try dsimp only at hSw); go_simp; try (with_reducible rfl)
    try simp only [Act.put, List.setIfInBounds_toArray, List.set_cons_zero, List.set_cons_succ]
    refine wpAnyH_take (i := 6) (v := ?_) rfl (by kernel_rfl) (by kernel_rfl) (by kernel_rfl) (fun _ _ _ h => h) (Or.inl ⟨by rfl, ?_⟩) (by assumption) ?_
    rotate_left 1
    · intro w hSw; (try dsimp only at hSw); go_simp; try (with_reducible rfl)
    try simp only [Act.put, List.setIfInBounds_toArray, List.set_cons_zero, List.set_cons_succ]
    refine wpAnyH_take (i := 7) (v := ?_) rfl (by kernel_rfl) (by kernel_rfl) (by kernel_rfl) (fun _ _ _ h => h) (Or.inl ⟨by rfl, ?_⟩) (by assumption) ?_
    rotate_left 1
    · intro w hSw; (try dsimp only at hSw); go_simp; try (with_reducible rfl)
    try simp only [Act.put, List.setIfInBounds_toArray, List.set_cons_zero, List.set_cons_succ]
    refine wpAnyH_take (i := 8) (v := ?_) rfl (by kernel_rfl) (by kernel_rfl) (by kernel_rfl) (fun _ _ _ h => h) (Or.inl ⟨by rfl, ?_⟩) (by assumption) ?_
    rotate_left 1
    · intro w hSw; (try dsimp only at hSw); go_simp; try (with_reducible rfl)
    try simp only [Act.put, List.setIfInBounds_toArray, List.set_cons_zero, List.set_cons_succ]
    refine wpAnyH_take (i := 9) (v := ?_) rfl (by kernel_rfl) (by kernel_rfl) (by kernel_rfl) (fun _ _ _ h => h) (Or.inl ⟨by rfl, ?_⟩) (by assumption) ?_
    rotate_left 1
    · intro w hSw; (try dsimp only at hSw); go_simp; try (with_reducible rfl)
    try simp only [Act.put, List.setIfInBounds_toArray, List.set_cons_zero, List.set_cons_succ]
    refine wpAnyH_take (i := 10) (v := ?_) rfl (by kernel_rfl) (by kernel_rfl) (by kernel_rfl) (fun _ _ _ h => h) (Or.inl ⟨by rfl, ?_⟩) (by assumption) ?_
    rotate_left 1
    · intro w hSw; (try dsimp only at hSw); go_simp; try (with_reducible rfl)
    try simp only [Act.put, List.setIfInBounds_toArray, List.set_cons_zero, List.set_cons_succ]
    refine wpAnyH_ready (rs := [11]) (by kernel_rfl) (by simp) ?_
    refine AllReadyH.cons rfl (fun K hK => ?_) AllReadyH.nil
    go_simp
    refine hK.out _ _ HH.out.rd.c0 (fun hHeld => ?_)
    clear hK K
    try simp only [Act.put, List.setIfInBounds_toArray, List.set_cons_zero, List.set_cons_succ]
    refine wpAnyH_ready (rs := [12]) (by kernel_rfl) (by simp) ?_
    refine AllReadyH.cons rfl (fun K hK => ?_) AllReadyH.nil
    go_simp
    refine HRd.out.mono ?_; rintro en w1 ⟨rfl, hb1⟩
    replace HH := Lib.hid (HH.out.later hb1)
    clear hb1
    try go_wp2_with fail
    refine hK.out _ _ HH.out.rd.c0 (fun hHeld => ?_)
    clear hK K
    try simp only [Act.put, List.setIfInBounds_toArray, List.set_cons_zero, List.set_cons_succ]
    clear c0 c1 c2 c3 cq fq fz1 fz2 fz3
    obtain ⟨c0, c1, c2, c3, fz⟩ := HH.out.rd
    simp only [if_true, if_false, Bool.false_eq_true] at c1 c2 c3
    have fz1 := fz 1
    have fz2 := fz 2
    have fz3 := fz 3
    have cq := HH.out.old
    have fq := HH.out.ce.fz o
    clear fz
    refine wpAnyH_take (i := 13) (v := ?_) rfl (by kernel_rfl) (by kernel_rfl) (by kernel_rfl) (fun _ _ _ h => h) (Or.inl ⟨by rfl, ?_⟩) (by assumption) ?_
    rotate_left 1
    · intro w hSw; (try dsimp only at hSw); go_simp; try (with_reducible rfl)
    try simp only [Act.put, List.setIfInBounds_toArray, List.set_cons_zero, List.set_cons_succ]
    refine wpAnyH_take (i := 14) (v := ?_) rfl (by kernel_rfl) (by kernel_rfl) (by kernel_rfl) (fun _ _ _ h => h) (Or.inl ⟨by rfl, ?_⟩) (by assumption) ?_
    rotate_left 1
    · intro w hSw; (try dsimp only at hSw); go_simp; try (with_reducible rfl)
    try simp only [Act.put, List.setIfInBounds_toArray, List.set_cons_zero, List.set_cons_succ]
    refine wpAnyH_take (i := 15) (v := ?_) rfl (by kernel_rfl) (by kernel_rfl) (by kernel_rfl) (fun _ _ _ h => h) (Or.inl ⟨by rfl, ?_⟩) (by assumption) ?_
    rotate_left 1
    · intro w hSw; (try dsimp only at hSw); go_simp; try (with_reducible rfl)
    try simp only [Act.put, List.setIfInBounds_toArray, List.set_cons_zero, List.set_cons_succ]
    refine wpAnyH_take (i := 16) (v := ?_) rfl (by kernel_rfl) (by kernel_rfl) (by kernel_rfl) (fun _ _ _ h => h) (Or.inl ⟨by rfl, ?_⟩) (by assumption) ?_
    rotate_left 1
    · intro w hSw; (try dsimp only at hSw); go_simp; try (with_reducible rfl)
    try simp only [Act.put, List.setIfInBounds_toArray, List.set_cons_zero, List.set_cons_succ]
    refine wpAnyH_take (i := 17) (v := ?_) rfl (by kernel_rfl) (by kernel_rfl) (by kernel_rfl) (fun _ _ _ h => h) (Or.inl ⟨by rfl, ?_⟩) (by assumption) ?_
    rotate_left 1
    · intro w hSw; (try dsimp only at hSw); go_simp; try (with_reducible rfl)
    try simp only [Act.put, List.setIfInBounds_toArray, List.set_cons_zero, List.set_cons_succ]
    refine wpAnyH_ready (rs := [18]) (by kernel_rfl) (by simp) ?_
    refine AllReadyH.cons rfl (fun K hK => ?_) AllReadyH.nil
    go_simp
    replace HH := Lib.hid HH.out.sq
    refine hK.out _ _ HH.out.rd.c0 (fun hHeld => ?_)
    clear hK K
    try simp only [Act.put, List.setIfInBounds_toArray, List.set_cons_zero, List.set_cons_succ]
    clear c0 c1 c2 c3 cq fq fz1 fz2 fz3
    obtain ⟨c0, c1, c2, c3, fz⟩ := HH.out.rd
    simp only [if_true, if_false, Bool.false_eq_true] at c1 c2 c3
    have fz1 := fz 1
    have fz2 := fz 2
    have fz3 := fz 3
    have cq := HH.out.old
    have fq := HH.out.ce.fz o
    clear fz
    refine wpAnyH_take (i := 19) (v := ?_) rfl (by kernel_rfl) (by kernel_rfl) (by kernel_rfl) (fun _ _ _ h => h) (Or.inl ⟨by rfl, ?_⟩) (by assumption) ?_
    rotate_left 1
    · intro w hSw; (try dsimp only at hSw); go_simp; try (with_reducible rfl)
    try simp only [Act.put, List.setIfInBounds_toArray, List.set_cons_zero, List.set_cons_succ]
    refine wpAnyH_take (i := 20) (v := ?_) rfl (by kernel_rfl) (by kernel_rfl) (by kernel_rfl) (fun _ _ _ h => h) (Or.inl ⟨by rfl, ?_⟩) (by assumption) ?_
    rotate_left 1
    · intro w hSw; (try dsimp only at hSw); go_simp; try (with_reducible rfl)
    try simp only [Act.put, List.setIfInBounds_toArray, List.set_cons_zero, List.set_cons_succ]
    refine wpAnyH_ready (rs := [21]) (by kernel_rfl) (by simp) ?_
    refine AllReadyH.cons rfl (fun K hK => ?_) AllReadyH.nil
    go_simp
    replace HH := Lib.hid HH.out.sa
    refine hK.out _ _ HH.out.rd.c0 (fun hHeld => ?_)
    clear hK K
    try simp only [Act.put, List.setIfInBounds_toArray, List.set_cons_zero, List.set_cons_succ]
    clear c0 c1 c2 c3 cq fq fz1 fz2 fz3
    obtain ⟨c0, c1, c2, c3, fz⟩ := HH.out.rd
    simp only [if_true, if_false, Bool.false_eq_true] at c1 c2 c3
    have fz1 := fz 1
    have fz2 := fz 2
    have fz3 := fz 3
    have cq := HH.out.old
    have fq := HH.out.ce.fz o
    clear fz
    refine wpAnyH_take (i := 22) (v := ?_) rfl (by kernel_rfl) (by kernel_rfl) (by kernel_rfl) (fun _ _ _ h => h) (Or.inl ⟨by rfl, ?_⟩) (by assumption) ?_
    rotate_left 1
    · intro w hSw; (try dsimp only at hSw); go_simp; try (with_reducible rfl)
    try simp only [Act.put, List.setIfInBounds_toArray, List.set_cons_zero, List.set_cons_succ]
    refine wpAnyH_take (i := 23) (v := ?_) rfl (by kernel_rfl) (by kernel_rfl) (by kernel_rfl) (fun _ _ _ h => h) (Or.inl ⟨by rfl, ?_⟩) (by assumption) ?_
    rotate_left 1
    · intro w hSw; (try dsimp only at hSw); go_simp; try (with_reducible rfl)
    try simp only [Act.put, List.setIfInBounds_toArray, List.set_cons_zero, List.set_cons_succ]
    refine wpAnyH_ready (rs := [24]) (by kernel_rfl) (by simp) ?_
    refine AllReadyH.cons rfl (fun K hK => ?_) AllReadyH.nil
    go_simp
    replace HH := Lib.hid HH.out.sf
    refine hK.out _ _ HH.out.rd.c0 (fun hHeld => ?_)
    clear hK K
    try simp only [Act.put, List.setIfInBounds_toArray, List.set_cons_zero, List.set_cons_succ]
    clear c0 c1 c2 c3 cq fq fz1 fz2 fz3
    obtain ⟨c0, c1, c2, c3, fz⟩ := HH.out.rd
    simp only [if_true, if_false, Bool.false_eq_true] at c1 c2 c3
    have fz1 := fz 1
    have fz2 := fz 2
    have fz3 := fz 3
    have cq := HH.out.old
    have fq := HH.out.ce.fz o
    clear fz
    refine wpAnyH_done (by kernel_rfl) ?_ _
    clear hHeld
    go_wp2_with fail
    go_ret
    exact half_done HH.out


  · have tE : (e == 0) = false := by simpa using h0
    have e1 : stD b ⟨a, e, p⟩ size t = ⟨a, e, p⟩ := by unfold stD; rw [if_pos h0]
    have e2 : (Value.string (bs (vlD b ⟨a, e, p⟩ size t old))) = l[o] := by rw [hold]; unfold vlD; rw [if_pos h0]
    rw [e1, e2, List.set_getElem_self]
    have HR := Lib.hid hR
    have HC := Lib.hid hC
    have c2 := hR.c2
    clear hR hC e1 e2 hS hold
    go_enter Tryz.func107, Tryz.ntmps107
    go_wp2_with fail
    go_ret
    exact ⟨rfl, HR.out, HC.out, Aside.refl _ _⟩

section
variable {w : World} {r q o lo hi : Nat} {vb : Value} {s : RS} {l : List Value} {b : List UInt8}

theorem nameM_any (hR : Rdr w r vb s) (hC : Cel w q l) (ho : o < l.length) (hne : r ≠ q) {old : List UInt8} (hold : l[o] = .string (bs old)) (hS : Sl w lo hi vb (iz b)) (hhi : hi ≤ w.heap.size) (hbl : b.length ≤ 1000000) :
    Calls Tryz.prog 99 #[.pointer (some ⟨r, 0, none⟩), .pointer (some ⟨q, o, none⟩)] w (NextPost w r q o vb (stN b s) (l.set o (.string (bs (vlN b s old))))) := by
  have HN := Lib.hid (name_next hR hC ho hne hold hS hhi hbl)
  clear hR hC hS
  go_enter Tryz.func99, Tryz.ntmps99
  go_wp2_with fail
  refine HN.out.mono ?_; rintro en w1 ⟨rfl, h1, h2, h3⟩
  have HP := Lib.hid (And.intro h1 (And.intro h2 h3))
  clear h1 h2 h3
  go_wp2_with fail
  go_ret
  exact ⟨rfl, HP.out⟩

theorem twoM_any (hR : Rdr w r vb s) (hC : Cel w q l) (ho : o < l.length) (hne : r ≠ q) {old : Int} (hold : l[o] = .int .i64 old) (hS : Sl w lo hi vb (iz b)) (hhi : hi ≤ w.heap.size) (hbl : b.length ≤ 1000000) :
    Calls Tryz.prog 100 #[.pointer (some ⟨r, 0, none⟩), .pointer (some ⟨q, o, none⟩)] w (NextPost w r q o vb (st2 b s) (l.set o (.int .i64 (vl2 b s old)))) := by
  have HN := Lib.hid (two_next hR hC ho hne hold hS hhi hbl)
  clear hR hC hS
  go_enter Tryz.func100, Tryz.ntmps100
  go_wp2_with fail
  refine HN.out.mono ?_; rintro en w1 ⟨rfl, h1, h2, h3⟩
  have HP := Lib.hid (And.intro h1 (And.intro h2 h3))
  clear h1 h2 h3
  go_wp2_with fail
  go_ret
  exact ⟨rfl, HP.out⟩

theorem fourM_any (hR : Rdr w r vb s) (hC : Cel w q l) (ho : o < l.length) (hne : r ≠ q) {old : Int} (hold : l[o] = .int .i64 old) (hS : Sl w lo hi vb (iz b)) (hhi : hi ≤ w.heap.size) (hbl : b.length ≤ 1000000) :
    Calls Tryz.prog 132 #[.pointer (some ⟨r, 0, none⟩), .pointer (some ⟨q, o, none⟩)] w (NextPost w r q o vb (st4 b s) (l.set o (.int .i64 (vl4 b s old)))) := by
  have HN := Lib.hid (four_next hR hC ho hne hold hS hhi hbl)
  clear hR hC hS
  go_enter Tryz.func132, Tryz.ntmps132
  go_wp2_with fail
  refine HN.out.mono ?_; rintro en w1 ⟨rfl, h1, h2, h3⟩
  have HP := Lib.hid (And.intro h1 (And.intro h2 h3))
  clear h1 h2 h3
  go_wp2_with fail
  go_ret
  exact ⟨rfl, HP.out⟩

theorem dataM_any (hR : Rdr w r vb s) (hC : Cel w q l) (ho : o < l.length) (hne : r ≠ q) {old : List UInt8} (hold : l[o] = .string (bs old)) (hS : Sl w lo hi vb (iz b)) (hhi : hi ≤ w.heap.size) (hbl : b.length ≤ 300000) (size t : Int) (ht : (Lit.int .i64 t).wf = true) :
    Calls Tryz.prog 133 #[.pointer (some ⟨r, 0, none⟩), .pointer (some ⟨q, o, none⟩), .int .i64 size, .int .i64 t] w (NextPost w r q o vb (stD b s size t) (l.set o (.string (bs (vlD b s size t old))))) := by
  have a1 : Below w.heap.size w (w.alloc (.cells #[.int .i64 size] 3)) := (Below.refl _ _).alloc (Nat.le_refl _) _
  have a2 : Below w.heap.size w ((w.alloc (.cells #[.int .i64 size] 3)).alloc (.cells #[.int .i64 t] 3)) := bel_alloc a1 _
  have HN := Lib.hid (data_next (gs := w.heap.size) (gt := w.heap.size + 1) (hR.below a2) (hC.below (by omega) a2) ho hne hold (hS.below a2 hhi) (Nat.le_trans hhi a2.size) hbl (size := size) (t := t) (by simp [go_sem]) (by simp [go_sem]) ht)
  have HA := Lib.hid (Aside.of_all a2 : Aside (fun b => b = r ∨ b = q) w _)
  clear hR hC hS a1 a2
  go_enter Tryz.func133, Tryz.ntmps133
  go_wp2_with fail
  refine HN.out.mono ?_; rintro en w1 ⟨rfl, h1, h2, h3⟩
  have HP := Lib.hid (And.intro h1 (And.intro h2 (HA.out.trans h3)))
  clear h1 h2 h3
  go_wp2_with fail
  go_ret
  exact ⟨rfl, HP.out⟩
end

end Go.Proofs.YtdikgjbpjdnodaaGreat
