/-
  plain: a name that stands as its bytes.
-/
import Derived.Test.YtdikgjbpjdnodaaGreatT07
import Derived.Test.YtdikgjbpjdnodaaGreatT08
import Derived.Test.YtdikgjbpjdnodaaGreatT02
import Derived.Test.YtdikgjbpjdnodaaGreatShelf
import Derived.Lib.FrozenHead
import Derived.Test.YtdikgjbpjdnodaaGreatT05
import Derived.BigQuiet
import Derived.Deep.RegionHeld3
namespace Go.Proofs.YtdikgjbpjdnodaaGreat
open Go.RowKit Go.Shelf
set_option linter.unusedVariables false
set_option linter.unusedSimpArgs false
set_option maxRecDepth 100000

set_option maxHeartbeats 4000000 in
theorem plain_any {w : World} {lo hi : Nat} {v : Value} {b : List UInt8} (h : Sl w lo hi v (iz b)) (hhi : hi ≤ w.heap.size) (hl : b.length ≤ 1000000) (p : Nat) :
    Calls Tryz.prog 144 #[v, .int .i64 p] w (Tells w (gotV (pln b p))) := by
  have hb0 : Below w.heap.size w (w.alloc (.cells #[.int .i64 0, .int .i64 0] 43)) := (Below.refl _ _).alloc (Nat.le_refl _) _
  have HB0 := Lib.hid hb0
  have HR0 := Lib.hid (read_any (h.below hb0 hhi) (Nat.le_trans hhi hb0.size) hl p)
  have hfine := rda_fine b p
  obtain ⟨N, hN⟩ : ∃ N, (rda b p).1 = N := ⟨_, rfl⟩
  obtain ⟨E, hE⟩ : ∃ E, (rda b p).2.1 = E := ⟨_, rfl⟩
  obtain ⟨C, hC⟩ : ∃ C, (rda b p).2.2.1 = C := ⟨_, rfl⟩
  obtain ⟨A, hA⟩ : ∃ A, (rda b p).2.2.2 = A := ⟨_, rfl⟩
  have hp : pln b p = if C ≠ 0 ∨ N ≠ (b.drop p).take (E - p) then ([], 0, 4, 0) else (N, E, 0, 0) := by unfold pln; rw [hN, hE, hC]
  unfold gotV at HR0
  rw [hN, hE, hC] at hfine
  rw [hN, hE, hC, hA] at HR0
  rw [hp]
  clear hN hE hC hA hp hb0
  by_cases hc : C = 0
  · subst hc
    obtain ⟨_, hpE, hEb⟩ := hfine rfl
    obtain ⟨sv, hcut, hsl⟩ := cut_sl h p E (by omega) hEb
    have HSL := Lib.hid (fun wx (hb : Below w.heap.size w wx) => conv_back (hsl.below hb hhi))
    obtain ⟨M, hM⟩ : ∃ M, (b.drop p).take (E - p) = M := ⟨_, rfl⟩
    rw [hM] at HSL ⊢
    clear hM hsl hfine
    by_cases hNM : N = M
    · subst hNM
      rw [if_neg (by simp)]
      have ht : ((bs N).toList == (bs N).toList) = true := by simp
      go_enter Tryz.func144, Tryz.ntmps144
      go_wp2_with fail
      refine HR0.out.mono ?_
      rintro e w1 ⟨rfl, hb1⟩
      simp only [World.size_alloc] at hb1
      have HB1 := Lib.hid hb1
      have hlt := below_lt hb1
      obtain ⟨k0, k1, k3⟩ := res_cells hb1
      have hcv := HSL.out (w1.alloc (.cells #[.int .i64 0, .int .i64 A] 43)) (bel_alloc (HB0.out.trans (hb1.mono (Nat.le_succ _))) _)
      clear hb1
      go_wp2_with fail
      obtain ⟨m0, m1⟩ := res_set (.int .i64 0) (.int .i64 0) k0 k1
      have HFin := Lib.hid (res_below HB1.out (.int .i64 0) (.int .i64 0) (.cells #[.int .i64 0, .int .i64 A] 43))
      exact bodyPost_ret (by simp [results, Tryz.results144, go_sem, m0, m1, hlt]; rfl) rfl ⟨rfl, HFin.out⟩
    · rw [if_pos (.inr hNM)]
      have ht : ((bs N).toList == (bs M).toList) = false := by rw [bs_toList, bs_toList]; simpa using hNM
      go_enter Tryz.func144, Tryz.ntmps144
      go_wp2_with fail
      refine HR0.out.mono ?_
      rintro e w1 ⟨rfl, hb1⟩
      simp only [World.size_alloc] at hb1
      have HB1 := Lib.hid hb1
      have hlt := below_lt hb1
      obtain ⟨k0, k1, k3⟩ := res_cells hb1
      have hcv := HSL.out (w1.alloc (.cells #[.int .i64 0, .int .i64 A] 43)) (bel_alloc (HB0.out.trans (hb1.mono (Nat.le_succ _))) _)
      clear hb1
      go_wp2_with fail
      obtain ⟨m0, m1⟩ := res_set (.int .i64 4) (.int .i64 0) k0 k1
      have HFin := Lib.hid (res_below HB1.out (.int .i64 4) (.int .i64 0) (.cells #[.int .i64 0, .int .i64 A] 43))
      exact bodyPost_ret (by simp [results, Tryz.results144, go_sem, m0, m1, hlt]; rfl) rfl ⟨rfl, HFin.out⟩
  · rw [if_pos (.inl hc)]
    have tc : (C != 0) = true := by simpa using hc
    clear hfine
    · go_enter Tryz.func144, Tryz.ntmps144
      go_wp2_with fail
      refine HR0.out.mono ?_
      rintro e w1 ⟨rfl, hb1⟩
      simp only [World.size_alloc] at hb1
      have HB1 := Lib.hid hb1
      have hlt := below_lt hb1
      obtain ⟨k0, k1, k3⟩ := res_cells hb1
      clear hb1
      go_wp2_with fail
      obtain ⟨m0, m1⟩ := res_set (.int .i64 4) (.int .i64 0) k0 k1
      have HFin := Lib.hid (res_below HB1.out (.int .i64 4) (.int .i64 0) (.cells #[.int .i64 C, .int .i64 A] 43))
      exact bodyPost_ret (by simp [results, Tryz.results144, go_sem, m0, m1, hlt]; rfl) rfl ⟨rfl, HFin.out⟩
end Go.Proofs.YtdikgjbpjdnodaaGreat

/-
  A strings.Builder of the call's own: what it checks of itself, and writing.
-/
namespace Go.Proofs.YtdikgjbpjdnodaaGreat
open Go.RowKit Go.Shelf
set_option linter.unusedVariables false
set_option maxRecDepth 100000
set_option linter.unusedSimpArgs false

/-- Block b is a builder that holds the bytes l, with p for its own address; its row lies in blocks from B on. -/
def Bp (w : World) (B b : Nat) (p : Value) (l : List UInt8) : Prop :=
  ∃ v, w.heap[b]? = some (.cells #[p, v] 203 (0, 0)) ∧ OwnU w B v l ∧ b < B

/-- .. used or not. -/
def Bd (w : World) (B b : Nat) (l : List UInt8) : Prop := Bp w B b (.pointer none) l ∨ Bp w B b (.pointer (some ⟨b, 0, none⟩)) l

theorem Bp.lt {w : World} {B b : Nat} {p : Value} {l : List UInt8} (h : Bp w B b p l) : b < w.heap.size := by
  obtain ⟨v, h1, _⟩ := h
  exact (Array.getElem?_eq_some_iff.mp h1).1
theorem Bp.aside {w w' : World} {B b : Nat} {p : Value} {l : List UInt8} {G : Nat → Prop} (h : Bp w B b p l) (ha : Aside G w w') (h0 : ¬ G b) (hG : ∀ k, B ≤ k → ¬ G k) : Bp w' B b p l := by
  have hl := h.lt
  obtain ⟨v, h1, h2, h3⟩ := h
  exact ⟨v, (ha.block b hl h0).trans h1, h2.aside ha hG, h3⟩
theorem Bd.aside {w w' : World} {B b : Nat} {l : List UInt8} {G : Nat → Prop} (h : Bd w B b l) (ha : Aside G w w') (h0 : ¬ G b) (hG : ∀ k, B ≤ k → ¬ G k) : Bd w' B b l :=
  h.elim (fun h => .inl (h.aside ha h0 hG)) (fun h => .inr (h.aside ha h0 hG))
theorem Bd.lt {w : World} {B b : Nat} {l : List UInt8} (h : Bd w B b l) : b < w.heap.size := h.elim Bp.lt Bp.lt
theorem Bd.below {w w' : World} {B b : Nat} {l : List UInt8} (h : Bd w B b l) (hb : Below w.heap.size w w') : Bd w' B b l :=
  h.aside (G := fun _ => False) (Aside.of_all hb) (fun h => h) fun _ _ h => h
theorem Bp.cells {w : World} {B b : Nat} {p : Value} {l : List UInt8} (h : Bp w B b p l) : ∃ v, w.cell? ⟨b, 0, none⟩ = some p ∧ w.cell? ⟨b, 1, none⟩ = some v ∧ (∀ j, w.frozen? ⟨b, j, none⟩ = false) ∧ OwnU w B v l ∧ w.shape? b = some (203, 2) := by
  obtain ⟨v, h1, h2, h3⟩ := h
  exact ⟨v, by simp [World.cell?, h1], by simp [World.cell?, h1], fun j => by simp [World.frozen?, h1], h2, by simp [World.shape?, h1]⟩
theorem Bp.set {w : World} {B b : Nat} {p : Value} {l : List UInt8} (h : Bp w B b p l) (q : Value) : Bp (w.setCell ⟨b, 0, none⟩ q) B b q l := by
  obtain ⟨v, h1, h2, h3⟩ := h
  exact ⟨v, by simp [World.setCell, Array.getElem?_modify, h1], h2.setCell h3 _, h3⟩
theorem Bp.put {w : World} {B b : Nat} {p v v' : Value} {l : List UInt8} (h1 : w.heap[b]? = some (.cells #[p, v] 203 (0, 0))) (h2 : OwnU w B v' l) (h3 : b < B) : Bp (w.setCell ⟨b, 1, none⟩ v') B b p l :=
  ⟨v', by simp [World.setCell, Array.getElem?_modify, h1], h2.setCell h3 _, h3⟩

theorem sizeB : (Tryz.prog.info? 203).map (fun i => i.size) = some 2 := by kernel_rfl
theorem liesB : liesAt Tryz.prog Tryz.prog.depth 203 (2 / Tryz.prog.cellsOf 203) 0 203 1 = true := by kernel_rfl

/-- How a builder is behind a check of itself, or a write. -/
def BdPost (w : World) (G : Nat → Prop) (B b : Nat) (v : Value) (l : List UInt8) (e : Ending) (w' : World) : Prop :=
  e = .returned v ∧ Bp w' B b (.pointer (some ⟨b, 0, none⟩)) l ∧ Aside G w w'

theorem check_used {w : World} {B b : Nat} {l : List UInt8} (h : Bp w B b (.pointer (some ⟨b, 0, none⟩)) l) : Calls Tryz.prog 158 #[.pointer (some ⟨b, 0, none⟩)] w (BdPost w (fun k => k = b) B b (.tuple #[]) l) := by
  obtain ⟨j, hj, _⟩ := Option.map_eq_some_iff.1 sizeB
  obtain ⟨v, h0, _, _, _, _⟩ := h.cells
  have HH := Lib.hid h
  clear h
  go_enter Tryz.func158, Tryz.ntmps158
  go_wp2
  rw [Lib.run_neq_ptr_same w _ Tryz.underlying201 hj]
  go_wp2
  go_end0
  exact ⟨rfl, HH.out, Aside.refl _ _⟩

theorem check_fresh {w : World} {B b : Nat} {l : List UInt8} (h : Bp w B b (.pointer none) l) : Calls Tryz.prog 158 #[.pointer (some ⟨b, 0, none⟩)] w (BdPost w (fun k => k = b) B b (.tuple #[]) l) := by
  obtain ⟨j, hj, hjs⟩ := Option.map_eq_some_iff.1 sizeB
  obtain ⟨v, h0, _, hf, _, hsh⟩ := h.cells
  have HH := Lib.hid (And.intro (h.set (.pointer (some ⟨b, 0, none⟩))) (Aside.setCell (G := fun k => k = b) w (p := ⟨b, 0, none⟩) (.pointer (some ⟨b, 0, none⟩)) rfl))
  clear h
  have hc1 := Lib.run_to_unsafe (P := Tryz.prog) w (src := 201) (dst := 211) ⟨b, 0, none⟩ Tryz.underlying201 Tryz.underlying211 hj (by rw [hjs]; decide) hsh (Nat.zero_lt_succ 1)
  have hc2 := Lib.run_from_unsafe (P := Tryz.prog) w (src := 211) (dst := 201) ⟨b, 0, none⟩ Tryz.underlying211 Tryz.underlying201 hj hsh liesB
  have hcf : (callFunc 162 #[.pointer (some ⟨b, 0, none⟩)]).run Tryz.prog w = .ok (.value (.pointer (some ⟨b, 0, none⟩))) w := by
    rw [run_callFunc_extern Tryz.func162 (by kernel_rfl) (by kernel_rfl) (by kernel_rfl) (e := Extern.AbiNoEscape.same) (by kernel_rfl), Lib.run_noEscape]
    rfl
  have hne := fun w => Lib.run_neq_ptr_same (P := Tryz.prog) w (tp := 201) ⟨b, 0, none⟩ Tryz.underlying201 hj
  go_enter Tryz.func158, Tryz.ntmps158
  go_wp2
  go_end0
  exact ⟨rfl, HH.out⟩

theorem checkB_any {w : World} {B b : Nat} {l : List UInt8} (h : Bd w B b l) : Calls Tryz.prog 158 #[.pointer (some ⟨b, 0, none⟩)] w (BdPost w (fun k => k = b) B b (.tuple #[]) l) := h.elim check_fresh check_used

end Go.Proofs.YtdikgjbpjdnodaaGreat

/-
  join: the data of pieces.
-/
namespace Go.Proofs.YtdikgjbpjdnodaaGreat
open Go.RowKit Go.Shelf
set_option linter.unusedVariables false
set_option linter.unusedSimpArgs false
set_option maxRecDepth 100000

/-- A write of a text: append, and the store. -/
theorem writeS_step {W : World} {B b : Nat} {p : Value} {l l' : List UInt8} (h : Bp W B b p l) (hl : l.length + l'.length ≤ 1000000) (hB : B ≤ W.heap.size) :
    ∃ v a2 c2 W2, W.cell? ⟨b, 1, none⟩ = some v ∧ (Builtin.append_ #[28, 9] 28 #[v, .string (bs l')]).run Tryz.prog W = .ok (.slice a2 (l.length + l'.length) c2) W2 ∧
      W2.cell? ⟨b, 1, none⟩ = some v ∧ W2.frozen? ⟨b, 1, none⟩ = false ∧ Bp (W2.setCell ⟨b, 1, none⟩ (.slice a2 (l.length + l'.length) c2)) B b p (l ++ l') ∧
      Aside (fun k => k = b ∨ B ≤ k) W (W2.setCell ⟨b, 1, none⟩ (.slice a2 (l.length + l'.length) c2)) := by
  have hlt := h.lt
  obtain ⟨v, h1, h2, h3⟩ := h
  obtain ⟨a2, c2, W2, hr, ho, hg⟩ := run_appS (w := W) B v l l' h2 hl hB
  have ha : Aside (fun k => B ≤ k) W W2 := Aside.grown hg fun k hk => h2.row k hk
  have hb2 : W2.heap[b]? = some (.cells #[p, v] 203 (0, 0)) := (ha.block b hlt (by omega)).trans h1
  refine ⟨v, a2, c2, W2, by simp [World.cell?, h1], hr, by simp [World.cell?, hb2], by simp [World.frozen?, hb2], Bp.put hb2 ho h3, ?_⟩
  exact (ha.mono fun _ _ h => .inr h).trans (Aside.setCell _ _ (.inl rfl))

theorem writeS_any {w : World} {B b : Nat} {l l' : List UInt8} (h : Bd w B b l) (hl : l.length + l'.length ≤ 1000000) (hB : B ≤ w.heap.size) :
    Calls Tryz.prog 152 #[.pointer (some ⟨b, 0, none⟩), .string (bs l')] w (BdPost w (fun k => k = b ∨ B ≤ k) B b (.tuple #[.int .i64 l'.length, .nilIface]) (l ++ l')) := by
  have HC := Lib.hid (checkB_any h)
  obtain ⟨n, hn⟩ : ∃ n, l'.length = n := ⟨_, rfl⟩
  clear h
  have hsz : (bs l').size = n := by rw [bs_size, hn]
  rw [hn]
  go_enter Tryz.func152, Tryz.ntmps152
  go_wp2_with fail
  refine HC.out.mono ?_; rintro e w1 ⟨rfl, hp, ha⟩
  have hs := ha.size
  replace ha := ha.mono (G' := fun k => k = b ∨ B ≤ k) fun _ _ h => .inl h
  obtain ⟨v, a2, c2, W2, q1, hr, q2, q3, hq, ha2⟩ := writeS_step (W := w1) (l' := l') hp hl (by omega)
  rw [hn] at hr hq ha2
  have HR := Lib.hid hr
  have HH := Lib.hid (And.intro hq (ha.trans ha2))
  clear hr hq ha ha2 hp hs hn
  go_wp2_with (at_builtin; refine wpList_append_run (.tmp 12) (.tmp 13) 28 9 rfl rfl rfl rfl HR.out ?_)
  go_ret2
  exact ⟨rfl, HH.out⟩

theorem joined_take {L : List Pc} {k : Nat} (h : k < L.length) : joined (L.take (k + 1)) = joined (L.take k) ++ L[k].1 := by
  rw [List.take_add_one, List.getElem?_eq_getElem h, Option.toList_some, joined_app]
  simp [joined]

theorem joined_part (L : List Pc) (k : Nat) : (joined (L.take k)).length ≤ (joined L).length := by
  have := congrArg (fun x => (joined x).length) (List.take_append_drop k L)
  simp only [joined_app, List.length_append] at this
  omega

set_option maxHeartbeats 4000000 in
theorem joinP_any {w : World} {B : Nat} {v : Value} {L : List Pc} (h : OwnP w B v L) (hl : (joined L).length ≤ 1000000) (hn : L.length ≤ 1000000) : Calls Tryz.prog 146 #[v] w (Tells w (.string (bs (joined L)))) := by
  have HO := Lib.hid h
  obtain ⟨av, cv, rfl⟩ := h.shape
  obtain ⟨n, hnn⟩ : ∃ n, L.length = n := ⟨_, rfl⟩
  have HN := Lib.hid hnn
  rw [hnn] at HO hn ⊢
  have HL := Lib.hid hl
  clear h hnn hl
  have hb0 : Below w.heap.size w (w.alloc (.cells #[.pointer none, .slice none 0 0] 203)) := (Below.refl _ _).alloc (Nat.le_refl _) _
  have hd0 : Bd (w.alloc (.cells #[.pointer none, .slice none 0 0] 203)) (w.heap.size + 1) w.heap.size [] := .inl ⟨.slice none 0 0, heap_alloc_new w _, OwnU.nil _ _, by omega⟩
  have HB0 := Lib.hid hb0
  have HD0 := Lib.hid hd0
  clear hb0 hd0
  go_enter Tryz.func146, Tryz.ntmps146
  go_wp2_with fail
  go_loopg [8] n (fun g v8 wr => ∃ k : Nat, k + g = n ∧ v8 = .int .i64 k ∧ Hid (Bd wr (w.heap.size + 1) w.heap.size (joined (L.take k))) ∧ Hid (Below w.heap.size w wr) ∧ w.heap.size + 1 ≤ wr.heap.size)
  case atStart => exact ⟨0, by omega, rfl, HD0, HB0, by simp⟩
  case round =>
    obtain ⟨k, hk, rfl, HD, HB, hsz⟩ := hrel
    by_cases hlt0 : k < n
    · have hlt : k < L.length := by have := HN.out; omega
      have hown := (HO.out)
      obtain ⟨g0, c0, he0, hc0, hc1⟩ := OwnP.at_ (v := .slice av L.length cv) (K := L) (w := w) (B := B) (by rw [HN.out]; exact HO.out) k hlt
      injection he0 with he1 he2 he3
      subst he1
      subst he3
      clear he2 hown
      have hg0 : g0 < w.heap.size := World.block_lt_of_cell? w _ hc0
      have d0 := (HB.out.cell (p := ⟨g0, k * 2, none⟩) hg0).trans hc0
      have d1 := (HB.out.cell (p := ⟨g0, k * 2 + 1, none⟩) hg0).trans hc1
      have hjt := joined_take hlt
      have hjp := joined_part L (k + 1)
      obtain ⟨x, hx⟩ : ∃ x, L[k].1 = x := ⟨_, rfl⟩
      obtain ⟨f, hf⟩ : ∃ f, L[k].2 = f := ⟨_, rfl⟩
      rw [hx] at d0 hjt
      rw [hf] at d1
      have hal : Below wr.heap.size wr (wr.alloc (.cells #[.string (bs x), .bool f] 184)) := (Below.refl _ _).alloc (Nat.le_refl _) _
      have HW := Lib.hid (writeS_any (l' := x) (HD.out.below hal) (by rw [hjt, List.length_append] at hjp; have := HL.out; omega) (by have := hal.size; omega))
      have HBA := Lib.hid (bel_call HB.out hal)
      have HJ := Lib.hid hjt
      clear hc0 hc1 hjt hjp hx hf hal HD
      go_wp2_with fail
      refine HW.out.mono ?_
      rintro e w2 ⟨rfl, hp, ha2⟩
      have hs2 := ha2.size
      simp only [World.size_alloc] at hs2
      have HD2 : Hid (Bd w2 (w.heap.size + 1) w.heap.size (joined (L.take (k + 1)))) := by rw [HJ.out]; exact .inr hp
      have HB2 := Lib.hid (below_aside HBA.out ha2 fun b hb => ⟨Nat.lt_of_lt_of_le hb HBA.out.size, by omega⟩)
      clear hp ha2
      go_wp2_with fail
      go_roundg (n - (k + 1))
      case measure => omega
      case rel => exact ⟨k + 1, by omega, by go_num, HD2, HB2, by omega⟩
    · have hke : k = n := by omega
      subst hke
      have hd := HD.out
      rw [List.take_of_length_le (by have := HN.out; omega)] at hd
      have hBF : Lib.IsBuilderF 203 5 w.heap.size w.heap.size (Lib.byteCells (joined L)) wr := by
        have key : ∀ p, Bp wr (w.heap.size + 1) w.heap.size p (joined L) → Lib.BuilderAtF 203 5 w.heap.size w.heap.size p (Lib.byteCells (joined L)) wr := by
          rintro p ⟨v, h1, h2, h3⟩
          have h4 := h2.mono (B' := w.heap.size) (by omega)
          have h5 : wr.ownsRowF w.heap.size 5 1 v (Lib.byteCells (joined L)).length (Lib.byteCells (joined L)) := by rw [Lib.byteCells_length]; exact h4
          refine ⟨Nat.le_refl _, v, h1, h5, fun e => ?_⟩
          have := h2.row _ e
          omega
        exact hd.elim (fun h => .inl (key _ h)) (fun h => .inr (key _ h))
      have HS := Lib.hid (Tryz.Builder_String_any_k w.heap.size w.heap.size (joined L) wr hBF (by omega))
      clear hd hBF HD
      go_wp2_with fail
      refine HS.out.mono ?_
      rintro e w2 ⟨rfl, _, hb2, _⟩
      have HB2 := Lib.hid (HB.out.trans hb2)
      clear hb2
      go_wp2_with fail
      go_ret
      exact ⟨rfl, HB2.out⟩
end Go.Proofs.YtdikgjbpjdnodaaGreat

/-
  bounded, split.
-/
namespace Go.Proofs.YtdikgjbpjdnodaaGreat
open Go.RowKit Go.Shelf
set_option linter.unusedVariables false
set_option linter.unusedSimpArgs false
set_option maxRecDepth 100000

theorem bounded_yes (t : Int) (h0 : 0 ≤ t) (h1 : t ≤ 65535) (w : World) : Calls Tryz.prog 142 #[.int .i64 t] w fun e w' => e = .returned (.bool true) ∧ w = w' := by
  have t1 : decide ((0 : Int) ≤ t) = true := by simpa using h0
  have t2 : decide (t ≤ (65535 : Int)) = true := by simpa using h1
  go_enter Tryz.func142, Tryz.ntmps142
  go_wp2
  go_ret
  exact ⟨rfl, rfl⟩

theorem bounded_no (t : Int) (h : t < 0 ∨ 65535 < t) (w : World) : Calls Tryz.prog 142 #[.int .i64 t] w fun e w' => e = .returned (.bool false) ∧ w = w' := by
  by_cases h0 : 0 ≤ t
  · have t1 : decide ((0 : Int) ≤ t) = true := by simpa using h0
    have t2 : decide (t ≤ (65535 : Int)) = false := by simp; omega
    clear h
    go_enter Tryz.func142, Tryz.ntmps142
    go_wp2
    go_ret
    exact ⟨rfl, rfl⟩
  · have t1 : decide ((0 : Int) ≤ t) = false := by simp; omega
    clear h
    go_enter Tryz.func142, Tryz.ntmps142
    go_wp2
    go_ret
    exact ⟨rfl, rfl⟩

/-- What split tells. -/
def SplitPost (w : World) (R : RR) (en : Ending) (w' : World) : Prop :=
  ∃ v, en = .returned (.tuple #[v, .int .i64 R.code]) ∧ OwnP w' w.heap.size v R.pcs ∧ Below w.heap.size w w'

theorem wf_small {t : Int} (h0 : 0 ≤ t) (h1 : t ≤ 65535) : (Lit.int .i64 t).wf = true := WalkArith.wf_i64 (by omega)

set_option maxHeartbeats 4000000 in
theorem split_any (t : Int) (d : List UInt8) (hd : d.length ≤ 1000000) (w : World) : Calls Tryz.prog 136 #[.int .i64 t, .string (bs d)] w (SplitPost w (spl t d)) := by
  have hsz : (bs d).size = d.length := bs_size d
  by_cases ht : t < 0 ∨ 65535 < t
  · have e : spl t d = .bad 5 0 := by unfold spl; rw [if_pos ht]
    rw [e]
    have HB := Lib.hid (bounded_no t ht w)
    clear ht e hsz
    go_enter Tryz.func136, Tryz.ntmps136
    go_wp2_with fail
    refine HB.out.mono ?_; rintro e w1 ⟨rfl, rfl⟩
    go_wp2_with fail
    go_ret2
    exact ⟨_, rfl, OwnP.nil _ _, Below.refl _ _⟩
  · have HB := Lib.hid (bounded_yes t (by omega) (by omega) w)
    by_cases hlong : 65535 < d.length
    · have e : spl t d = .bad 3 0 := by unfold spl; rw [if_neg ht, if_pos hlong]
      rw [e]
      have t1 : decide ((65535 : Int) < d.length) = true := by simp; omega
      clear ht e
      go_enter Tryz.func136, Tryz.ntmps136
      go_wp2_with fail
      refine HB.out.mono ?_; rintro e w1 ⟨rfl, rfl⟩
      go_wp2_with fail
      go_ret2
      exact ⟨_, rfl, OwnP.nil _ _, Below.refl _ _⟩
    · have e : spl t d = goP (pln d) d 0 d.length (kinds t) 0 [] := by unfold spl; rw [if_neg ht, if_neg hlong]
      rw [e]
      have t1 : decide ((65535 : Int) < d.length) = false := by simp; omega
      obtain ⟨cap, W, hcv, ho, hbW, hltW⟩ := conv_B w d (by omega)
      have HR := Lib.hid (show Calls Tryz.prog 143 #[.agg #[.slice (some ⟨w.heap.size, 0, none⟩) d.length cap, .int .i64 0, .int .i64 0, .int .i64 d.length, .func (.func 144) #[] #[], .slice none 0 0], .int .i64 t] W (ReadPost W (goP (pln d) d 0 d.length (kinds t) 0 [])) from
        read_plain (s := 0) (p := 0) t (wf_small (by omega) (by omega)) ho.sl (Nat.le_refl _) hd (Nat.zero_le _) (Nat.le_refl _) fun wx hs hh p => plain_any hs hh hd p)
      obtain ⟨R, hR⟩ : ∃ R, goP (pln d) d 0 d.length (kinds t) 0 [] = R := ⟨_, rfl⟩
      rw [hR] at HR ⊢
      have HW := Lib.hid hbW
      clear ht hlong e ho hbW hltW hR
      go_enter Tryz.func136, Tryz.ntmps136
      go_wp2_with fail
      refine HB.out.mono ?_; rintro e w1 ⟨rfl, rfl⟩
      go_wp2_with fail
      refine HR.out.mono ?_; rintro e w1 ⟨v, rfl, hown, hb1⟩
      have HO := Lib.hid hown
      have HB1 := Lib.hid (bel_call HW.out hb1)
      have hws := HW.out.size
      clear hown hb1
      go_wp2_with fail
      go_quiet (fail)
      go_wp2_with fail
      go_ret2
      exact ⟨v, rfl, ((HO.out.mono hws).below ((Below.refl _ _).alloc (Nat.le_refl _) _)).below (below_drewN (Below.refl _ _) _), below_drewN (bel_alloc HB1.out _) _⟩
end Go.Proofs.YtdikgjbpjdnodaaGreat

/-
  Check, Target, Address, Least.
-/
namespace Go.Proofs.YtdikgjbpjdnodaaGreat
open Go.RowKit Go.Shelf
set_option linter.unusedVariables false
set_option linter.unusedSimpArgs false
set_option maxRecDepth 100000

theorem split_ok {t : Int} {d : List UInt8} {L : List Pc} (h : spl t d = .ok L) (hd : d.length ≤ 1000000) (w : World) : Calls Tryz.prog 136 #[.int .i64 t, .string (bs d)] w fun en w' => ∃ v, en = .returned (.tuple #[v, .int .i64 0]) ∧ OwnP w' w.heap.size v L ∧ Below w.heap.size w w' := by
  have := split_any t d hd w
  rw [h] at this
  exact this
theorem split_bad {t : Int} {d : List UInt8} {c : Int} {a : Nat} (h : spl t d = .bad c a) (hd : d.length ≤ 1000000) (w : World) : Calls Tryz.prog 136 #[.int .i64 t, .string (bs d)] w fun en w' => ∃ v, en = .returned (.tuple #[v, .int .i64 c]) ∧ Below w.heap.size w w' := by
  have := split_any t d hd w
  rw [h] at this
  refine this.mono ?_
  rintro e w' ⟨v, rfl, _, hb⟩
  exact ⟨v, rfl, hb⟩

theorem rcheckD_any (t : Int) (d : List UInt8) (hd : d.length ≤ 1000000) (w : World) : Calls Tryz.prog 131 #[.int .i64 t, .string (bs d)] w (Tells w (.int .i64 (spl t d).code)) := by
  have HS := Lib.hid (split_any t d hd w)
  obtain ⟨R, hR⟩ : ∃ R, spl t d = R := ⟨_, rfl⟩
  rw [hR] at HS ⊢
  clear hR
  go_enter Tryz.func131, Tryz.ntmps131
  go_wp2_with fail
  refine HS.out.mono ?_; rintro e w1 ⟨v, rfl, hown, hb1⟩
  have HB := Lib.hid hb1
  clear hown hb1
  go_wp2_with fail
  go_ret
  exact ⟨rfl, HB.out⟩

theorem fits_len {ks : List PK} {L : List Pc} (h : Fits ks L) : L.length = ks.length := by
  induction h with
  | nil => rfl
  | fix h h2 ih => simp [ih]
  | nam h h2 ih => simp [ih]
  | txt h => rfl
  | rst => rfl

end Go.Proofs.YtdikgjbpjdnodaaGreat

/-
  Records: whether one may be, its lower form, which are the same.
-/
namespace Go.Proofs.YtdikgjbpjdnodaaGreat
open Go.RowKit Go.Shelf
set_option linter.unusedVariables false
set_option linter.unusedSimpArgs false
set_option maxRecDepth 100000

/-- A record: its name, its type, its class, its TTL, its data. -/
structure Rc where
  n : List UInt8
  t : Int
  c : Int
  l : Int
  d : List UInt8

/-- What says whether a question may be. -/
def askE (n : List UInt8) (t c : Int) : Int := if chk n ≠ 0 then chk n else if t < 0 ∨ 65535 < t ∨ c < 0 ∨ 65535 < c then 5 else 0

/-- What says whether a record may be. -/
def chkC (x : Rc) : Int := if askE x.n x.t x.c ≠ 0 then askE x.n x.t x.c else if x.l < 0 ∨ 2147483647 < x.l then 5 else (spl x.t x.d).code

theorem bound_yes (n : Int) (h : 0 ≤ n ∧ n ≤ 65535) (w : World) : Calls Tryz.prog 110 #[.int .i64 n] w fun e w' => e = .returned (.bool true) ∧ w = w' := by
  obtain ⟨h1, h2⟩ := h
  go_enter Tryz.func110, Tryz.ntmps110
  go_wp2
  go_ret
  exact ⟨rfl, rfl⟩

theorem bound_no (n : Int) (h : n < 0 ∨ 65535 < n) (w : World) : Calls Tryz.prog 110 #[.int .i64 n] w fun e w' => e = .returned (.bool false) ∧ w = w' := by
  by_cases h0 : n < 0
  · have t1 : decide (0 ≤ n) = false := by simpa using h0
    go_enter Tryz.func110, Tryz.ntmps110
    go_wp2
    go_ret
    exact ⟨rfl, rfl⟩
  · have t1 : decide (0 ≤ n) = true := by simpa using h0
    have t2 : decide (n ≤ 65535) = false := by simp; omega
    go_enter Tryz.func110, Tryz.ntmps110
    go_wp2
    go_ret
    exact ⟨rfl, rfl⟩

theorem ask_any (n : List UInt8) (hn : n.length ≤ 1000000) (t c : Int) (w : World) : Calls Tryz.prog 102 #[.string (bs n), .int .i64 t, .int .i64 c] w (Tells w (.int .i64 (askE n t c))) := by
  have HC := Lib.hid (check_any n (by omega) w)
  by_cases h0 : chk n = 0
  · by_cases ht : 0 ≤ t ∧ t ≤ 65535
    · by_cases hc : 0 ≤ c ∧ c ≤ 65535
      · have e : askE n t c = 0 := by unfold askE; rw [if_neg (by simpa using h0), if_neg (by omega)]
        have B1 := Lib.hid (bound_yes t ht)
        have B2 := Lib.hid (bound_yes c hc)
        rw [e]
        rw [h0] at HC
        clear e h0 ht hc
        go_enter Tryz.func102, Tryz.ntmps102
        go_wp2_with fail
        refine HC.out.mono ?_; rintro e w1 ⟨rfl, hb⟩
        have HB := Lib.hid hb
        clear hb
        go_wp2_with fail
        refine (B1.out _).mono ?_; rintro e w2 ⟨rfl, rfl⟩
        go_wp2_with fail
        refine (B2.out _).mono ?_; rintro e w2 ⟨rfl, rfl⟩
        go_wp2_with fail
        go_ret
        exact ⟨rfl, HB.out⟩
      · have e : askE n t c = 5 := by unfold askE; rw [if_neg (by simpa using h0), if_pos (by omega)]
        have B1 := Lib.hid (bound_yes t ht)
        have B2 := Lib.hid (bound_no c (by omega))
        rw [e]
        rw [h0] at HC
        clear e h0 ht hc
        go_enter Tryz.func102, Tryz.ntmps102
        go_wp2_with fail
        refine HC.out.mono ?_; rintro e w1 ⟨rfl, hb⟩
        have HB := Lib.hid hb
        clear hb
        go_wp2_with fail
        refine (B1.out _).mono ?_; rintro e w2 ⟨rfl, rfl⟩
        go_wp2_with fail
        refine (B2.out _).mono ?_; rintro e w2 ⟨rfl, rfl⟩
        go_wp2_with fail
        go_ret
        exact ⟨rfl, HB.out⟩
    · have e : askE n t c = 5 := by unfold askE; rw [if_neg (by simpa using h0), if_pos (by omega)]
      have B1 := Lib.hid (bound_no t (by omega))
      rw [e]
      rw [h0] at HC
      clear e h0 ht
      go_enter Tryz.func102, Tryz.ntmps102
      go_wp2_with fail
      refine HC.out.mono ?_; rintro e w1 ⟨rfl, hb⟩
      have HB := Lib.hid hb
      clear hb
      go_wp2_with fail
      refine (B1.out _).mono ?_; rintro e w2 ⟨rfl, rfl⟩
      go_wp2_with fail
      go_ret
      exact ⟨rfl, HB.out⟩
  · have e : askE n t c = chk n := by unfold askE; rw [if_pos (by simpa using h0)]
    rw [e]
    obtain ⟨c0, hc0⟩ : ∃ c0, chk n = c0 := ⟨_, rfl⟩
    rw [hc0] at HC h0 ⊢
    have tc : (c0 != 0) = true := by simpa using h0
    clear e h0 hc0
    go_enter Tryz.func102, Tryz.ntmps102
    go_wp2_with fail
    refine HC.out.mono ?_; rintro e w1 ⟨rfl, hb⟩
    have HB := Lib.hid hb
    clear hb
    go_wp2_with fail
    go_ret
    exact ⟨rfl, HB.out⟩

set_option maxHeartbeats 1000000 in
theorem checkC_any (n : List UInt8) (t c l : Int) (d : List UInt8) (hn : n.length ≤ 1000000) (hd : d.length ≤ 1000000) (w : World) :
    Calls Tryz.prog 128 #[.agg #[.string (bs n), .int .i64 t, .int .i64 c, .int .i64 l, .string (bs d)]] w (Tells w (.int .i64 (chkC ⟨n, t, c, l, d⟩))) := by
  have HA := Lib.hid (fun wx => ask_any n hn t c wx)
  have HR := Lib.hid (fun wx => rcheckD_any t d hd wx)
  have HB := Lib.hid ((Below.refl w.heap.size w).alloc (Nat.le_refl _) (.cells #[.string (bs n), .int .i64 t, .int .i64 c, .int .i64 l, .string (bs d)] 78))
  have c0 : (w.alloc (.cells #[.string (bs n), .int .i64 t, .int .i64 c, .int .i64 l, .string (bs d)] 78)).cell? ⟨w.heap.size, 1, none⟩ = some (.int .i64 t) := by simp [go_sem]
  have c3 : (w.alloc (.cells #[.string (bs n), .int .i64 t, .int .i64 c, .int .i64 l, .string (bs d)] 78)).cell? ⟨w.heap.size, 3, none⟩ = some (.int .i64 l) := by simp [go_sem]
  have c4 : (w.alloc (.cells #[.string (bs n), .int .i64 t, .int .i64 c, .int .i64 l, .string (bs d)] 78)).cell? ⟨w.heap.size, 4, none⟩ = some (.string (bs d)) := by simp [go_sem]
  have HQ := Lib.hid (And.intro c0 (And.intro c3 c4))
  clear c0 c3 c4
  have hlt : w.heap.size < (w.alloc (.cells #[.string (bs n), .int .i64 t, .int .i64 c, .int .i64 l, .string (bs d)] 78)).heap.size := by simp
  have HL := Lib.hid hlt
  clear hlt
  obtain ⟨E, hE⟩ : ∃ E, askE n t c = E := ⟨_, rfl⟩
  have e0 : chkC ⟨n, t, c, l, d⟩ = if E ≠ 0 then E else if l < 0 ∨ 2147483647 < l then 5 else (spl t d).code := by unfold chkC; simp only [hE]
  rw [e0]
  rw [hE] at HA
  clear e0 hE
  by_cases h0 : E = 0
  · subst h0
    rw [if_neg (by simp)]
    by_cases hl : l < 0 ∨ 2147483647 < l
    · rw [if_pos hl]
      have tl : decide (l < 0) = true ∨ (decide (l < 0) = false ∧ decide ((2147483647 : Int) < l) = true) := by
        by_cases h : l < 0
        · exact .inl (by simpa using h)
        · exact .inr ⟨by simpa using h, by simp; omega⟩
      clear hl
      rcases tl with tl | ⟨tl, tl2⟩
      all_goals
        go_enter Tryz.func128, Tryz.ntmps128
        go_wp2_with fail
        refine (HA.out _).mono ?_; rintro e w1 ⟨rfl, hb⟩
        have c3 := cell_later hb HQ.out.2.1
        have HB1 := Lib.hid (bel_call HB.out hb)
        clear hb
        go_wp2_with fail
        go_ret
        exact ⟨rfl, HB1.out⟩
    · rw [if_neg hl]
      have tl : decide (l < 0) = false := by simp; omega
      have tl2 : decide ((2147483647 : Int) < l) = false := by simp; omega
      clear hl
      obtain ⟨C, hC⟩ : ∃ C, (spl t d).code = C := ⟨_, rfl⟩
      rw [hC] at HR ⊢
      clear hC
      go_enter Tryz.func128, Tryz.ntmps128
      go_wp2_with fail
      refine (HA.out _).mono ?_; rintro e w1 ⟨rfl, hb⟩
      have c3 := cell_later hb HQ.out.2.1
      have c4 := cell_later hb HQ.out.2.2
      have c1 := cell_later hb HQ.out.1
      have HB1 := Lib.hid (bel_call HB.out hb)
      clear hb
      go_wp2_with fail
      refine (HR.out _).mono ?_; rintro e w2 ⟨rfl, hb⟩
      have HB2 := Lib.hid (bel_call HB1.out hb)
      clear hb
      go_wp2_with fail
      go_ret
      exact ⟨rfl, HB2.out⟩
  · rw [if_pos (by simpa using h0)]
    have tE : (E != 0) = true := by simpa using h0
    clear h0
    go_enter Tryz.func128, Tryz.ntmps128
    go_wp2_with fail
    refine (HA.out _).mono ?_; rintro e w1 ⟨rfl, hb⟩
    have HB1 := Lib.hid (bel_call HB.out hb)
    clear hb
    go_wp2_with fail
    go_ret
    exact ⟨rfl, HB1.out⟩
end Go.Proofs.YtdikgjbpjdnodaaGreat
