/-
  A message that says something besides: Put.
-/
import Derived.Test.YtcjgbholgbjejaaW04
import Derived.Test.YtcjgbholgbjejaaW05
import Derived.Test.YtcjgbholgbjejaaW03
namespace Go.Proofs.Ytcjgbholgbjejaa
open Go.RowKit Go.Shelf
set_option linter.unusedVariables false
set_option linter.unusedSimpArgs false
set_option maxRecDepth 100000

/-- A list without room is cut to itself. -/
theorem full_rc (a : Option Addr) (n c : Nat) (hn : n ≤ c) (wx : World) : (Instr.slice 23 (.slice a n c) none (some (.int .i64 n)) (some (.int .i64 n))).run Try.prog wx = .ok (.slice a n n) wx := by
  rw [run_slice_hm (P := Try.prog) wx 23 a n c Try.underlying23 .i64 .i64 n n (by omega) (by omega) (by omega), size_rc]
  show Result.ok (sliced a 0 n n 5) wx = _
  unfold sliced
  by_cases h0 : n = 0
  · rw [if_pos h0, Nat.sub_zero]
  · rw [if_neg h0, Nat.sub_zero]
    cases a with
    | none => rfl
    | some x => simp [Addr.add]
/-- A record behind those of somebody else's list: all in new memory. -/
theorem app_full {w : World} {hi hi' B c : Nat} {a : Option Addr} {u : Value} {l : List Rc} {x : Rc} (h : SR w hi (.slice a l.length c) l) (hx : SR w hi' u [x]) (hl : l.length + 1 ≤ 1000000) (hB : B ≤ w.heap.size) :
    ∃ a' c' w', (Builtin.append_ #[23, 23] 23 #[.slice a l.length l.length, u]).run Try.prog w = .ok (.slice a' (l.length + 1) c') w' ∧ OwnRc w' B (.slice a' (l.length + 1) c') (l ++ [x]) ∧ Below w.heap.size w w' := by
  obtain ⟨a2, c2, he, hn, h0, hc⟩ := h
  injection he with he1 he2 he3
  subst he1; subst he3
  cases a with
  | none =>
    obtain ⟨hz, _⟩ := h0 rfl
    have hl0 : l = [] := List.length_eq_zero_iff.mp hz
    subst hl0
    obtain ⟨a', c', w', h1, h2, h3, _⟩ := run_appRc (show OwnRc w B (.slice none 0 0) [] from World.ownsRow_nil w B 48 5) hx hl hB
    exact ⟨a', c', w', h1, h2, h3.below fun k hk => ⟨hk, by simp [Value.ownBlock]⟩⟩
  | some ad =>
    obtain ⟨ua, uc, rfl, _, _, hx2⟩ := hx
    obtain ⟨b, off, rfl, _, h4⟩ := hx2 (by simp)
    obtain ⟨i0, hi0, hz0, hz1, hz2⟩ := info_parts info_rc
    have holds : ∀ j v, (acr l)[j]? = some v → w.cell? (ad.add j) = some v := by
      intro j v hv
      have hp : 0 < l.length := by
        rcases Nat.eq_zero_or_pos l.length with h | h
        · rw [List.length_eq_zero_iff.mp h] at hv; simp [acr] at hv
        · exact h
      obtain ⟨b1, off1, e1, _, h5⟩ := hc hp
      injection e1 with e1
      subst e1
      rw [WideShapes.add_plain]
      exact h5 j v hv
    have hr := run_append_grow (P := Try.prog) w 23 23 48 i0 _ Try.underlying23 hi0 hz0 ad l.length l.length (acr l) (by rw [acr_len, hz1]) holds ⟨b, off, none⟩ 1 uc (acr [x]) (by rw [acr_len, hz1]; rfl)
      (fun j v hv => by rw [WideShapes.add_plain]; exact h4 j v hv) (by omega) (by omega) (by rw [hz2]; exact growslice_fits (by omega) (by omega))
    have hg := grownCap_ge w (l.length + 1) l.length 48
    have hcm := grownCap_le_maxLen w (l.length + 1) l.length 48 (by unfold maxLen; omega)
    obtain ⟨G, hG⟩ : ∃ G, grownCap w (l.length + 1) l.length 48 = G := ⟨_, rfl⟩
    rw [hG] at hr hg hcm
    refine ⟨_, _, _, hr, ⟨by rw [acr_len], .inr ⟨w.heap.size, _, _, by rw [List.length_append, List.length_singleton], hB, World.alloc_heap_new w.drew _, by rw [List.length_append, List.length_singleton]; exact hg, hcm, ?_, ?_⟩⟩, ?_⟩
    · have e1 : (acr [x]).length = 5 := rfl
      simp only [Array.size_append, List.size_toArray, size_zeroCells, e1, acr_len]
      show l.length * 5 + 5 + (G - (l.length + 1)) * 5 = G * 5
      omega
    · rw [acr_app, List.length_append, List.length_singleton]
      simp only [Array.toList_append, List.append_assoc, List.toList_toArray]
      rw [← List.append_assoc]
      refine List.take_left' ?_
      rw [List.length_append, acr_len, acr_len]
      simp
      omega
    · exact ⟨rfl, rfl, rfl, by simp, fun k hk => Below.heap_alloc w.drew _ k hk⟩

/-- The message's box, what is said, the answer's. -/
structure Pb (w wr : World) (N : Nat) (i f : Int) (q a n r : Value) (es ex ev : Int) (eb : Bool) (o : Value) : Prop where
  bel : Below N w wr
  x : Cel wr N [.int .i64 i, .int .i64 f, q, a, n, r]
  e : Cel wr (N + 1) [.int .i64 es, .int .i64 ex, .int .i64 ev, .bool eb, o]
  z : Cel wr (N + 2) [.int .i64 0, .int .i64 0, .slice none 0 0, .slice none 0 0, .slice none 0 0, .slice none 0 0]
  size : N + 3 ≤ wr.heap.size
section
variable {w wr w' : World} {N : Nat} {i f : Int} {q a n r : Value} {es ex ev : Int} {eb : Bool} {o : Value}
theorem Pb.later (h : Pb w wr N i f q a n r es ex ev eb o) (hb : Below wr.heap.size wr w') : Pb w w' N i f q a n r es ex ev eb o :=
  ⟨below_aside h.bel (Aside.of_all hb : Aside (fun _ => False) wr w') (fun k hk => ⟨by have := h.size; omega, id⟩), h.x.below (by simp) hb, h.e.below (by simp) hb, h.z.below (by simp) hb, Nat.le_trans h.size hb.size⟩
theorem Pb.put5 (h : Pb w wr N i f q a n r es ex ev eb o) (v : Value) : Pb w (wr.setCell ⟨N, 5, none⟩ v) N i f q a n v es ex ev eb o :=
  ⟨below_aside h.bel (bm_side _ _ _ _) (fun k hk => ⟨by have := h.size; omega, by omega⟩), h.x.set (o := 5) (by simp) v, h.e.other (a := ⟨N, 5, none⟩) (by show N ≠ N + 1; omega) _, h.z.other (a := ⟨N, 5, none⟩) (by show N ≠ N + 2; omega) _, Nat.le_trans h.size (bm_side wr N 5 v).size⟩
theorem Pb.fin (h : Pb w wr N i f q a n r es ex ev eb o) (v0 v1 v2 v3 v4 v5 : Value) : Below N w (put6 wr (N + 2) v0 v1 v2 v3 v4 v5) ∧ Cel (put6 wr (N + 2) v0 v1 v2 v3 v4 v5) (N + 2) [v0, v1, v2, v3, v4, v5] ∧ Aside (fun k => k = N + 2) wr (put6 wr (N + 2) v0 v1 v2 v3 v4 v5) :=
  ⟨below_aside h.bel (aside_put6 _ _ _ _ _ _ _ _) (fun k hk => ⟨by have := h.size; omega, by omega⟩), cel_put6 h.z _ _ _ _ _ _, aside_put6 _ _ _ _ _ _ _ _⟩
theorem pb_start (w : World) (i f : Int) (q a n r : Value) (es ex ev : Int) (eb : Bool) (o : Value) (hN : w.heap.size = N) :
    Pb w (((w.alloc (.cells #[.int .i64 i, .int .i64 f, q, a, n, r] 25)).alloc (.cells #[.int .i64 es, .int .i64 ex, .int .i64 ev, .bool eb, o] 30)).alloc (.cells #[.int .i64 0, .int .i64 0, .slice none 0 0, .slice none 0 0, .slice none 0 0, .slice none 0 0] 25)) N i f q a n r es ex ev eb o := by
  subst hN
  have hb1 : ∀ (x : World) (o : Obj), Below x.heap.size x (x.alloc o) := fun x o => (Below.refl _ _).alloc (Nat.le_refl _) o
  have hx := ((cel_new6 w (.int .i64 i) (.int .i64 f) q a n r 25).below (by simp) (hb1 _ (.cells #[.int .i64 es, .int .i64 ex, .int .i64 ev, .bool eb, o] 30))).below (by simp) (hb1 _ (.cells #[.int .i64 0, .int .i64 0, .slice none 0 0, .slice none 0 0, .slice none 0 0, .slice none 0 0] 25))
  have he := (cel_new (w.alloc (.cells #[.int .i64 i, .int .i64 f, q, a, n, r] 25)) (.int .i64 es) (.int .i64 ex) (.int .i64 ev) (.bool eb) o 30).below (by simp) (hb1 _ (.cells #[.int .i64 0, .int .i64 0, .slice none 0 0, .slice none 0 0, .slice none 0 0, .slice none 0 0] 25))
  have hz := cel_new6 ((w.alloc (.cells #[.int .i64 i, .int .i64 f, q, a, n, r] 25)).alloc (.cells #[.int .i64 es, .int .i64 ex, .int .i64 ev, .bool eb, o] 30)) (.int .i64 0) (.int .i64 0) (.slice none 0 0) (.slice none 0 0) (.slice none 0 0) (.slice none 0 0) 25
  rw [World.size_alloc] at he
  rw [World.size_alloc, World.size_alloc] at hz
  exact ⟨(((Below.refl _ _).alloc (Nat.le_refl _) _).alloc (by simp) _).alloc (by simp; omega) _, hx, he, hz, by simp⟩
end
def ms00 : Ms := ⟨0, 0, [], [], [], []⟩
theorem ownM_zero (w : World) (B : Nat) : OwnM w B (.agg #[.int .i64 0, .int .i64 0, .slice none 0 0, .slice none 0 0, .slice none 0 0, .slice none 0 0]) ms00 :=
  ⟨_, _, _, _, rfl, World.ownsRow_nil _ _ _ _, World.ownsRow_nil _ _ _ _, World.ownsRow_nil _ _ _ _, World.ownsRow_nil _ _ _ _⟩

/-- The last list has no less room than entries. -/
def CapR (v : Value) (n : Nat) : Prop := ∃ i f q a s ra rc, v = .agg #[i, f, q, a, s, .slice ra n rc] ∧ n ≤ rc
/-- What Put tells. -/
def PuPost (w : World) (m : Ms) (e : Ed) (x : Ending) (w' : World) : Prop := ∃ v, x = .returned (.tuple #[v, .int .i64 (puM m e).2]) ∧ OwnM w' w.heap.size v (puM m e).1 ∧ Below w.heap.size w w'

set_option maxHeartbeats 4000000 in
theorem put_any {w : World} {hi hi' : Nat} {u v : Value} {m : Ms} {e : Ed} (h : Mg w hi u m) (h1 : hi ≤ w.heap.size) (hm : Mild m) (hm2 : m.q.length + m.an.length + m.ns.length + m.ar.length ≤ 800000) (hcap : CapR u m.ar.length)
    (he : Eg w hi' v e) (h1' : hi' ≤ w.heap.size) (hel : e.o.length ≤ 900000) (hed : ∀ x ∈ e.o, x.d.length ≤ 1000000) :
    Calls Try.prog 24 #[u, v] w (PuPost w m e) := by
  have hmad : chkE e = 0 → Mild (adM m e) := fun hc => by
    obtain ⟨g1, g2, g3, g4, g5⟩ := hm
    obtain ⟨_, _, _, _, hs⟩ := chkE_in hc
    refine ⟨?_, g2, g3, g4, fun x hx => ?_⟩
    · unfold adM; simp only [List.length_append, List.length_singleton]; omega
    · unfold adM at hx
      simp only [List.mem_append, List.mem_singleton] at hx
      rcases hx with hx | rfl
      · exact g5 x hx
      · unfold edR; simp only [List.length_singleton]; rw [otsB_len]; omega
  have HMAD := Lib.hid hmad
  obtain ⟨ii, ff, qq, aa2, ss, ra2, rc2, hcv, hcc⟩ := hcap
  obtain ⟨i0, f0, l, lan, lns, lar⟩ := m
  obtain ⟨es, ex, ev, eb, lo⟩ := e
  have HE0 := Lib.hid he
  obtain ⟨q, a, n, r, rfl, hq, h2, h3, h4⟩ := h
  obtain ⟨o, rfl, hso⟩ := he
  injection hcv with hcv
  simp only [Array.mk.injEq, List.cons.injEq, and_true] at hcv
  obtain ⟨k1, k2, k3, k4, k5, k6⟩ := hcv
  subst k1; subst k2; subst k3; subst k4; subst k5; subst k6
  have hl := hm.1
  simp only at hl hm2 hq h2 h3 h4 hcc hso hel hed ⊢
  obtain ⟨oa, oc, rfl⟩ := Lst.shape hso
  obtain ⟨N, hN⟩ : ∃ g, w.heap.size = g := ⟨_, rfl⟩
  obtain ⟨EC, hEC⟩ : ∃ x, chkE ⟨es, ex, ev, eb, lo⟩ = x := ⟨_, rfl⟩
  have HE := Lib.hid (fun wx (hb : Below N w wx) => (HE0.out.below hb (by omega) : Eg wx hi' _ ⟨es, ex, ev, eb, lo⟩))
  have HCK := Lib.hid (fun wx (hb : Below N w wx) => checkE_any (HE.out wx hb) (Nat.le_trans (by omega : hi' ≤ N) (by have := hb.size; omega)) hel hed)
  rw [hEC] at HCK
  have HCA := Lib.hid (fun wx (hb : Below N w wx) => opts_any (Lst.below h2 hb (by omega)) (Nat.le_trans (by omega : hi ≤ N) (by have := hb.size; omega)) (by omega))
  have HCN := Lib.hid (fun wx (hb : Below N w wx) => opts_any (Lst.below h3 hb (by omega)) (Nat.le_trans (by omega : hi ≤ N) (by have := hb.size; omega)) (by omega))
  have HCR := Lib.hid (fun wx (hb : Below N w wx) => opts_any (Lst.below h4 hb (by omega)) (Nat.le_trans (by omega : hi ≤ N) (by have := hb.size; omega)) (by omega))
  have HQ := Lib.hid (fun wx (hb : Below N w wx) => Lst.below hq hb (by omega : hi ≤ N))
  have HA2 := Lib.hid (fun wx (hb : Below N w wx) => Lst.below h2 hb (by omega : hi ≤ N))
  have HN2 := Lib.hid (fun wx (hb : Below N w wx) => Lst.below h3 hb (by omega : hi ≤ N))
  have HR2 := Lib.hid (fun wx (hb : Below N w wx) => (Lst.below h4 hb (by omega : hi ≤ N) : SR wx hi (.slice ra2 lar.length rc2) lar))
  have HHI := Lib.hid (show hi ≤ N ∧ hi' ≤ N by omega)
  have HL := Lib.hid hm2
  have hoa := opL_len lan
  have hon := opL_len lns
  have hor := opL_len lar
  obtain ⟨xa, xc, rfl⟩ := Lst.shape hq
  obtain ⟨aa, ac, rfl⟩ := Lst.shape h2
  obtain ⟨na, nc, rfl⟩ := Lst.shape h3
  obtain ⟨la, hla⟩ : ∃ i, lan.length = i := ⟨_, rfl⟩
  obtain ⟨ln, hln⟩ : ∃ i, lns.length = i := ⟨_, rfl⟩
  obtain ⟨lr, hlr⟩ : ∃ i, lar.length = i := ⟨_, rfl⟩
  obtain ⟨lq, hlq⟩ : ∃ i, l.length = i := ⟨_, rfl⟩
  obtain ⟨kA, hkA⟩ : ∃ i, (opL lan).length = i := ⟨_, rfl⟩
  obtain ⟨kN, hkN⟩ : ∃ i, (opL lns).length = i := ⟨_, rfl⟩
  obtain ⟨kR, hkR⟩ : ∃ i, (opL lar).length = i := ⟨_, rfl⟩
  obtain ⟨PU, hPU⟩ : ∃ x, puM ⟨i0, f0, l, lan, lns, lar⟩ ⟨es, ex, ev, eb, lo⟩ = x := ⟨_, rfl⟩
  unfold PuPost
  rw [hPU]
  unfold puM at hPU
  simp only [hEC, hkA, hkN, hkR] at hPU
  rw [hla] at HCA
  rw [hln] at HCN
  rw [hlr] at HCR HR2
  rw [hla, hln, hlr, hlq]
  rw [hla, hkA] at hoa
  rw [hln, hkN] at hon
  rw [hlr, hkR] at hor
  rw [hlr] at hcc
  rw [hla, hln, hlr, hlq] at hl
  have hcut := fun wx => full_rc ra2 lr rc2 hcc wx
  have HKA := Lib.hid hkA
  have HKN := Lib.hid hkN
  have HKR := Lib.hid hkR
  have HLR := Lib.hid hlr
  have HLA := Lib.hid hla
  have HLN := Lib.hid hln
  have HLQ := Lib.hid hlq
  have hw1 : IntKind.i64.wrap ((kA : Int) + kN) = (kA : Int) + kN := wr64 _ (by omega) (by omega)
  have hw2 : IntKind.i64.wrap ((kA : Int) + kN + kR) = (kA : Int) + kN + kR := wr64 _ (by omega) (by omega)
  obtain ⟨kk, hkk⟩ : ∃ k, kA + kN + kR = k := ⟨_, rfl⟩
  have HPU := Lib.hid hPU
  have HEC := Lib.hid hEC
  have HP := Lib.hid (pb_start w i0 f0 (.slice xa lq xc) (.slice aa la ac) (.slice na ln nc) (.slice ra2 lr rc2) es ex ev eb (.slice oa lo.length oc) hN)
  have HB0 := Lib.hid (HP.out.bel)
  clear hq h2 h3 h4 h1 h1' hm hm2 hl hla hln hlr hlq hoa hon hor hkA hkN hkR hso hel hed hPU hEC hmad
  go_enter Try.func24, Try.ntmps24
  go_wp2_with fail
  refine (HCK.out _ HB0.out).mono ?_; rintro e w1 ⟨rfl, hb⟩
  replace HP := Lib.hid (HP.out.later (by simpa using hb))
  clear hb HB0
  obtain ⟨z0, z1, z2, z3, z4, z5⟩ := HP.out.z.six
  have fz := HP.out.z.fz
  by_cases hE0 : EC = 0
  · subst hE0
    go_wp2_with fail
    clear z0 z1 z2 z3 z4 z5 fz
    replace HP := Lib.hid (HP.out.later (Below.refl _ _).drew)
    refine wp_region_held_drew (S := (fun wx => wx.cell? ⟨N, 3, none⟩ = some (.slice aa la ac) ∧ wx.cell? ⟨N, 4, none⟩ = some (.slice na ln nc) ∧ wx.cell? ⟨N, 5, none⟩ = some (.slice ra2 lr rc2))) (by kernel_rfl) ⟨HP.out.x.c 3 (by simp), HP.out.x.c 4 (by simp), HP.out.x.c 5 (by simp)⟩ (fun hHeld => ?_)
    refine wpAnyH_take (i := 0) (oi := { dst := some 13, op := Op.fieldAddr 25 (Operand.tmp 2) 3, type := 0, pos := "edns.go:41", after := #[], guard := none }) (v := ?_) rfl (by kernel_rfl) (by kernel_rfl) (by kernel_rfl) (fun _ _ _ h => h) (Or.inl ⟨by rfl, ?_⟩) (by assumption) ?_
    rotate_left 1
    · intro w hSw; (try dsimp only at hSw); go_simp; try (with_reducible rfl)
    try simp only [Act.put, List.setIfInBounds_toArray, List.set_cons_zero, List.set_cons_succ]
    refine wpAnyH_take (i := 1) (oi := { dst := some 14, op := Op.load 23 (Operand.tmp 13), type := 23, pos := "edns.go:41", after := #[{ on := 0, ground := Ground.data }], guard := none }) (v := ?_) rfl (by kernel_rfl) (by kernel_rfl) (by kernel_rfl) (fun _ _ _ h => h) (Or.inl ⟨by rfl, ?_⟩) (by assumption) ?_
    rotate_left 1
    · intro w hSw; (try dsimp only at hSw); go_simp; try (with_reducible rfl)
    try simp only [Act.put, List.setIfInBounds_toArray, List.set_cons_zero, List.set_cons_succ]
    refine wpAnyH_take (i := 4) (oi := { dst := some 17, op := Op.fieldAddr 25 (Operand.tmp 2) 4, type := 0, pos := "edns.go:41", after := #[], guard := none }) (v := ?_) rfl (by kernel_rfl) (by kernel_rfl) (by kernel_rfl) (fun _ _ _ h => h) (Or.inl ⟨by rfl, ?_⟩) (by assumption) ?_
    rotate_left 1
    · intro w hSw; (try dsimp only at hSw); go_simp; try (with_reducible rfl)
    try simp only [Act.put, List.setIfInBounds_toArray, List.set_cons_zero, List.set_cons_succ]
    refine wpAnyH_take (i := 5) (oi := { dst := some 18, op := Op.load 23 (Operand.tmp 17), type := 23, pos := "edns.go:41", after := #[{ on := 4, ground := Ground.data }], guard := none }) (v := ?_) rfl (by kernel_rfl) (by kernel_rfl) (by kernel_rfl) (fun _ _ _ h => h) (Or.inl ⟨by rfl, ?_⟩) (by assumption) ?_
    rotate_left 1
    · intro w hSw; (try dsimp only at hSw); go_simp; try (with_reducible rfl)
    try simp only [Act.put, List.setIfInBounds_toArray, List.set_cons_zero, List.set_cons_succ]
    refine wpAnyH_take (i := 9) (oi := { dst := some 22, op := Op.fieldAddr 25 (Operand.tmp 2) 5, type := 0, pos := "edns.go:41", after := #[], guard := none }) (v := ?_) rfl (by kernel_rfl) (by kernel_rfl) (by kernel_rfl) (fun _ _ _ h => h) (Or.inl ⟨by rfl, ?_⟩) (by assumption) ?_
    rotate_left 1
    · intro w hSw; (try dsimp only at hSw); go_simp; try (with_reducible rfl)
    try simp only [Act.put, List.setIfInBounds_toArray, List.set_cons_zero, List.set_cons_succ]
    refine wpAnyH_take (i := 10) (oi := { dst := some 23, op := Op.load 23 (Operand.tmp 22), type := 23, pos := "edns.go:41", after := #[{ on := 9, ground := Ground.data }], guard := none }) (v := ?_) rfl (by kernel_rfl) (by kernel_rfl) (by kernel_rfl) (fun _ _ _ h => h) (Or.inl ⟨by rfl, ?_⟩) (by assumption) ?_
    rotate_left 1
    · intro w hSw; (try dsimp only at hSw); go_simp; try (with_reducible rfl)
    try simp only [Act.put, List.setIfInBounds_toArray, List.set_cons_zero, List.set_cons_succ]
    refine wpAnyH_ready (rs := [2]) (by kernel_rfl) (by simp) ?_
    refine AllReadyH.cons (o := { dst := some 15, op := Op.call { callee := Callee.value (Operand.func 31), args := #[Operand.tmp 14], argTypes := #[23] }, type := 23, pos := "edns.go:41", after := #[{ on := 1, ground := Ground.data }], guard := none }) rfl (fun K hK => ?_) (AllReadyH.nil)
    go_simp
    refine (HCA.out _ HP.out.bel).mono ?_; rintro e w2 ⟨vva, rfl, ho, hb⟩
    obtain ⟨ava, cva, rfl⟩ := ho.shape
    rw [HKA.out]
    replace HP := Lib.hid (HP.out.later hb)
    clear ho hb
    try go_wp2_with fail
    refine hK.out _ _ ⟨HP.out.x.c 3 (by simp), HP.out.x.c 4 (by simp), HP.out.x.c 5 (by simp)⟩ (fun hHeld => ?_)
    clear hK K
    try simp only [Act.put, List.setIfInBounds_toArray, List.set_cons_zero, List.set_cons_succ]
    refine wpAnyH_take (i := 3) (oi := { dst := some 16, op := Op.call { callee := Callee.builtin Builtin.len, args := #[Operand.tmp 15], argTypes := #[23] }, type := 3, pos := "edns.go:41", after := #[{ on := 2, ground := Ground.data }], guard := none }) (v := ?_) rfl (by kernel_rfl) (by kernel_rfl) (by kernel_rfl) (fun _ _ _ h => h) (Or.inl ⟨by rfl, ?_⟩) (by assumption) ?_
    rotate_left 1
    · intro w hSw; (try dsimp only at hSw); go_simp; try (with_reducible rfl)
    try simp only [Act.put, List.setIfInBounds_toArray, List.set_cons_zero, List.set_cons_succ]
    refine wpAnyH_ready (rs := [6]) (by kernel_rfl) (by simp) ?_
    refine AllReadyH.cons (o := { dst := some 19, op := Op.call { callee := Callee.value (Operand.func 31), args := #[Operand.tmp 18], argTypes := #[23] }, type := 23, pos := "edns.go:41", after := #[{ on := 5, ground := Ground.data }, { on := 2, ground := Ground.chain }], guard := none }) rfl (fun K hK => ?_) (AllReadyH.nil)
    go_simp
    refine (HCN.out _ HP.out.bel).mono ?_; rintro e w3 ⟨vvn, rfl, ho, hb⟩
    obtain ⟨avn, cvn, rfl⟩ := ho.shape
    rw [HKN.out]
    replace HP := Lib.hid (HP.out.later hb)
    clear ho hb
    try go_wp2_with fail
    refine hK.out _ _ ⟨HP.out.x.c 3 (by simp), HP.out.x.c 4 (by simp), HP.out.x.c 5 (by simp)⟩ (fun hHeld => ?_)
    clear hK K
    try simp only [Act.put, List.setIfInBounds_toArray, List.set_cons_zero, List.set_cons_succ]
    refine wpAnyH_take (i := 7) (oi := { dst := some 20, op := Op.call { callee := Callee.builtin Builtin.len, args := #[Operand.tmp 19], argTypes := #[23] }, type := 3, pos := "edns.go:41", after := #[{ on := 6, ground := Ground.data }], guard := none }) (v := ?_) rfl (by kernel_rfl) (by kernel_rfl) (by kernel_rfl) (fun _ _ _ h => h) (Or.inl ⟨by rfl, ?_⟩) (by assumption) ?_
    rotate_left 1
    · intro w hSw; (try dsimp only at hSw); go_simp; try (with_reducible rfl)
    try simp only [Act.put, List.setIfInBounds_toArray, List.set_cons_zero, List.set_cons_succ]
    refine wpAnyH_take (i := 8) (oi := { dst := some 21, op := Op.binOp BinOp.add 3 (Operand.tmp 16) (Operand.tmp 20) 3, type := 3, pos := "edns.go:41", after := #[{ on := 3, ground := Ground.data }, { on := 7, ground := Ground.data }], guard := none }) (v := ?_) rfl (by kernel_rfl) (by kernel_rfl) (by kernel_rfl) (fun _ _ _ h => h) (Or.inl ⟨by rfl, ?_⟩) (by assumption) ?_
    rotate_left 1
    · intro w hSw; (try dsimp only at hSw); go_simp; try (with_reducible rfl)
    try simp only [Act.put, List.setIfInBounds_toArray, List.set_cons_zero, List.set_cons_succ]
    refine wpAnyH_ready (rs := [11]) (by kernel_rfl) (by simp) ?_
    refine AllReadyH.cons (o := { dst := some 24, op := Op.call { callee := Callee.value (Operand.func 31), args := #[Operand.tmp 23], argTypes := #[23] }, type := 23, pos := "edns.go:41", after := #[{ on := 10, ground := Ground.data }, { on := 6, ground := Ground.chain }], guard := none }) rfl (fun K hK => ?_) (AllReadyH.nil)
    go_simp
    refine (HCR.out _ HP.out.bel).mono ?_; rintro e w4 ⟨vvr, rfl, ho, hb⟩
    obtain ⟨avr, cvr, rfl⟩ := ho.shape
    rw [HKR.out]
    replace HP := Lib.hid (HP.out.later hb)
    clear ho hb
    try go_wp2_with fail
    refine hK.out _ _ ⟨HP.out.x.c 3 (by simp), HP.out.x.c 4 (by simp), HP.out.x.c 5 (by simp)⟩ (fun hHeld => ?_)
    clear hK K
    try simp only [Act.put, List.setIfInBounds_toArray, List.set_cons_zero, List.set_cons_succ]
    refine wpAnyH_take (i := 12) (oi := { dst := some 25, op := Op.call { callee := Callee.builtin Builtin.len, args := #[Operand.tmp 24], argTypes := #[23] }, type := 3, pos := "edns.go:41", after := #[{ on := 11, ground := Ground.data }], guard := none }) (v := ?_) rfl (by kernel_rfl) (by kernel_rfl) (by kernel_rfl) (fun _ _ _ h => h) (Or.inl ⟨by rfl, ?_⟩) (by assumption) ?_
    rotate_left 1
    · intro w hSw; (try dsimp only at hSw); go_simp; try (with_reducible rfl)
    try simp only [Act.put, List.setIfInBounds_toArray, List.set_cons_zero, List.set_cons_succ]
    refine wpAnyH_take (i := 13) (oi := { dst := some 26, op := Op.binOp BinOp.add 3 (Operand.tmp 21) (Operand.tmp 25) 3, type := 3, pos := "edns.go:41", after := #[{ on := 8, ground := Ground.data }, { on := 12, ground := Ground.data }], guard := none }) (v := ?_) rfl (by kernel_rfl) (by kernel_rfl) (by kernel_rfl) (fun _ _ _ h => h) (Or.inl ⟨by rfl, ?_⟩) (by assumption) ?_
    rotate_left 1
    · intro w hSw; (try dsimp only at hSw); go_simp; try (with_reducible rfl)
    try simp only [Act.put, List.setIfInBounds_toArray, List.set_cons_zero, List.set_cons_succ]
    refine wpAnyH_take (i := 14) (oi := { dst := some 27, op := Op.binOp BinOp.gtr 3 (Operand.tmp 26) (Operand.const (Value.int IntKind.i64 0)) 3, type := 4, pos := "edns.go:41", after := #[{ on := 13, ground := Ground.data }], guard := none }) (v := ?_) rfl (by kernel_rfl) (by kernel_rfl) (by kernel_rfl) (fun _ _ _ h => h) (Or.inl ⟨by rfl, ?_⟩) (by assumption) ?_
    rotate_left 1
    · intro w hSw; (try dsimp only at hSw); go_simp; try (with_reducible rfl)
    try simp only [Act.put, List.setIfInBounds_toArray, List.set_cons_zero, List.set_cons_succ]
    refine wpAnyH_done (by kernel_rfl) ?_ _
    clear hHeld
    obtain ⟨WR, hWR⟩ : ∃ X, w4 = X := ⟨_, rfl⟩
    rw [hWR] at HP ⊢
    clear hWR
    obtain ⟨z0, z1, z2, z3, z4, z5⟩ := HP.out.z.six
    have fz := HP.out.z.fz
    by_cases hk0 : 0 < kk
    · have t1 : decide ((0 : Int) < (kA : Int) + kN + kR) = true := by simp; omega
      have e7 : PU = (ms00, 7) := by rw [← HPU.out, if_neg (by simp), if_pos (by omega)]; rfl
      subst e7
      go_wp2_with fail
      clear z0 z1 z2 z3 z4 z5 fz
      have hk := HP.out.fin (.int .i64 0) (.int .i64 0) (.slice none 0 0) (.slice none 0 0) (.slice none 0 0) (.slice none 0 0)
      obtain ⟨m0, m1, m2, m3, m4, m5⟩ := hk.2.1.six
      have hbF := hk.1
      unfold put6 at m0 m1 m2 m3 m4 m5 hbF
      refine bodyPost_ret (v := .tuple #[.agg #[.int .i64 0, .int .i64 0, .slice none 0 0, .slice none 0 0, .slice none 0 0, .slice none 0 0], .int .i64 7]) (by simp [results, Try.results24, go_sem, m0, m1, m2, m3, m4, m5]) rfl ⟨_, rfl, ownM_zero _ _, by first | exact hbF | (rw [hN]; exact hbF)⟩
    · have t1 : decide ((0 : Int) < (kA : Int) + kN + kR) = false := by simp; omega
      obtain ⟨LX, hLX⟩ : ∃ L, lar ++ [edR ⟨es, ex, ev, eb, lo⟩] = L := ⟨_, rfl⟩
      have HLX := Lib.hid hLX
      have hAM : adM ⟨i0, f0, l, lan, lns, lar⟩ ⟨es, ex, ev, eb, lo⟩ = ⟨i0, f0, l, lan, lns, LX⟩ := by rw [← hLX]; rfl
      have e7 : PU = (⟨i0, f0, l, lan, lns, LX⟩, 0) := by rw [← HPU.out, if_neg (by simp), if_neg (by omega), hAM]
      have HMX := Lib.hid (by have h := HMAD.out HEC.out; rw [hAM] at h; exact h : Mild ⟨i0, f0, l, lan, lns, LX⟩)
      clear hLX hAM
      subst e7
      go_wp2_with fail
      clear z0 z1 z2 z3 z4 z5 fz
      replace HP := Lib.hid (HP.out.later (Below.refl _ _).drew)
      obtain ⟨XR, hXR⟩ : ∃ x, edR ⟨es, ex, ev, eb, lo⟩ = x := ⟨_, rfl⟩
      have HREC2 := Lib.hid (fun wx (hb : Below N w wx) => record_any (HE.out wx hb) (Nat.le_trans HHI.out.2 (by have := hb.size; omega)) HEC.out)
      rw [hXR] at HREC2
      refine wp_region_tilk (S := (fun wx => wx.cell? ⟨N, 5, none⟩ = some (.slice ra2 lr rc2) ∧ wx.cell? ⟨N + 1, 0, none⟩ = some (.int .i64 es) ∧ wx.cell? ⟨N + 1, 1, none⟩ = some (.int .i64 ex) ∧ wx.cell? ⟨N + 1, 2, none⟩ = some (.int .i64 ev) ∧ wx.cell? ⟨N + 1, 3, none⟩ = some (.bool eb) ∧ wx.cell? ⟨N + 1, 4, none⟩ = some (.slice oa lo.length oc))) [14] (by kernel_rfl) ⟨HP.out.x.c 5 (by simp), HP.out.e.five⟩ (fun hHeld => ?_)
      refine tilk_take (i := 0) (oi := { dst := some 29, op := Op.fieldAddr 25 (Operand.tmp 2) 5, type := 0, pos := "edns.go:45", after := #[], guard := none }) (v := ?_) rfl (by kernel_rfl) (by kernel_rfl) (by kernel_rfl) (fun _ _ _ h => h) (Or.inl ⟨by rfl, ?_⟩) (by assumption) ?_
      rotate_left 1
      · intro w hSw; (try dsimp only at hSw); go_simp; try (with_reducible rfl)
      try simp only [Act.put, List.setIfInBounds_toArray, List.set_cons_zero, List.set_cons_succ]
      refine tilk_take (i := 1) (oi := { dst := some 30, op := Op.load 23 (Operand.tmp 29), type := 23, pos := "edns.go:45", after := #[{ on := 0, ground := Ground.data }], guard := none }) (v := ?_) rfl (by kernel_rfl) (by kernel_rfl) (by kernel_rfl) (fun _ _ _ h => h) (Or.inl ⟨by rfl, ?_⟩) (by assumption) ?_
      rotate_left 1
      · intro w hSw; (try dsimp only at hSw); go_simp; try (with_reducible rfl)
      try simp only [Act.put, List.setIfInBounds_toArray, List.set_cons_zero, List.set_cons_succ]
      refine tilk_take (i := 2) (oi := { dst := some 31, op := Op.fieldAddr 25 (Operand.tmp 2) 5, type := 0, pos := "edns.go:45", after := #[], guard := none }) (v := ?_) rfl (by kernel_rfl) (by kernel_rfl) (by kernel_rfl) (fun _ _ _ h => h) (Or.inl ⟨by rfl, ?_⟩) (by assumption) ?_
      rotate_left 1
      · intro w hSw; (try dsimp only at hSw); go_simp; try (with_reducible rfl)
      try simp only [Act.put, List.setIfInBounds_toArray, List.set_cons_zero, List.set_cons_succ]
      refine tilk_take (i := 3) (oi := { dst := some 32, op := Op.load 23 (Operand.tmp 31), type := 23, pos := "edns.go:45", after := #[{ on := 2, ground := Ground.data }], guard := none }) (v := ?_) rfl (by kernel_rfl) (by kernel_rfl) (by kernel_rfl) (fun _ _ _ h => h) (Or.inl ⟨by rfl, ?_⟩) (by assumption) ?_
      rotate_left 1
      · intro w hSw; (try dsimp only at hSw); go_simp; try (with_reducible rfl)
      try simp only [Act.put, List.setIfInBounds_toArray, List.set_cons_zero, List.set_cons_succ]
      refine tilk_take (i := 4) (oi := { dst := some 33, op := Op.call { callee := Callee.builtin Builtin.len, args := #[Operand.tmp 32], argTypes := #[23] }, type := 3, pos := "edns.go:45", after := #[{ on := 3, ground := Ground.data }], guard := none }) (v := ?_) rfl (by kernel_rfl) (by kernel_rfl) (by kernel_rfl) (fun _ _ _ h => h) (Or.inl ⟨by rfl, ?_⟩) (by assumption) ?_
      rotate_left 1
      · intro w hSw; (try dsimp only at hSw); go_simp; try (with_reducible rfl)
      try simp only [Act.put, List.setIfInBounds_toArray, List.set_cons_zero, List.set_cons_succ]
      refine tilk_take (i := 5) (oi := { dst := some 34, op := Op.fieldAddr 25 (Operand.tmp 2) 5, type := 0, pos := "edns.go:45", after := #[], guard := none }) (v := ?_) rfl (by kernel_rfl) (by kernel_rfl) (by kernel_rfl) (fun _ _ _ h => h) (Or.inl ⟨by rfl, ?_⟩) (by assumption) ?_
      rotate_left 1
      · intro w hSw; (try dsimp only at hSw); go_simp; try (with_reducible rfl)
      try simp only [Act.put, List.setIfInBounds_toArray, List.set_cons_zero, List.set_cons_succ]
      refine tilk_take (i := 6) (oi := { dst := some 35, op := Op.load 23 (Operand.tmp 34), type := 23, pos := "edns.go:45", after := #[{ on := 5, ground := Ground.data }], guard := none }) (v := ?_) rfl (by kernel_rfl) (by kernel_rfl) (by kernel_rfl) (fun _ _ _ h => h) (Or.inl ⟨by rfl, ?_⟩) (by assumption) ?_
      rotate_left 1
      · intro w hSw; (try dsimp only at hSw); go_simp; try (with_reducible rfl)
      try simp only [Act.put, List.setIfInBounds_toArray, List.set_cons_zero, List.set_cons_succ]
      refine tilk_take (i := 7) (oi := { dst := some 36, op := Op.call { callee := Callee.builtin Builtin.len, args := #[Operand.tmp 35], argTypes := #[23] }, type := 3, pos := "edns.go:45", after := #[{ on := 6, ground := Ground.data }], guard := none }) (v := ?_) rfl (by kernel_rfl) (by kernel_rfl) (by kernel_rfl) (fun _ _ _ h => h) (Or.inl ⟨by rfl, ?_⟩) (by assumption) ?_
      rotate_left 1
      · intro w hSw; (try dsimp only at hSw); go_simp; try (with_reducible rfl)
      try simp only [Act.put, List.setIfInBounds_toArray, List.set_cons_zero, List.set_cons_succ]
      refine tilk_take (i := 8) (oi := { dst := some 37, op := Op.slice 23 (Operand.tmp 30) none (some (Operand.tmp 33)) (some (Operand.tmp 36)), type := 23, pos := "edns.go:45", after := #[{ on := 1, ground := Ground.data }, { on := 4, ground := Ground.data }, { on := 7, ground := Ground.data }], guard := none }) (v := ?_) rfl (by kernel_rfl) (by kernel_rfl) (by kernel_rfl) (fun _ _ _ h => h) (Or.inl ⟨by rfl, ?_⟩) (by assumption) ?_
      rotate_left 1
      · intro w hSw; (try dsimp only at hSw); go_simp; try (with_reducible rfl)
      try simp only [Act.put, List.setIfInBounds_toArray, List.set_cons_zero, List.set_cons_succ]
      refine tilk_take (i := 9) (oi := { dst := some 38, op := Op.load 30 (Operand.tmp 3), type := 30, pos := "edns.go:45", after := #[], guard := none }) (v := ?_) rfl (by kernel_rfl) (by kernel_rfl) (by kernel_rfl) (fun _ _ _ h => h) (Or.inl ⟨by rfl, ?_⟩) (by assumption) ?_
      rotate_left 1
      · intro w hSw; (try dsimp only at hSw); go_simp; try (with_reducible rfl)
      try simp only [Act.put, List.setIfInBounds_toArray, List.set_cons_zero, List.set_cons_succ]
      refine tilk_ready (rs := [10]) (by kernel_rfl) (by simp) ?_
      refine TilkAll.cons (o := { dst := some 39, op := Op.call { callee := Callee.value (Operand.func 43), args := #[Operand.tmp 38], argTypes := #[30] }, type := 48, pos := "edns.go:45", after := #[{ on := 9, ground := Ground.data }], guard := none }) rfl (fun K hK => ?_) (TilkAll.nil)
      go_simp
      refine (HREC2.out _ HP.out.bel).mono ?_; rintro e w5 ⟨rfl, hb⟩
      replace HP := Lib.hid (HP.out.later hb)
      clear hb
      try go_wp2_with fail
      refine hK.out _ _ ⟨HP.out.x.c 5 (by simp), HP.out.e.five⟩ (fun hHeld => ?_)
      clear hK K
      try simp only [Act.put, List.setIfInBounds_toArray, List.set_cons_zero, List.set_cons_succ]
      refine tilk_ready (rs := [11]) (by kernel_rfl) (by simp) ?_
      refine TilkAll.cons (o := { dst := some 40, op := Op.buildSlice 23 1 #[(0, Operand.tmp 39)], type := 23, pos := "edns.go:45", after := #[{ on := 10, ground := Ground.data }], guard := none }) rfl (fun K hK => ?_) (TilkAll.nil)
      have hone := sr_one w5 XR
      obtain ⟨wn, hwn⟩ : ∃ X, w5.alloc (.cells #[.string (bs XR.n), .int .i64 XR.t, .int .i64 XR.c, .int .i64 XR.l, .string (bs XR.d)] 48) = X := ⟨_, rfl⟩
      have hb : Below w5.heap.size w5 wn := by rw [← hwn]; exact (Below.refl _ _).alloc (Nat.le_refl _) _
      rw [hwn] at hone
      have HONE := Lib.hid hone
      replace HP := Lib.hid (HP.out.later hb)
      go_simp
      clear hone hb hwn
      refine hK.out _ _ ⟨HP.out.x.c 5 (by simp), HP.out.e.five⟩ (fun hHeld => ?_)
      clear hK K
      try simp only [Act.put, List.setIfInBounds_toArray, List.set_cons_zero, List.set_cons_succ]
      refine tilk_ready (rs := [12]) (by kernel_rfl) (by simp) ?_
      refine TilkAll.cons (o := { dst := some 41, op := Op.call { callee := Callee.builtin Builtin.append, args := #[Operand.tmp 37, Operand.tmp 40], argTypes := #[23, 23] }, type := 23, pos := "edns.go:45", after := #[{ on := 8, ground := Ground.data }, { on := 11, ground := Ground.data }, { on := 10, ground := Ground.chain }], guard := none }) rfl (fun K hK => ?_) (TilkAll.nil)
      obtain ⟨a6, c6, w6, hr6, ho6, hb6⟩ := app_full (B := N + 2) (by have h := HR2.out _ HP.out.bel; rw [← HLR.out] at h; exact h) HONE.out (by have := HL.out; omega) (by have := HP.out.size; omega)
      rw [HLR.out] at hr6 ho6
      have HR6 := Lib.hid hr6
      have HSR6 := Lib.hid ho6
      replace HP := Lib.hid (HP.out.later hb6)
      clear hr6 ho6 hb6
      refine oper_app_run (.tmp 37) (.tmp 40) 23 23 rfl rfl rfl rfl HR6.out ?_
      refine hK.out _ _ ⟨HP.out.x.c 5 (by simp), HP.out.e.five⟩ (fun hHeld => ?_)
      clear hK K
      try simp only [Act.put, List.setIfInBounds_toArray, List.set_cons_zero, List.set_cons_succ]
      refine tilk_take (i := 13) (oi := { dst := some 42, op := Op.fieldAddr 25 (Operand.tmp 2) 5, type := 0, pos := "edns.go:45", after := #[{ on := 0, ground := Ground.phase }, { on := 1, ground := Ground.phase }, { on := 2, ground := Ground.phase }, { on := 3, ground := Ground.phase }, { on := 4, ground := Ground.phase }, { on := 5, ground := Ground.phase }, { on := 6, ground := Ground.phase }, { on := 7, ground := Ground.phase }, { on := 8, ground := Ground.phase }, { on := 9, ground := Ground.phase }, { on := 10, ground := Ground.phase }, { on := 11, ground := Ground.phase }, { on := 12, ground := Ground.phase }], guard := none }) (v := ?_) rfl (by kernel_rfl) (by kernel_rfl) (by kernel_rfl) (fun _ _ _ h => h) (Or.inl ⟨by rfl, ?_⟩) (by assumption) ?_
      rotate_left 1
      · intro w hSw; (try dsimp only at hSw); go_simp; try (with_reducible rfl)
      try simp only [Act.put, List.setIfInBounds_toArray, List.set_cons_zero, List.set_cons_succ]
      refine tilk_ready (rs := [14]) (by kernel_rfl) (by simp) ?_
      refine TilkAll.last (i := 14) (o := { dst := none, op := Op.store 23 (Operand.tmp 42) (Operand.tmp 41), type := 0, pos := "edns.go:45", after := #[{ on := 13, ground := Ground.data }, { on := 12, ground := Ground.data }, { on := 12, ground := Ground.chain }, { on := 0, ground := Ground.phase }, { on := 1, ground := Ground.phase }, { on := 2, ground := Ground.phase }, { on := 3, ground := Ground.phase }, { on := 4, ground := Ground.phase }, { on := 5, ground := Ground.phase }, { on := 6, ground := Ground.phase }, { on := 7, ground := Ground.phase }, { on := 8, ground := Ground.phase }, { on := 9, ground := Ground.phase }, { on := 10, ground := Ground.phase }, { on := 11, ground := Ground.phase }, { on := 12, ground := Ground.phase }], guard := none }) rfl (fun K hK => ?_) (TilkAll.nil)
      obtain ⟨r0, r1, r2, r3, r4, r5⟩ := HP.out.x.six
      have fz := HP.out.x.fz
      go_simp
      clear r0 r1 r2 r3 r4 r5 fz
      replace HP := Lib.hid (HP.out.put5 (.slice a6 (lr + 1) c6))
      replace HSR6 := Lib.hid (row_box (o := 5) (u := .slice a6 (lr + 1) c6) HSR6.out)
      refine hK.out _ _ trivial (fun hHeld => ?_)
      clear hK K
      try simp only [Act.put, List.setIfInBounds_toArray, List.set_cons_zero, List.set_cons_succ]
      refine tilk_done (by kernel_rfl) ?_ _
      clear hHeld
      obtain ⟨WE, hWE⟩ : ∃ X, w6.setCell ⟨N, 5, none⟩ (.slice a6 (lr + 1) c6) = X := ⟨_, rfl⟩
      rw [hWE] at HP HSR6 ⊢
      clear hWE
      obtain ⟨r0, r1, r2, r3, r4, r5⟩ := HP.out.x.six
      obtain ⟨z0, z1, z2, z3, z4, z5⟩ := HP.out.z.six
      have fy := HP.out.z.fz
      have g1 : SQ WE WE.heap.size (.slice xa lq xc) l := by rw [← HLQ.out]; exact (HQ.out _ HP.out.bel).wide (by have := HP.out.size; have := HHI.out; omega)
      have g2 : SR WE WE.heap.size (.slice aa la ac) lan := by rw [← HLA.out]; exact (HA2.out _ HP.out.bel).wide (by have := HP.out.size; have := HHI.out; omega)
      have g3 : SR WE WE.heap.size (.slice na ln nc) lns := by rw [← HLN.out]; exact (HN2.out _ HP.out.bel).wide (by have := HP.out.size; have := HHI.out; omega)
      have g4 : SR WE WE.heap.size (.slice a6 (lr + 1) c6) (lar ++ [XR]) := Lst.own HSR6.out (by have := HL.out; have := HLR.out; simp; omega)
      rw [← hXR, HLX.out] at g4
      have hmg : Mg WE WE.heap.size (.agg #[.int .i64 i0, .int .i64 f0, .slice xa lq xc, .slice aa la ac, .slice na ln nc, .slice a6 (lr + 1) c6]) ⟨i0, f0, l, lan, lns, LX⟩ := ⟨_, _, _, _, rfl, g1, g2, g3, g4⟩
      have HOW := Lib.hid (ownMild_any hmg (Nat.le_refl _) HMX.out)
      clear hmg g1 g2 g3 g4 HCA HCN HCR
      go_wp2_with fail
      refine HOW.out.mono ?_; rintro e w7 ⟨v, rfl, ho, hb⟩
      have HSE := Lib.hid HP.out.size
      replace HP := Lib.hid (HP.out.later hb)
      have HO := Lib.hid ho
      obtain ⟨o1, o2, o3, o4, rfl, j1, j2, j3, j4⟩ := ho
      obtain ⟨b1, e1, rfl⟩ := row_shape j1
      obtain ⟨b2, e2, rfl⟩ := row_shape j2
      obtain ⟨b3, e3, rfl⟩ := row_shape j3
      obtain ⟨b4, e4, rfl⟩ := row_shape j4
      clear r0 r1 r2 r3 r4 r5 z0 z1 z2 z3 z4 z5 fy hb j1 j2 j3 j4
      obtain ⟨z0, z1, z2, z3, z4, z5⟩ := HP.out.z.six
      have fy := HP.out.z.fz
      go_wp2_with fail
      clear z0 z1 z2 z3 z4 z5 fy
      have hk := HP.out.fin (.int .i64 i0) (.int .i64 f0) (.slice b1 l.length e1) (.slice b2 lan.length e2) (.slice b3 lns.length e3) (.slice b4 LX.length e4)
      obtain ⟨m0, m1, m2, m3, m4, m5⟩ := hk.2.1.six
      have HF := Lib.hid (And.intro hk.1 (HO.out.aside hk.2.2 (fun k hk => by have := HSE.out; omega)))
      unfold put6 at m0 m1 m2 m3 m4 m5 HF
      clear hk
      refine bodyPost_ret (v := .tuple #[.agg #[.int .i64 i0, .int .i64 f0, .slice b1 l.length e1, .slice b2 lan.length e2, .slice b3 lns.length e3, .slice b4 LX.length e4], .int .i64 0]) (by simp [results, Try.results24, go_sem, m0, m1, m2, m3, m4, m5]) rfl ⟨_, rfl, ?_, ?_⟩
      · first | exact HF.out.2.base (by have := HSE.out; omega) | (rw [hN]; exact HF.out.2.base (by have := HSE.out; omega))
      · first | exact HF.out.1 | (rw [hN]; exact HF.out.1)
  · have e7 : PU = (ms00, EC) := by rw [← HPU.out, if_pos hE0]; rfl
    subst e7
    have t1 : (EC != 0) = true := by simpa using hE0
    go_wp2_with fail
    clear z0 z1 z2 z3 z4 z5 fz
    have hk := HP.out.fin (.int .i64 0) (.int .i64 0) (.slice none 0 0) (.slice none 0 0) (.slice none 0 0) (.slice none 0 0)
    obtain ⟨m0, m1, m2, m3, m4, m5⟩ := hk.2.1.six
    have hbF := hk.1
    unfold put6 at m0 m1 m2 m3 m4 m5 hbF
    refine bodyPost_ret (v := .tuple #[.agg #[.int .i64 0, .int .i64 0, .slice none 0 0, .slice none 0 0, .slice none 0 0, .slice none 0 0], .int .i64 EC]) (by simp [results, Try.results24, go_sem, m0, m1, m2, m3, m4, m5]) rfl ⟨_, rfl, ownM_zero _ _, by first | exact hbF | (rw [hN]; exact hbF)⟩
end Go.Proofs.Ytcjgbholgbjejaa

/-
  The document's own Strip again: its last list stands in a block of its own.
-/
namespace Go.Proofs.Ytcjgbholgbjejaa
open Go.RowKit Go.Shelf
set_option linter.unusedVariables false
set_option linter.unusedSimpArgs false
set_option maxRecDepth 100000

/-- The last list's row is none of the others'. -/
def Alone (v : Value) : Prop := ∃ i f q a n r, v = .agg #[i, f, q, a, n, r] ∧ ∀ k, r.ownBlock = some k → q.ownBlock ≠ some k ∧ a.ownBlock ≠ some k ∧ n.ownBlock ≠ some k

set_option maxHeartbeats 2000000 in
theorem rstripA_any {w : World} {hi : Nat} {u : Value} {m : Ms} (h : Mg w hi u m) (h1 : hi ≤ w.heap.size) (hm : Mild m) :
    Calls Try.prog 12 #[u] w (fun e w' => ∃ v, e = .returned v ∧ OwnM w' w.heap.size v (stM m) ∧ Alone v ∧ Below w.heap.size w w') := by
  obtain ⟨i0, f0, l, lan, lns, lar⟩ := m
  obtain ⟨q, a, n, r, rfl, hq, h2, h3, h4⟩ := h
  unfold stM
  have hl := hm.1
  simp only at hl hq h2 h3 h4 ⊢
  obtain ⟨N, hN⟩ : ∃ g, w.heap.size = g := ⟨_, rfl⟩
  have HCA := Lib.hid (fun wx (hb : Below N w wx) => rwithout_any (Lst.below h2 hb (by omega)) (Nat.le_trans (by omega : hi ≤ N) (by have := hb.size; omega)) (by omega))
  have HCN := Lib.hid (fun wx (hb : Below N w wx) => rwithout_any (Lst.below h3 hb (by omega)) (Nat.le_trans (by omega : hi ≤ N) (by have := hb.size; omega)) (by omega))
  have HCR := Lib.hid (fun wx (hb : Below N w wx) => rwithout_any (Lst.below h4 hb (by omega)) (Nat.le_trans (by omega : hi ≤ N) (by have := hb.size; omega)) (by omega))
  have HQ := Lib.hid (fun wx (hb : Below N w wx) => Lst.below hq hb (by omega : hi ≤ N))
  obtain ⟨xa, xc, rfl⟩ := Lst.shape hq
  obtain ⟨aa, ac, rfl⟩ := Lst.shape h2
  obtain ⟨na, nc, rfl⟩ := Lst.shape h3
  obtain ⟨ra, rc, rfl⟩ := Lst.shape h4
  obtain ⟨la, hla⟩ : ∃ i, lan.length = i := ⟨_, rfl⟩
  obtain ⟨ln, hln⟩ : ∃ i, lns.length = i := ⟨_, rfl⟩
  obtain ⟨lr, hlr⟩ : ∃ i, lar.length = i := ⟨_, rfl⟩
  rw [hla] at HCA
  rw [hln] at HCN
  rw [hlr] at HCR
  rw [hla, hln, hlr]
  have HL := Lib.hid (show l.length ≤ 900000 by omega)
  have hp := bm_start w i0 f0 (.slice xa l.length xc) (.slice aa la ac) (.slice na ln nc) (.slice ra lr rc) hN
  obtain ⟨W, hW⟩ : ∃ X, (w.alloc (.cells #[.int .i64 i0, .int .i64 f0, .slice xa l.length xc, .slice aa la ac, .slice na ln nc, .slice ra lr rc] 25)).alloc (.cells #[.int .i64 0, .int .i64 0, .slice none 0 0, .slice none 0 0, .slice none 0 0, .slice none 0 0] 25) = X := ⟨_, rfl⟩
  have hsz : W.heap.size = N + 2 := by rw [← hW]; simp [hN]
  rw [hW] at hp
  have ho := World.ownsRow_made (e := 50) (size := 3) (base := N + 2) W #[] 0 (by omega) (by decide) (by simp)
  have hbW : Below W.heap.size W (W.alloc (.cells #[] 50)) := (Below.refl _ _).alloc (Nat.le_refl _) _
  have hp1 := hp.later hbW
  rw [hsz] at ho
  obtain ⟨a2, c2, w2, hr2, ho2, ha2, _⟩ := run_appQn (show OwnQn (W.alloc (.cells #[] 50)) (N + 2) (.slice (some ⟨N + 2, 0, none⟩) 0 0) [] from ho) (HQ.out _ hp1.bel) (by have := HL.out; simp; omega) hp1.size
  have hlow := World.ownsRow.lt ho
  have hp2 : Bm w w2 N i0 f0 (.slice xa l.length xc) (.slice aa la ac) (.slice na ln nc) (.slice ra lr rc) :=
    ⟨below_aside hp1.bel ha2 (fun k hk => ⟨by have := hp1.size; omega, fun hg => by have := (hlow _ hg).1; omega⟩), hp1.x.aside (by simp) ha2 (fun hg => by simp [Value.ownBlock] at hg), hp1.z.aside (by simp) ha2 (fun hg => by simp [Value.ownBlock] at hg), Nat.le_trans hp1.size ha2.size⟩
  simp only [List.length_nil, Nat.zero_add, List.nil_append] at hr2 ho2
  have HR := Lib.hid hr2
  have HP2 := Lib.hid hp2
  have HO2 := Lib.hid ho2
  have x2 : W.cell? ⟨N, 2, none⟩ = some (.slice xa l.length xc) := hp.x.c 2 (by simp)
  obtain ⟨y0, y1, y2, y3, y4, y5⟩ := hp2.x.six
  have fy := hp2.x.fz
  clear hq h2 h3 h4 h1 hm hl hla hln hlr hp ho hbW hp1 hr2 ho2 ha2 hlow hp2
  go_enter Try.func12, Try.ntmps12
  go_wp2_with (at_builtin; refine wpList_append_run (.tmp 3) (.tmp 5) 22 22 rfl rfl rfl rfl HR.out ?_)
  have HP := Lib.hid (HP2.out.put2 (.slice a2 l.length c2))
  have HQ3 := Lib.hid (show OwnQn (w2.setCell ⟨N, 2, none⟩ (.slice a2 l.length c2)) (N + 2) (.slice a2 l.length c2) l from row_aside HO2.out (bm_side w2 N 2 _) (fun k hk => by have := (World.ownsRow.lt HO2.out k hk).1; omega))
  clear HR HP2 HO2 x2 y0 y1 y2 y3 y4 y5 fy
  obtain ⟨W3, hW3⟩ : ∃ X, w2.setCell ⟨N, 2, none⟩ (.slice a2 l.length c2) = X := ⟨_, rfl⟩
  rw [hW3] at HP HQ3 ⊢
  clear hW3 hsz hW
  refine (HCA.out _ HP.out.bel).mono ?_; rintro e w3 ⟨v, rfl, ho, hb⟩
  obtain ⟨ava, cva, rfl⟩ := row_shape ho
  have HA := Lib.hid (show OwnRc w3 (N + 2) _ _ from row_base ho HP.out.size)
  replace HQ3 := Lib.hid (show OwnQn w3 (N + 2) _ _ from row_below HQ3.out hb)
  replace HP := Lib.hid (HP.out.later hb)
  clear ho hb
  obtain ⟨y0, y1, y2, y3, y4, y5⟩ := HP.out.x.six
  have fy := HP.out.x.fz
  go_wp2_with fail
  have HPb := Lib.hid (HP.out.put3 (.slice ava (noL lan).length cva))
  replace HQ3 := Lib.hid (show OwnQn (w3.setCell ⟨N, 3, none⟩ (.slice ava (noL lan).length cva)) (N + 2) _ _ from row_aside HQ3.out (bm_side w3 N 3 _) (fun k hk => by have := (World.ownsRow.lt HQ3.out k hk).1; omega))
  replace HA := Lib.hid (show OwnRc (w3.setCell ⟨N, 3, none⟩ (.slice ava (noL lan).length cva)) (N + 2) _ _ from row_aside HA.out (bm_side w3 N 3 _) (fun k hk => by have := (World.ownsRow.lt HA.out k hk).1; omega))
  clear HP y0 y1 y2 y3 y4 y5 fy
  obtain ⟨W4, hW4⟩ : ∃ X, w3.setCell ⟨N, 3, none⟩ (.slice ava (noL lan).length cva) = X := ⟨_, rfl⟩
  rw [hW4] at HPb HQ3 HA ⊢
  clear hW4
  refine (HCN.out _ HPb.out.bel).mono ?_; rintro e w4 ⟨v, rfl, ho, hb⟩
  obtain ⟨avn, cvn, rfl⟩ := row_shape ho
  have HN2 := Lib.hid (show OwnRc w4 (N + 2) _ _ from row_base ho HPb.out.size)
  replace HQ3 := Lib.hid (show OwnQn w4 (N + 2) _ _ from row_below HQ3.out hb)
  replace HA := Lib.hid (show OwnRc w4 (N + 2) _ _ from row_below HA.out hb)
  have HP := Lib.hid (HPb.out.later hb)
  clear ho hb HPb
  obtain ⟨y0, y1, y2, y3, y4, y5⟩ := HP.out.x.six
  have fy := HP.out.x.fz
  go_wp2_with fail
  have HPb := Lib.hid (HP.out.put4 (.slice avn (noL lns).length cvn))
  replace HQ3 := Lib.hid (show OwnQn (w4.setCell ⟨N, 4, none⟩ (.slice avn (noL lns).length cvn)) (N + 2) _ _ from row_aside HQ3.out (bm_side w4 N 4 _) (fun k hk => by have := (World.ownsRow.lt HQ3.out k hk).1; omega))
  replace HA := Lib.hid (show OwnRc (w4.setCell ⟨N, 4, none⟩ (.slice avn (noL lns).length cvn)) (N + 2) _ _ from row_aside HA.out (bm_side w4 N 4 _) (fun k hk => by have := (World.ownsRow.lt HA.out k hk).1; omega))
  replace HN2 := Lib.hid (show OwnRc (w4.setCell ⟨N, 4, none⟩ (.slice avn (noL lns).length cvn)) (N + 2) _ _ from row_aside HN2.out (bm_side w4 N 4 _) (fun k hk => by have := (World.ownsRow.lt HN2.out k hk).1; omega))
  clear HP y0 y1 y2 y3 y4 y5 fy
  obtain ⟨W5, hW5⟩ : ∃ X, w4.setCell ⟨N, 4, none⟩ (.slice avn (noL lns).length cvn) = X := ⟨_, rfl⟩
  rw [hW5] at HPb HQ3 HA HN2 ⊢
  clear hW5
  refine (HCR.out _ HPb.out.bel).mono ?_; rintro e w5 ⟨v, rfl, ho, hb⟩
  obtain ⟨avr, cvr, rfl⟩ := row_shape ho
  have HAL := Lib.hid (show ∀ k, (Value.slice avr (noL lar).length cvr).ownBlock = some k → (Value.slice a2 l.length c2).ownBlock ≠ some k ∧ (Value.slice ava (noL lan).length cva).ownBlock ≠ some k ∧ (Value.slice avn (noL lns).length cvn).ownBlock ≠ some k from fun k hk => by
    have h0 := (World.ownsRow.lt ho k hk).1
    exact ⟨fun h => by have := (World.ownsRow.lt HQ3.out k h).2; omega, fun h => by have := (World.ownsRow.lt HA.out k h).2; omega, fun h => by have := (World.ownsRow.lt HN2.out k h).2; omega⟩)
  have HR2 := Lib.hid (show OwnRc w5 (N + 2) _ _ from row_base ho HPb.out.size)
  replace HQ3 := Lib.hid (show OwnQn w5 (N + 2) _ _ from row_below HQ3.out hb)
  replace HA := Lib.hid (show OwnRc w5 (N + 2) _ _ from row_below HA.out hb)
  replace HN2 := Lib.hid (show OwnRc w5 (N + 2) _ _ from row_below HN2.out hb)
  have HP := Lib.hid (HPb.out.later hb)
  clear ho hb HPb
  have hp6 := HP.out.put5 (.slice avr (noL lar).length cvr)
  have hs5 := bm_side w5 N 5 (.slice avr (noL lar).length cvr)
  have HOM := Lib.hid (show OwnM (w5.setCell ⟨N, 5, none⟩ (.slice avr (noL lar).length cvr)) (N + 2) (.agg #[.int .i64 i0, .int .i64 f0, .slice a2 l.length c2, .slice ava (noL lan).length cva, .slice avn (noL lns).length cvn, .slice avr (noL lar).length cvr]) ⟨i0, f0, l, noL lan, noL lns, noL lar⟩ from
    ⟨_, _, _, _, rfl, row_aside HQ3.out hs5 (fun k hk => by have := (World.ownsRow.lt HQ3.out k hk).1; omega), row_aside HA.out hs5 (fun k hk => by have := (World.ownsRow.lt HA.out k hk).1; omega), row_aside HN2.out hs5 (fun k hk => by have := (World.ownsRow.lt HN2.out k hk).1; omega), row_aside HR2.out hs5 (fun k hk => by have := (World.ownsRow.lt HR2.out k hk).1; omega)⟩)
  have hfin := hp6.fin (.int .i64 i0) (.int .i64 f0) (.slice a2 l.length c2) (.slice ava (noL lan).length cva) (.slice avn (noL lns).length cvn) (.slice avr (noL lar).length cvr)
  have HF := Lib.hid (And.intro hfin.1 (HOM.out.aside hfin.2.2 (fun k hk => by omega)))
  obtain ⟨m0, m1, m2, m3, m4, m5⟩ := hfin.2.1.six
  have HM := Lib.hid (show _ ∧ _ ∧ _ ∧ _ ∧ _ ∧ _ from ⟨m0, m1, m2, m3, m4, m5⟩)
  unfold put6 at HF HM
  obtain ⟨y0, y1, y2, y3, y4, y5⟩ := HP.out.x.six
  have fy := HP.out.x.fz
  obtain ⟨z0, z1, z2, z3, z4, z5⟩ := HP.out.z.six
  have fz := HP.out.z.fz
  clear HP hp6 hs5 HOM hfin m0 m1 m2 m3 m4 m5 HQ3 HA HN2 HR2
  go_wp2_with fail
  clear z0 z1 z2 z3 z4 z5 fz y0 y1 y2 y3 y4 y5 fy
  obtain ⟨m0, m1, m2, m3, m4, m5⟩ := HM.out
  refine bodyPost_ret (v := .agg #[.int .i64 i0, .int .i64 f0, .slice a2 l.length c2, .slice ava (noL lan).length cva, .slice avn (noL lns).length cvn, .slice avr (noL lar).length cvr]) (by simp [results, Try.results12, go_sem, m0, m1, m2, m3, m4, m5]) rfl ⟨_, rfl, ?_, ⟨_, _, _, _, _, _, rfl, HAL.out⟩, ?_⟩
  · first | exact HF.out.2.base (by omega) | (rw [hN]; exact HF.out.2.base (by omega))
  · first | exact HF.out.1 | (rw [hN]; exact HF.out.1)
end Go.Proofs.Ytcjgbholgbjejaa
