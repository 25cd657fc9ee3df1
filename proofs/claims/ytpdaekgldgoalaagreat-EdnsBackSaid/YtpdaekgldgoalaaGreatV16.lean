/-
  The records of a list that are of the type, and those that are not: opts, others.
-/
import Derived.Test.YtpdaekgldgoalaaGreatV15
import Derived.Deep.RegionHeld
import Derived.Test.YtpdaekgldgoalaaGreatV01
namespace Go.Proofs.YtpdaekgldgoalaaGreat
open Go.RowKit Go.Shelf
set_option linter.unusedVariables false
set_option linter.unusedSimpArgs false
set_option maxRecDepth 100000

theorem isO_any (x : Rc) (w : World) : Calls Tryz.prog 35 #[.agg #[.string (bs x.n), .int .i64 x.t, .int .i64 x.c, .int .i64 x.l, .string (bs x.d)]] w (Tells w (.bool (isO x))) := by
  obtain ⟨n, t, c, l, d⟩ := x
  by_cases h : t = 41
  · have e : isO ⟨n, t, c, l, d⟩ = true := by unfold isO; simp [h]
    subst h
    rw [e]
    go_enter Tryz.func35, Tryz.ntmps35
    go_wp2
    go_ret
    exact ⟨rfl, (Below.refl _ _).alloc (Nat.le_refl _) _⟩
  · have e : isO ⟨n, t, c, l, d⟩ = false := by unfold isO; simp [h]
    rw [e]
    have t1 : (t == 41) = false := by simpa using h
    go_enter Tryz.func35, Tryz.ntmps35
    go_wp2
    go_ret
    exact ⟨by simp [h], (Below.refl _ _).alloc (Nat.le_refl _) _⟩
theorem notO_any (x : Rc) (w : World) : Calls Tryz.prog 40 #[.agg #[.string (bs x.n), .int .i64 x.t, .int .i64 x.c, .int .i64 x.l, .string (bs x.d)]] w (Tells w (.bool (!isO x))) := by
  obtain ⟨n, t, c, l, d⟩ := x
  by_cases h : t = 41
  · have e : isO ⟨n, t, c, l, d⟩ = true := by unfold isO; simp [h]
    subst h
    rw [e]
    go_enter Tryz.func40, Tryz.ntmps40
    go_wp2
    go_ret
    exact ⟨rfl, (Below.refl _ _).alloc (Nat.le_refl _) _⟩
  · have e : isO ⟨n, t, c, l, d⟩ = false := by unfold isO; simp [h]
    rw [e]
    have t1 : (t != 41) = true := by simpa using h
    go_enter Tryz.func40, Tryz.ntmps40
    go_wp2
    go_ret
    exact ⟨by simp [h], (Below.refl _ _).alloc (Nat.le_refl _) _⟩

/-- A row of the call's own, or a place in front of somebody else's to which no room belongs. -/
def Kp (w : World) (B : Nat) (v : Value) (l : List Rc) : Prop := OwnRc w B v l ∨ (l = [] ∧ ∃ a, v = .slice (some a) 0 0)
section
variable {w w' : World} {B : Nat} {v : Value} {l : List Rc}
theorem Kp.below (h : Kp w B v l) (hb : Below w.heap.size w w') : Kp w' B v l := h.imp (fun h => row_below h hb) id
theorem Kp.aside {G : Nat → Prop} (h : Kp w B v l) (ha : Aside G w w') (hG : ∀ k, B ≤ k → ¬ G k) : Kp w' B v l := h.imp (fun h => row_aside h ha fun k hk => hG k (World.ownsRow.lt h k hk).1) id
theorem Kp.base {B' : Nat} (h : Kp w B v l) (hB : B' ≤ B) : Kp w B' v l := h.imp (fun h => row_base h hB) id
theorem Kp.shape (h : Kp w B v l) : ∃ a c, v = .slice a l.length c := by
  rcases h with h | ⟨rfl, a, rfl⟩
  · exact row_shape h
  · exact ⟨_, _, rfl⟩
theorem Kp.sr (h : Kp w B v l) (hl : l.length ≤ 1000000) : SR w w.heap.size v l := by
  rcases h with h | ⟨rfl, a, rfl⟩
  · exact Lst.own h hl
  · exact ⟨some a, 0, rfl, by simp, fun h => (by cases h), fun h => absurd h (by simp)⟩
theorem kp_start (w : World) (B : Nat) (a : Option Addr) : Kp w B (.slice a 0 0) [] := by
  cases a with
  | none => exact .inl (World.ownsRow_nil _ _ _ _)
  | some a => exact .inr ⟨rfl, a, rfl⟩
/-- A record more. -/
theorem Kp.app (h : Kp w B v l) {hi : Nat} {u : Value} {x : Rc} (hx : SR w hi u [x]) (hl : l.length + 1 ≤ 1000000) (hB : B ≤ w.heap.size) :
    ∃ a c w', (Builtin.append_ #[23, 23] 23 #[v, u]).run Tryz.prog w = .ok (.slice a (l.length + 1) c) w' ∧ Kp w' B (.slice a (l.length + 1) c) (l ++ [x]) ∧ Aside (fun b => B ≤ b) w w' := by
  rcases h with h | ⟨rfl, a, rfl⟩
  · obtain ⟨a, c, w', h1, h2, h3, _⟩ := run_appRc h hx hl hB
    exact ⟨a, c, w', h1, .inl h2, h3.mono fun k _ hk => (World.ownsRow.lt h k hk).1⟩
  · obtain ⟨ua, uc, rfl, _, _, h2⟩ := hx
    obtain ⟨b, off, rfl, _, h4⟩ := h2 (by simp)
    obtain ⟨i0, hi0, hz0, hz1, hz2⟩ := info_parts info_rc
    have hr := run_append_grow (P := Tryz.prog) w 23 23 52 i0 _ Tryz.underlying23 hi0 hz0 a 0 0 [] (by simp) (by simp) ⟨b, off, none⟩ 1 uc (acr [x]) (by rw [acr_len, hz1]; rfl) (fun j v hv => by rw [WideShapes.add_plain]; exact h4 j v hv) (by omega) (by decide) (by rw [hz2]; decide)
    have hg := grownCap_ge w (0 + 1) 0 52
    have hcm := grownCap_le_maxLen w (0 + 1) 0 52 (by decide)
    obtain ⟨G, hG⟩ : ∃ G, grownCap w (0 + 1) 0 52 = G := ⟨_, rfl⟩
    rw [hG] at hr hg hcm
    refine ⟨_, _, _, hr, .inl ⟨by rw [acr_len], .inr ⟨w.heap.size, _, _, rfl, hB, World.alloc_heap_new w.drew _, hg, hcm, ?_, ?_⟩⟩, ?_⟩
    · have e1 : (acr [x]).length = 5 := rfl
      simp only [Array.size_append, List.size_toArray, size_zeroCells, e1, List.length_nil, List.nil_append, List.length_singleton]
      show 0 + 5 + (G - (0 + 1)) * 5 = G * 5
      omega
    · simp [acr, cr]
    · exact ⟨rfl, rfl, rfl, by simp, fun k hk hg => Below.heap_alloc w.drew _ k hk⟩
end

set_option maxHeartbeats 1000000 in
theorem those_opts {w : World} {hi : Nat} {u : Value} {l : List Rc} (h : SR w hi u l) (h1 : hi ≤ w.heap.size) (hl : l.length ≤ 900000) :
    Calls Tryz.prog 34 #[u, .func (.func 35) #[] #[]] w (fun e w' => ∃ v, e = .returned v ∧ Kp w' w.heap.size v (l.filter isO) ∧ Below w.heap.size w w') := by
  have HX := Lib.hid h
  have HN := Lib.hid (Lst.len h)
  have HL := Lib.hid hl
  obtain ⟨a, c, rfl⟩ := Lst.shape h
  obtain ⟨N, hN⟩ : ∃ N, w.heap.size = N := ⟨_, rfl⟩
  have HK0 := Lib.hid (kp_start w N a)
  have HB0 := Lib.hid (show Below N w w from Below.refl _ _)
  have HHI := Lib.hid (show hi ≤ N by omega)
  clear h h1 hl
  go_enter Tryz.func34, Tryz.ntmps34
  go_wp2_with fail
  go_loopg [5, 12] l.length (fun g v5 v12 wr => ∃ k : Nat, k + g = l.length ∧ v12 = .int .i64 k ∧ Hid (Kp wr N v5 ((l.take k).filter isO)) ∧ Hid (Below N w wr) ∧ N ≤ wr.heap.size)
  case atStart => exact ⟨0, by omega, rfl, by simpa using HK0, HB0, by omega⟩
  case round =>
    clear HK0 HB0
    obtain ⟨k, hk, rfl, HK, HB, hsz⟩ := hrel
    have hlen := HN.out
    by_cases hlt : k < l.length
    · obtain ⟨b, off, c2, he, hb, hc⟩ := HX.out.at_ k hlt
      injection he with he hn3 hc3
      clear hn3 hc3
      subst he
      obtain ⟨c0, c1, c2, c3, c4⟩ := hc.keep fun o => HB.out.cell (p := ⟨b, o, none⟩) (Nat.lt_of_lt_of_le hb HHI.out)
      have HTK := Lib.hid (show l.take (k + 1) = l.take k ++ [l[k]] by rw [List.take_add_one, List.getElem?_eq_getElem hlt]; rfl)
      obtain ⟨x, hx⟩ : ∃ x, l[k] = x := ⟨_, rfl⟩
      rw [hx] at c0 c1 c2 c3 c4 HTK
      have HC := Lib.hid (fun wx => isO_any x wx)
      obtain ⟨L, hL⟩ : ∃ L, (l.take k).filter isO = L := ⟨_, rfl⟩
      rw [hL] at HK
      have HLL := Lib.hid (show L.length ≤ 900000 by rw [← hL]; exact Nat.le_trans (List.length_filter_le _ _) (Nat.le_trans (by rw [List.length_take]; omega) HL.out))
      have HTF := Lib.hid (show (l.take (k + 1)).filter isO = L ++ [x].filter isO by rw [HTK.out, List.filter_append, hL])
      obtain ⟨g, hg⟩ : ∃ g, wr.heap.size = g := ⟨_, rfl⟩
      have HQC := Lib.hid (show Cel (wr.alloc (.cells #[.string (bs x.n), .int .i64 x.t, .int .i64 x.c, .int .i64 x.l, .string (bs x.d)] 52)) g [.string (bs x.n), .int .i64 x.t, .int .i64 x.c, .int .i64 x.l, .string (bs x.d)] by
        have := cel_new wr (.string (bs x.n)) (.int .i64 x.t) (.int .i64 x.c) (.int .i64 x.l) (.string (bs x.d)) 52
        rwa [hg] at this)
      have hb1 : Below wr.heap.size wr (wr.alloc (.cells #[.string (bs x.n), .int .i64 x.t, .int .i64 x.c, .int .i64 x.l, .string (bs x.d)] 52)) := (Below.refl _ _).alloc (Nat.le_refl _) _
      have HGN := Lib.hid (show N ≤ g by omega)
      replace HK := Lib.hid (HK.out.below hb1)
      replace HB := Lib.hid (HB.out.alloc hsz (.cells #[.string (bs x.n), .int .i64 x.t, .int .i64 x.c, .int .i64 x.l, .string (bs x.d)] 52))
      clear hc hx hb hb1 hL hsz
      go_wp2_with fail
      refine (HC.out _).mono ?_; rintro e w3 ⟨rfl, hb⟩
      have HQ3 := Lib.hid (HQC.out.below (by simp) hb)
      replace HK := Lib.hid (HK.out.below hb)
      replace HB := Lib.hid (HB.out.trans (hb.mono (by have := HGN.out; simp; omega)))
      have HS3 := Lib.hid (show g < w3.heap.size from HQ3.out.lt (by simp))
      clear hb
      by_cases hp : isO x = true
      · rw [hp]
        have hone := sr_one w3 x
        have hb4 : Below w3.heap.size w3 (w3.alloc (.cells #[.string (bs x.n), .int .i64 x.t, .int .i64 x.c, .int .i64 x.l, .string (bs x.d)] 52)) := (Below.refl _ _).alloc (Nat.le_refl _) _
        have hsz4 : N ≤ (w3.alloc (.cells #[.string (bs x.n), .int .i64 x.t, .int .i64 x.c, .int .i64 x.l, .string (bs x.d)] 52)).heap.size := by have := HS3.out; have := HGN.out; simp; omega
        obtain ⟨a6, c6, w6, hr, hk6, ha6⟩ := (HK.out.below hb4).app hone (by have := HLL.out; omega) hsz4
        have hf : (l.take (k + 1)).filter isO = L ++ [x] := by rw [HTF.out, List.filter_cons_of_pos (by simpa using hp), List.filter_nil]
        have HK6 := Lib.hid (show Kp w6 N (.slice a6 (L.length + 1) c6) ((l.take (k + 1)).filter isO) by rw [hf]; exact hk6)
        have HB6 := Lib.hid (below_aside (HB.out.alloc (by have := HS3.out; have := HGN.out; omega) _) ha6 (fun k hk => ⟨by omega, by omega⟩))
        have HSZ := Lib.hid (Nat.le_trans hsz4 ha6.size)
        obtain ⟨av, cv, rfl⟩ := HK.out.shape
        have HR := Lib.hid hr
        obtain ⟨q0, q1, q2, q3, q4⟩ := HQ3.out.five
        clear hone hb4 hsz4 hr hk6 ha6 hf HK HB HQC HQ3
        go_wp2_with (at_builtin; refine wpList_append_run (.tmp 19) (.tmp 21) 23 23 rfl rfl rfl rfl HR.out ?_)
        go_roundg (l.length - (k + 1))
        case measure => omega
        case rel => exact ⟨k + 1, by omega, by go_num, HK6, HB6, HSZ.out⟩
      · have hp2 : (isO x) = false := by simpa using hp
        rw [hp2]
        have hfe : (l.take (k + 1)).filter isO = L := by rw [HTF.out, List.filter_cons_of_neg (by simpa using hp), List.filter_nil, List.append_nil]
        have HK6 := HK
        rw [← hfe] at HK6
        clear hfe
        have HSZ := Lib.hid (show N ≤ w3.heap.size by have := HS3.out; have := HGN.out; omega)
        clear HK HQC HQ3
        go_wp2_with fail
        go_roundg (l.length - (k + 1))
        case measure => omega
        case rel => exact ⟨k + 1, by omega, by go_num, HK6, HB, HSZ.out⟩
    · have t1 : ¬ ((k : Int) < l.length) := by omega
      have hkl : l.take k = l := List.take_of_length_le (by omega)
      rw [hkl] at HK
      clear hkl
      go_wp2_with fail
      go_ret
      exact ⟨_, rfl, by first | exact HK.out | (rw [hN]; exact HK.out), by first | exact HB.out | (rw [hN]; exact HB.out)⟩

set_option maxHeartbeats 1000000 in
theorem those_others {w : World} {hi : Nat} {u : Value} {l : List Rc} (h : SR w hi u l) (h1 : hi ≤ w.heap.size) (hl : l.length ≤ 900000) :
    Calls Tryz.prog 34 #[u, .func (.func 40) #[] #[]] w (fun e w' => ∃ v, e = .returned v ∧ Kp w' w.heap.size v (l.filter (fun x => !isO x)) ∧ Below w.heap.size w w') := by
  have HX := Lib.hid h
  have HN := Lib.hid (Lst.len h)
  have HL := Lib.hid hl
  obtain ⟨a, c, rfl⟩ := Lst.shape h
  obtain ⟨N, hN⟩ : ∃ N, w.heap.size = N := ⟨_, rfl⟩
  have HK0 := Lib.hid (kp_start w N a)
  have HB0 := Lib.hid (show Below N w w from Below.refl _ _)
  have HHI := Lib.hid (show hi ≤ N by omega)
  clear h h1 hl
  go_enter Tryz.func34, Tryz.ntmps34
  go_wp2_with fail
  go_loopg [5, 12] l.length (fun g v5 v12 wr => ∃ k : Nat, k + g = l.length ∧ v12 = .int .i64 k ∧ Hid (Kp wr N v5 ((l.take k).filter (fun x => !isO x))) ∧ Hid (Below N w wr) ∧ N ≤ wr.heap.size)
  case atStart => exact ⟨0, by omega, rfl, by simpa using HK0, HB0, by omega⟩
  case round =>
    clear HK0 HB0
    obtain ⟨k, hk, rfl, HK, HB, hsz⟩ := hrel
    have hlen := HN.out
    by_cases hlt : k < l.length
    · obtain ⟨b, off, c2, he, hb, hc⟩ := HX.out.at_ k hlt
      injection he with he hn3 hc3
      clear hn3 hc3
      subst he
      obtain ⟨c0, c1, c2, c3, c4⟩ := hc.keep fun o => HB.out.cell (p := ⟨b, o, none⟩) (Nat.lt_of_lt_of_le hb HHI.out)
      have HTK := Lib.hid (show l.take (k + 1) = l.take k ++ [l[k]] by rw [List.take_add_one, List.getElem?_eq_getElem hlt]; rfl)
      obtain ⟨x, hx⟩ : ∃ x, l[k] = x := ⟨_, rfl⟩
      rw [hx] at c0 c1 c2 c3 c4 HTK
      have HC := Lib.hid (fun wx => notO_any x wx)
      obtain ⟨L, hL⟩ : ∃ L, (l.take k).filter (fun x => !isO x) = L := ⟨_, rfl⟩
      rw [hL] at HK
      have HLL := Lib.hid (show L.length ≤ 900000 by rw [← hL]; exact Nat.le_trans (List.length_filter_le _ _) (Nat.le_trans (by rw [List.length_take]; omega) HL.out))
      have HTF := Lib.hid (show (l.take (k + 1)).filter (fun x => !isO x) = L ++ [x].filter (fun x => !isO x) by rw [HTK.out, List.filter_append, hL])
      obtain ⟨g, hg⟩ : ∃ g, wr.heap.size = g := ⟨_, rfl⟩
      have HQC := Lib.hid (show Cel (wr.alloc (.cells #[.string (bs x.n), .int .i64 x.t, .int .i64 x.c, .int .i64 x.l, .string (bs x.d)] 52)) g [.string (bs x.n), .int .i64 x.t, .int .i64 x.c, .int .i64 x.l, .string (bs x.d)] by
        have := cel_new wr (.string (bs x.n)) (.int .i64 x.t) (.int .i64 x.c) (.int .i64 x.l) (.string (bs x.d)) 52
        rwa [hg] at this)
      have hb1 : Below wr.heap.size wr (wr.alloc (.cells #[.string (bs x.n), .int .i64 x.t, .int .i64 x.c, .int .i64 x.l, .string (bs x.d)] 52)) := (Below.refl _ _).alloc (Nat.le_refl _) _
      have HGN := Lib.hid (show N ≤ g by omega)
      replace HK := Lib.hid (HK.out.below hb1)
      replace HB := Lib.hid (HB.out.alloc hsz (.cells #[.string (bs x.n), .int .i64 x.t, .int .i64 x.c, .int .i64 x.l, .string (bs x.d)] 52))
      clear hc hx hb hb1 hL hsz
      go_wp2_with fail
      refine (HC.out _).mono ?_; rintro e w3 ⟨rfl, hb⟩
      have HQ3 := Lib.hid (HQC.out.below (by simp) hb)
      replace HK := Lib.hid (HK.out.below hb)
      replace HB := Lib.hid (HB.out.trans (hb.mono (by have := HGN.out; simp; omega)))
      have HS3 := Lib.hid (show g < w3.heap.size from HQ3.out.lt (by simp))
      clear hb
      by_cases hp : (!isO x) = true
      · rw [hp]
        have hone := sr_one w3 x
        have hb4 : Below w3.heap.size w3 (w3.alloc (.cells #[.string (bs x.n), .int .i64 x.t, .int .i64 x.c, .int .i64 x.l, .string (bs x.d)] 52)) := (Below.refl _ _).alloc (Nat.le_refl _) _
        have hsz4 : N ≤ (w3.alloc (.cells #[.string (bs x.n), .int .i64 x.t, .int .i64 x.c, .int .i64 x.l, .string (bs x.d)] 52)).heap.size := by have := HS3.out; have := HGN.out; simp; omega
        obtain ⟨a6, c6, w6, hr, hk6, ha6⟩ := (HK.out.below hb4).app hone (by have := HLL.out; omega) hsz4
        have hf : (l.take (k + 1)).filter (fun x => !isO x) = L ++ [x] := by rw [HTF.out, List.filter_cons_of_pos (by simpa using hp), List.filter_nil]
        have HK6 := Lib.hid (show Kp w6 N (.slice a6 (L.length + 1) c6) ((l.take (k + 1)).filter (fun x => !isO x)) by rw [hf]; exact hk6)
        have HB6 := Lib.hid (below_aside (HB.out.alloc (by have := HS3.out; have := HGN.out; omega) _) ha6 (fun k hk => ⟨by omega, by omega⟩))
        have HSZ := Lib.hid (Nat.le_trans hsz4 ha6.size)
        obtain ⟨av, cv, rfl⟩ := HK.out.shape
        have HR := Lib.hid hr
        obtain ⟨q0, q1, q2, q3, q4⟩ := HQ3.out.five
        clear hone hb4 hsz4 hr hk6 ha6 hf HK HB HQC HQ3
        go_wp2_with (at_builtin; refine wpList_append_run (.tmp 19) (.tmp 21) 23 23 rfl rfl rfl rfl HR.out ?_)
        go_roundg (l.length - (k + 1))
        case measure => omega
        case rel => exact ⟨k + 1, by omega, by go_num, HK6, HB6, HSZ.out⟩
      · have hp2 : (!isO x) = false := by simpa using hp
        rw [hp2]
        have hfe : (l.take (k + 1)).filter (fun x => !isO x) = L := by rw [HTF.out, List.filter_cons_of_neg (by simpa using hp), List.filter_nil, List.append_nil]
        have HK6 := HK
        rw [← hfe] at HK6
        clear hfe
        have HSZ := Lib.hid (show N ≤ w3.heap.size by have := HS3.out; have := HGN.out; omega)
        clear HK HQC HQ3
        go_wp2_with fail
        go_roundg (l.length - (k + 1))
        case measure => omega
        case rel => exact ⟨k + 1, by omega, by go_num, HK6, HB, HSZ.out⟩
    · have t1 : ¬ ((k : Int) < l.length) := by omega
      have hkl : l.take k = l := List.take_of_length_le (by omega)
      rw [hkl] at HK
      clear hkl
      go_wp2_with fail
      go_ret
      exact ⟨_, rfl, by first | exact HK.out | (rw [hN]; exact HK.out), by first | exact HB.out | (rw [hN]; exact HB.out)⟩
theorem opts_any {w : World} {hi : Nat} {u : Value} {l : List Rc} (h : SR w hi u l) (h1 : hi ≤ w.heap.size) (hl : l.length ≤ 900000) :
    Calls Tryz.prog 20 #[u] w (fun e w' => ∃ v, e = .returned v ∧ Kp w' w.heap.size v (opL l) ∧ Below w.heap.size w w') := by
  have H := Lib.hid (those_opts h h1 hl)
  obtain ⟨a, c, rfl⟩ := Lst.shape h
  clear h
  go_enter Tryz.func20, Tryz.ntmps20
  go_wp2_with fail
  refine H.out.mono ?_; rintro e w1 ⟨v, rfl, hs, hb⟩
  have HS := Lib.hid hs
  have HB := Lib.hid hb
  clear hs hb
  go_wp2_with fail
  go_ret
  exact ⟨_, rfl, HS.out, HB.out⟩
theorem others_any {w : World} {hi : Nat} {u : Value} {l : List Rc} (h : SR w hi u l) (h1 : hi ≤ w.heap.size) (hl : l.length ≤ 900000) :
    Calls Tryz.prog 26 #[u] w (fun e w' => ∃ v, e = .returned v ∧ Kp w' w.heap.size v (noL l) ∧ Below w.heap.size w w') := by
  have H := Lib.hid (those_others h h1 hl)
  obtain ⟨a, c, rfl⟩ := Lst.shape h
  clear h
  go_enter Tryz.func26, Tryz.ntmps26
  go_wp2_with fail
  refine H.out.mono ?_; rintro e w1 ⟨v, rfl, hs, hb⟩
  have HS := Lib.hid hs
  have HB := Lib.hid hb
  clear hs hb
  go_wp2_with fail
  go_ret
  exact ⟨_, rfl, HS.out, HB.out⟩
end Go.Proofs.YtpdaekgldgoalaaGreat

/-
  A region whose loads are fixed by what holds till its last operation, a store, comes up.
-/
namespace Go.Proofs.YtpdaekgldgoalaaGreat
open Go.RowKit Go.Shelf
set_option linter.unusedVariables false
set_option linter.unusedSimpArgs false

section
variable {P : Program} {md : Region.Mode} {ops : Array Oper} {Q : Exit → Act → World → Prop} {S : World → Prop} {k : Nat}

/-- While i has not come up, nothing that waits for it may. -/
theorem not_ready {i j : Nat} {l : Array Bool} (hi : i ∈ Region.ready md ops l) {o : Oper} (ho : ops[j]? = some o) (hj : j ∈ Region.ready md ops l) {e : Edge} (he : e ∈ o.after) (hb : Region.binds md e = true) : e.on ≠ i := by
  rintro rfl
  obtain ⟨_, o', ho', hall⟩ := mem_ready.1 hj
  obtain rfl : o = o' := by rw [ho] at ho'; exact Option.some.inj ho'
  have h1 := hall e he hb
  have h0 := (mem_ready.1 hi).1
  by_cases hs : e.on < l.size
  · simp only [Array.getD, hs, dite_true] at h0 h1
    rw [h0] at h1
    cases h1
  · simp only [Array.getD, hs, dite_false] at h1
    cases h1

/-- Number k waits for number i. -/
def waitsB (md : Region.Mode) (ops : Array Oper) (k i : Nat) : Bool := match ops[k]? with
  | some o => o.after.any fun e => Region.binds md e && e.on == i
  | none => false

end
end Go.Proofs.YtpdaekgldgoalaaGreat

/-
  A region whose loads are fixed by what holds till the first of some last operations, stores, comes up.
-/
namespace Go.Proofs.YtpdaekgldgoalaaGreat
open Go.RowKit Go.Shelf
set_option linter.unusedVariables false
set_option linter.unusedSimpArgs false

section
variable {P : Program} {md : Region.Mode} {ops : Array Oper} {Q : Exit → Act → World → Prop} {S : World → Prop} {ks : List Nat}

/-- In whatever order; S holds behind each operation but those of ks. -/
def Tilk (P : Program) (md : Region.Mode) (ops : Array Oper) (Q : Exit → Act → World → Prop) (S : World → Prop) (ks : List Nat) (n : Nat) (l : Array Bool) (a : Act) (w : World) : Prop :=
  match n with
  | 0 => Region.ready md ops l = [] ∧ Q .normal a w
  | n + 1 => (Region.ready md ops l = [] → Q .normal a w) ∧ ∀ i, i ∈ Region.ready md ops l → wpOp P ops Q i (fun a' w' => (i ∉ ks → S w') ∧ Tilk P md ops Q S ks n (l.setIfInBounds i true) a' w') a w

theorem Tilk.any (n : Nat) : ∀ (l : Array Bool) (a : Act) (w : World), Tilk P md ops Q S ks n l a w → wpAny P md ops Q n l a w := by
  induction n with
  | zero => exact fun _ _ _ h => h
  | succ n ih => exact fun l a w h => ⟨h.1, fun i hi => wpOp_mono (fun a' w' hh => ih _ a' w' hh.2) (h.2 i hi)⟩

/-- What yields the same wherever S holds may be taken first, if all of ks wait for it. -/
theorem tilk_first {i : Nat} {oi : Oper} {v : Value} (hi : ops[i]? = some oi) (hw : ∀ k ∈ ks, waitsB md ops k i = true) (hns : Region.noSelect ops = true)
    (hQ : ∀ c a w, Q (.panic c) (a.put oi.dst v) w → Q (.panic c) a w) (n : Nat) : ∀ (l : Array Bool) (a : Act) (w : World),
      (∀ j oj, ops[j]? = some oj → j ≠ i → l.getD j true = false → (∀ e ∈ oj.after, Region.binds md e = true → e.on ≠ i) → oi.apart ops oj = true) →
      i ∈ Region.ready md ops l → YieldsIf P ops S oi v a → S w → Tilk P md ops Q S ks n (l.setIfInBounds i true) (a.put oi.dst v) w → Tilk P md ops Q S ks (n + 1) l a w := by
  have hsel := Region.noSelect_spec hns
  induction n with
  | zero =>
    intro l a w _ hr hy hS H
    refine ⟨fun h => absurd (h ▸ hr) (by simp), fun j hj => ?_⟩
    rcases Nat.decEq j i with hji | rfl
    · have hm := ready_mono hj hji
      rw [H.1] at hm
      exact absurd hm (by simp)
    · exact hy.wpOp hi hS ⟨fun _ => hS, H⟩
  | succ n ih =>
    intro l a w hf hr hy hS H
    refine ⟨fun h => absurd (h ▸ hr) (by simp), fun j hj => ?_⟩
    rcases Nat.decEq j i with hji | rfl
    · obtain ⟨hun, oj, hoj, _⟩ := mem_ready.1 hj
      have hjk : j ∉ ks := by
        intro hjk
        have hwj := hw j hjk
        unfold waitsB at hwj
        rw [hoj] at hwj
        obtain ⟨e, he, hbe⟩ := Array.any_eq_true'.mp hwj
        rw [Bool.and_eq_true] at hbe
        exact not_ready hr hoj hj he hbe.1 (by simpa using hbe.2)
      have hap := hf j oj hoj hji hun fun e' he' hb' => not_ready hr hoj hj he' hb'
      refine wpOp_mono ?_ (wpOp_putIf hoj hap (fun cs b => hsel i oi cs b hi) (fun cs b => hsel j oj cs b hoj) hQ hy (H.2 j (ready_mono hj hji)))
      rintro a' w' ⟨hy', hS', hT⟩
      refine ⟨hS', ih _ a' w' (fun m om hm hmi hmu hmn => hf m om hm hmi ?_ hmn) (ready_mono hr (Ne.symm hji)) hy' (hS' hjk) ?_⟩
      · rcases Nat.decEq j m with hjm | rfl
        · rwa [getD_set_ne true hjm] at hmu
        · exact hun
      · rw [Array.setIfInBounds_comm _ _ hji]
        exact hT
    · exact hy.wpOp hi hS ⟨fun _ => hS, H⟩

theorem tilk_take {i : Nat} {oi : Oper} {v : Value} {n : Nat} {l : Array Bool} {a : Act} {w : World} (hi : ops[i]? = some oi) (hs : Region.noSelect ops = true) (hf : Region.free md ops l i = true)
    (hr : (Region.ready md ops l).contains i = true) (hQ : ∀ c a w, Q (.panic c) (a.put oi.dst v) w → Q (.panic c) a w) (hy : YieldsIf P ops S oi v a) (hS : S w)
    (h : Tilk P md ops Q S ks n (l.setIfInBounds i true) (a.put oi.dst v) w) (hw : (ks.all fun k => waitsB md ops k i) = true := by kernel_rfl) : Tilk P md ops Q S ks (n + 1) l a w :=
  tilk_first hi (List.all_eq_true.mp hw) hs hQ n l a w (Region.free_spec hi hf) (by simpa using hr) hy hS h

def TilkAll (P : Program) (md : Region.Mode) (ops : Array Oper) (Q : Exit → Act → World → Prop) (S : World → Prop) (ks : List Nat) (n : Nat) (l : Array Bool) (a : Act) (w : World) (rs : List Nat) : Prop :=
  ∀ i, i ∈ rs → wpOp P ops Q i (fun a' w' => (i ∉ ks → S w') ∧ Tilk P md ops Q S ks n (l.setIfInBounds i true) a' w') a w
theorem TilkAll.nil {n : Nat} {l : Array Bool} {a : Act} {w : World} : TilkAll P md ops Q S ks n l a w [] := fun _ h => by cases h
theorem TilkAll.cons {n : Nat} {l : Array Bool} {a : Act} {w : World} {i : Nat} {o : Oper} {rs : List Nat} (ho : ops[i]? = some o)
    (h : ∀ K' : Act → World → Prop, Shut (∀ a w, S w → (S w → Tilk P md ops Q S ks n (l.setIfInBounds i true) a w) → K' a w) → if Region.wanted o (yielded ops a.tmps) = true then Oper.wp P o a w K' Q else K' (a.put o.dst undef) w)
    (hs : TilkAll P md ops Q S ks n l a w rs) (hik : i ∉ ks := by decide) : TilkAll P md ops Q S ks n l a w (i :: rs) := fun j hj => by
  rcases List.mem_cons.1 hj with rfl | hj
  · exact wpOp_step ho fun K' hK => h K' fun a w hS hW => hK a w ⟨fun _ => hS, hW hS⟩
  · exact hs j hj
/-- One of the last. -/
theorem TilkAll.last {i : Nat} {n : Nat} {l : Array Bool} {a : Act} {w : World} {o : Oper} {rs : List Nat} (ho : ops[i]? = some o)
    (h : ∀ K' : Act → World → Prop, Shut (∀ a w, True → (True → Tilk P md ops Q S ks n (l.setIfInBounds i true) a w) → K' a w) → if Region.wanted o (yielded ops a.tmps) = true then Oper.wp P o a w K' Q else K' (a.put o.dst undef) w)
    (hs : TilkAll P md ops Q S ks n l a w rs) (hik : i ∈ ks := by decide) : TilkAll P md ops Q S ks n l a w (i :: rs) := fun j hj => by
  rcases List.mem_cons.1 hj with rfl | hj
  · exact wpOp_step ho fun K' hK => h K' fun a w _ hW => hK a w ⟨fun hk => absurd hik hk, hW trivial⟩
  · exact hs j hj
theorem tilk_ready {rs : List Nat} {n : Nat} {l : Array Bool} {a : Act} {w : World} (hr : Region.ready md ops l = rs) (hne : rs ≠ []) (h : TilkAll P md ops Q S ks n l a w rs) : Tilk P md ops Q S ks (n + 1) l a w :=
  ⟨fun h0 => absurd (hr ▸ h0) hne, hr ▸ h⟩
theorem tilk_done {l : Array Bool} {a : Act} {w : World} (hr : Region.ready md ops l = []) (h : Q .normal a w) (n : Nat) : Tilk P md ops Q S ks n l a w := by
  cases n with
  | zero => exact ⟨hr, h⟩
  | succ n => exact ⟨fun _ => h, fun i hi => by rw [hr] at hi; cases hi⟩
theorem wp_region_tilk {id : Nat} {a : Act} {w : World} (ks : List Nat) (hm : P.follows .mixedOrders = true) (hS : S w.drew)
    (h : S w.drew → Tilk P .any ops Q S ks ops.size (Array.replicate ops.size false) a w.drew) : (Code.region id ops true).wp P Q a w :=
  wp_region_any hm (Tilk.any _ _ _ _ (h hS))
end
end Go.Proofs.YtpdaekgldgoalaaGreat

/-
  The records of a list in memory of their own: copied.
-/
namespace Go.Proofs.YtpdaekgldgoalaaGreat
open Go.RowKit Go.Shelf
set_option linter.unusedVariables false
set_option linter.unusedSimpArgs false
set_option maxRecDepth 100000

/-- A record in a box, and a row of the call's own. -/
structure Cpd (w wr : World) (N g : Nat) (v : Value) (L : List Rc) (x : Rc) : Prop where
  bel : Below N w wr
  own : OwnRc wr N v L
  cel : Cel wr g [.string (bs x.n), .int .i64 x.t, .int .i64 x.c, .int .i64 x.l, .string (bs x.d)]
  ge : N ≤ g
  ne : ∀ j, v.ownBlock = some j → j ≠ g
section
variable {w wr w' : World} {N g : Nat} {v : Value} {L : List Rc} {x : Rc}
theorem Cpd.lt (h : Cpd w wr N g v L x) : g < wr.heap.size := h.cel.lt (by simp)
theorem Cpd.later (h : Cpd w wr N g v L x) (hb : Below wr.heap.size wr w') : Cpd w w' N g v L x :=
  ⟨below_aside h.bel (Aside.of_all hb : Aside (fun _ => False) wr w') (fun k hk => ⟨by have := h.lt; have := h.ge; omega, id⟩), row_below h.own hb, h.cel.below (by simp) hb, h.ge, h.ne⟩
theorem Cpd.put0 (h : Cpd w wr N g v L x) : Cpd w (wr.setCell ⟨g, 0, none⟩ (.string (bs x.n))) N g v L x := by
  have hst : Aside (fun k => k = g) wr (wr.setCell ⟨g, 0, none⟩ (.string (bs x.n))) := Aside.setCell wr (p := ⟨g, 0, none⟩) _ rfl
  exact ⟨below_aside h.bel hst (fun k hk => ⟨by have := h.lt; have := h.ge; omega, by have := h.ge; omega⟩), row_aside h.own hst h.ne, h.cel.set (o := 0) (by simp) _, h.ge, h.ne⟩
theorem Cpd.put4 (h : Cpd w wr N g v L x) : Cpd w (wr.setCell ⟨g, 4, none⟩ (.string (bs x.d))) N g v L x := by
  have hst : Aside (fun k => k = g) wr (wr.setCell ⟨g, 4, none⟩ (.string (bs x.d))) := Aside.setCell wr (p := ⟨g, 4, none⟩) _ rfl
  exact ⟨below_aside h.bel hst (fun k hk => ⟨by have := h.lt; have := h.ge; omega, by have := h.ge; omega⟩), row_aside h.own hst h.ne, h.cel.set (o := 4) (by simp) _, h.ge, h.ne⟩
end

set_option maxHeartbeats 2000000 in
theorem copied_any {w : World} {hi : Nat} {u : Value} {l : List Rc} (h : SR w hi u l) (h1 : hi ≤ w.heap.size) (hl : l.length ≤ 900000) (hb : ∀ x ∈ l, x.n.length ≤ 1000000 ∧ x.d.length ≤ 1000000) :
    Calls Tryz.prog 38 #[u] w (fun e w' => ∃ v, e = .returned v ∧ OwnRc w' w.heap.size v l ∧ Below w.heap.size w w') := by
  have HX := Lib.hid h
  have HN := Lib.hid (Lst.len h)
  have HL := Lib.hid hl
  have HBD := Lib.hid hb
  obtain ⟨a, c, rfl⟩ := Lst.shape h
  obtain ⟨N, hN⟩ : ∃ N, w.heap.size = N := ⟨_, rfl⟩
  have HK0 := Lib.hid (show OwnRc w N (.slice none 0 0) [] from World.ownsRow_nil _ _ _ _)
  have HB0 := Lib.hid (show Below N w w from Below.refl _ _)
  have HHI := Lib.hid (show hi ≤ N by omega)
  clear h h1 hl hb
  go_enter Tryz.func38, Tryz.ntmps38
  go_wp2_with fail
  go_loopg [3, 8] l.length (fun g v3 v8 wr => ∃ k : Nat, k + g = l.length ∧ v8 = .int .i64 k ∧ Hid (OwnRc wr N v3 (l.take k)) ∧ Hid (Below N w wr) ∧ N ≤ wr.heap.size)
  case atStart => exact ⟨0, by omega, rfl, by simpa using HK0, HB0, by omega⟩
  case round =>
    clear HK0 HB0
    obtain ⟨k, hk, rfl, HK, HB, hsz⟩ := hrel
    have hlen := HN.out
    by_cases hlt : k < l.length
    · obtain ⟨b, off, c2, he, hb, hc⟩ := HX.out.at_ k hlt
      injection he with he hn3 hc3
      clear hn3 hc3
      subst he
      obtain ⟨c0, c1, c2, c3, c4⟩ := hc.keep fun o => HB.out.cell (p := ⟨b, o, none⟩) (Nat.lt_of_lt_of_le hb HHI.out)
      have HTK := Lib.hid (show l.take (k + 1) = l.take k ++ [l[k]] by rw [List.take_add_one, List.getElem?_eq_getElem hlt]; rfl)
      have HBX := Lib.hid (HBD.out l[k] (List.getElem_mem hlt))
      obtain ⟨x, hx⟩ : ∃ x, l[k] = x := ⟨_, rfl⟩
      rw [hx] at c0 c1 c2 c3 c4 HTK HBX
      have HCN := Lib.hid (fun wx => clone_any (bs x.n) (by rw [bs_size]; exact HBX.out.1) wx)
      have HCD := Lib.hid (fun wx => clone_any (bs x.d) (by rw [bs_size]; exact HBX.out.2) wx)
      obtain ⟨L, hL⟩ : ∃ L, l.take k = L := ⟨_, rfl⟩
      have HLL := Lib.hid (show L.length = k by rw [← hL, List.length_take]; omega)
      rw [hL] at HK HTK
      obtain ⟨g, hg⟩ : ∃ g, wr.heap.size = g := ⟨_, rfl⟩
      have hq : Cel (wr.alloc (.cells #[.string (bs x.n), .int .i64 x.t, .int .i64 x.c, .int .i64 x.l, .string (bs x.d)] 52)) g [.string (bs x.n), .int .i64 x.t, .int .i64 x.c, .int .i64 x.l, .string (bs x.d)] := by
        have := cel_new wr (.string (bs x.n)) (.int .i64 x.t) (.int .i64 x.c) (.int .i64 x.l) (.string (bs x.d)) 52
        rwa [hg] at this
      have hb1 : Below wr.heap.size wr (wr.alloc (.cells #[.string (bs x.n), .int .i64 x.t, .int .i64 x.c, .int .i64 x.l, .string (bs x.d)] 52)) := (Below.refl _ _).alloc (Nat.le_refl _) _
      have hcp : Cpd w (wr.alloc (.cells #[.string (bs x.n), .int .i64 x.t, .int .i64 x.c, .int .i64 x.l, .string (bs x.d)] 52)) N g _ L x :=
        ⟨HB.out.alloc hsz _, row_below HK.out hb1, hq, by omega, fun j hj => by have := (World.ownsRow.lt HK.out j hj).2; omega⟩
      have HC := Lib.hid (hcp.later (Below.refl _ _).drew)
      obtain ⟨av, cv, rfl⟩ := row_shape HK.out
      clear hc hx hb hb1 hsz hq hcp HK HB
      go_wp2_with fail
      refine wp_region_held_drew (S := (fun wx => Cel wx g [.string (bs x.n), .int .i64 x.t, .int .i64 x.c, .int .i64 x.l, .string (bs x.d)])) (by kernel_rfl) HC.out.cel (fun hHeld => ?_)
      refine wpAnyH_take (i := 0) (oi := { dst := some 12, op := Op.fieldAddr 52 (Operand.tmp 5) 0, type := 0, pos := "list.go:47", after := #[], guard := none }) (v := ?_) rfl (by kernel_rfl) (by kernel_rfl) (by kernel_rfl) (fun _ _ _ h => h) (Or.inl ⟨by rfl, ?_⟩) (by assumption) ?_
      rotate_left 1
      · intro w hSw; (try dsimp only at hSw); (try obtain ⟨r0, r1, r2, r3, r4⟩ := hSw.five); go_simp; try (with_reducible rfl)
      try simp only [Act.put, List.setIfInBounds_toArray, List.set_cons_zero, List.set_cons_succ]
      refine wpAnyH_take (i := 1) (oi := { dst := some 13, op := Op.load 9 (Operand.tmp 12), type := 9, pos := "list.go:47", after := #[{ on := 0, ground := Ground.data }], guard := none }) (v := ?_) rfl (by kernel_rfl) (by kernel_rfl) (by kernel_rfl) (fun _ _ _ h => h) (Or.inl ⟨by rfl, ?_⟩) (by assumption) ?_
      rotate_left 1
      · intro w hSw; (try dsimp only at hSw); (try obtain ⟨r0, r1, r2, r3, r4⟩ := hSw.five); go_simp; try (with_reducible rfl)
      try simp only [Act.put, List.setIfInBounds_toArray, List.set_cons_zero, List.set_cons_succ]
      refine wpAnyH_take (i := 3) (oi := { dst := some 15, op := Op.fieldAddr 52 (Operand.tmp 5) 4, type := 0, pos := "list.go:47", after := #[], guard := none }) (v := ?_) rfl (by kernel_rfl) (by kernel_rfl) (by kernel_rfl) (fun _ _ _ h => h) (Or.inl ⟨by rfl, ?_⟩) (by assumption) ?_
      rotate_left 1
      · intro w hSw; (try dsimp only at hSw); (try obtain ⟨r0, r1, r2, r3, r4⟩ := hSw.five); go_simp; try (with_reducible rfl)
      try simp only [Act.put, List.setIfInBounds_toArray, List.set_cons_zero, List.set_cons_succ]
      refine wpAnyH_take (i := 4) (oi := { dst := some 16, op := Op.load 9 (Operand.tmp 15), type := 9, pos := "list.go:47", after := #[{ on := 3, ground := Ground.data }], guard := none }) (v := ?_) rfl (by kernel_rfl) (by kernel_rfl) (by kernel_rfl) (fun _ _ _ h => h) (Or.inl ⟨by rfl, ?_⟩) (by assumption) ?_
      rotate_left 1
      · intro w hSw; (try dsimp only at hSw); (try obtain ⟨r0, r1, r2, r3, r4⟩ := hSw.five); go_simp; try (with_reducible rfl)
      try simp only [Act.put, List.setIfInBounds_toArray, List.set_cons_zero, List.set_cons_succ]
      refine wpAnyH_ready (rs := [2]) (by kernel_rfl) (by simp) ?_
      refine AllReadyH.cons (o := { dst := some 14, op := Op.call { callee := Callee.value (Operand.func 37), args := #[Operand.tmp 13], argTypes := #[9] }, type := 9, pos := "list.go:47", after := #[{ on := 1, ground := Ground.data }], guard := none }) rfl (fun K hK => ?_) (AllReadyH.nil)
      go_simp
      refine (HCN.out _).mono ?_; rintro e w1 ⟨rfl, hb⟩
      replace HC := Lib.hid (HC.out.later hb)
      clear hb
      try go_wp2_with fail
      refine hK.out _ _ HC.out.cel (fun hHeld => ?_)
      clear hK K
      try simp only [Act.put, List.setIfInBounds_toArray, List.set_cons_zero, List.set_cons_succ]
      refine wpAnyH_take (i := 6) (oi := { dst := some 18, op := Op.fieldAddr 52 (Operand.tmp 5) 0, type := 0, pos := "list.go:47", after := #[{ on := 0, ground := Ground.phase }, { on := 1, ground := Ground.phase }, { on := 2, ground := Ground.phase }, { on := 3, ground := Ground.phase }, { on := 4, ground := Ground.phase }, { on := 5, ground := Ground.textOnly Departure.lateStoresUnsure }], guard := none }) (v := ?_) rfl (by kernel_rfl) (by kernel_rfl) (by kernel_rfl) (fun _ _ _ h => h) (Or.inl ⟨by rfl, ?_⟩) (by assumption) ?_
      rotate_left 1
      · intro w hSw; (try dsimp only at hSw); (try obtain ⟨r0, r1, r2, r3, r4⟩ := hSw.five); go_simp; try (with_reducible rfl)
      try simp only [Act.put, List.setIfInBounds_toArray, List.set_cons_zero, List.set_cons_succ]
      refine wpAnyH_ready (rs := [5]) (by kernel_rfl) (by simp) ?_
      refine AllReadyH.cons (o := { dst := some 17, op := Op.call { callee := Callee.value (Operand.func 37), args := #[Operand.tmp 16], argTypes := #[9] }, type := 9, pos := "list.go:47", after := #[{ on := 4, ground := Ground.data }, { on := 2, ground := Ground.chain }], guard := none }) rfl (fun K hK => ?_) (AllReadyH.nil)
      go_simp
      refine (HCD.out _).mono ?_; rintro e w1 ⟨rfl, hb⟩
      replace HC := Lib.hid (HC.out.later hb)
      clear hb
      try go_wp2_with fail
      refine hK.out _ _ HC.out.cel (fun hHeld => ?_)
      clear hK K
      try simp only [Act.put, List.setIfInBounds_toArray, List.set_cons_zero, List.set_cons_succ]
      refine wpAnyH_ready (rs := [7]) (by kernel_rfl) (by simp) ?_
      refine AllReadyH.cons (o := { dst := none, op := Op.store 9 (Operand.tmp 18) (Operand.tmp 14), type := 0, pos := "list.go:47", after := #[{ on := 6, ground := Ground.data }, { on := 2, ground := Ground.data }, { on := 5, ground := Ground.chain }, { on := 0, ground := Ground.phase }, { on := 1, ground := Ground.phase }, { on := 2, ground := Ground.phase }, { on := 3, ground := Ground.phase }, { on := 4, ground := Ground.phase }, { on := 5, ground := Ground.textOnly Departure.lateStoresUnsure }], guard := none }) rfl (fun K hK => ?_) (AllReadyH.nil)
      obtain ⟨r0, r1, r2, r3, r4⟩ := HC.out.cel.five
      have fz := HC.out.cel.fz
      go_simp
      clear r0 r1 r2 r3 r4 fz
      replace HC := Lib.hid HC.out.put0
      refine hK.out _ _ HC.out.cel (fun hHeld => ?_)
      clear hK K
      try simp only [Act.put, List.setIfInBounds_toArray, List.set_cons_zero, List.set_cons_succ]
      refine wpAnyH_take (i := 8) (oi := { dst := some 19, op := Op.fieldAddr 52 (Operand.tmp 5) 4, type := 0, pos := "list.go:47", after := #[{ on := 0, ground := Ground.phase }, { on := 1, ground := Ground.phase }, { on := 2, ground := Ground.phase }, { on := 3, ground := Ground.phase }, { on := 4, ground := Ground.phase }, { on := 5, ground := Ground.phase }, { on := 6, ground := Ground.phase }, { on := 7, ground := Ground.phase }], guard := none }) (v := ?_) rfl (by kernel_rfl) (by kernel_rfl) (by kernel_rfl) (fun _ _ _ h => h) (Or.inl ⟨by rfl, ?_⟩) (by assumption) ?_
      rotate_left 1
      · intro w hSw; (try dsimp only at hSw); (try obtain ⟨r0, r1, r2, r3, r4⟩ := hSw.five); go_simp; try (with_reducible rfl)
      try simp only [Act.put, List.setIfInBounds_toArray, List.set_cons_zero, List.set_cons_succ]
      refine wpAnyH_ready (rs := [9]) (by kernel_rfl) (by simp) ?_
      refine AllReadyH.cons (o := { dst := none, op := Op.store 9 (Operand.tmp 19) (Operand.tmp 17), type := 0, pos := "list.go:47", after := #[{ on := 8, ground := Ground.data }, { on := 5, ground := Ground.data }, { on := 7, ground := Ground.chain }, { on := 0, ground := Ground.phase }, { on := 1, ground := Ground.phase }, { on := 2, ground := Ground.phase }, { on := 3, ground := Ground.phase }, { on := 4, ground := Ground.phase }, { on := 5, ground := Ground.phase }, { on := 6, ground := Ground.phase }, { on := 7, ground := Ground.phase }], guard := none }) rfl (fun K hK => ?_) (AllReadyH.nil)
      obtain ⟨r0, r1, r2, r3, r4⟩ := HC.out.cel.five
      have fz := HC.out.cel.fz
      go_simp
      clear r0 r1 r2 r3 r4 fz
      replace HC := Lib.hid HC.out.put4
      refine hK.out _ _ HC.out.cel (fun hHeld => ?_)
      clear hK K
      try simp only [Act.put, List.setIfInBounds_toArray, List.set_cons_zero, List.set_cons_succ]
      refine wpAnyH_done (by kernel_rfl) ?_ _
      clear hHeld
      obtain ⟨WE, hWE⟩ : ∃ X, (w1.setCell ⟨g, 0, none⟩ (.string (bs x.n))).setCell ⟨g, 4, none⟩ (.string (bs x.d)) = X := ⟨_, rfl⟩
      rw [hWE] at HC ⊢
      clear hWE
      have HT : Hid (l.take (k + 1) = L ++ [x]) := HTK
      have hone := sr_one WE x
      have hb4 : Below WE.heap.size WE (WE.alloc (.cells #[.string (bs x.n), .int .i64 x.t, .int .i64 x.c, .int .i64 x.l, .string (bs x.d)] 52)) := (Below.refl _ _).alloc (Nat.le_refl _) _
      have hc4 := HC.out.later hb4
      obtain ⟨a6, c6, w6, hr, hk6, ha6, _⟩ := run_appRc hc4.own hone (by have := HLL.out; have := HL.out; simp; omega) (by have := hc4.lt; have := hc4.ge; omega)
      rw [List.length_singleton] at hr hk6
      have HR := Lib.hid hr
      have hlo := World.ownsRow.lt hc4.own
      have HB6 := Lib.hid (below_aside hc4.bel ha6 (fun j hj => ⟨by have := hc4.lt; have := hc4.ge; omega, fun hg => by have := (hlo _ hg).1; omega⟩))
      have HSZ := Lib.hid (show N ≤ w6.heap.size by have := ha6.size; have := hc4.lt; have := hc4.ge; omega)
      have HK6 := Lib.hid (show OwnRc w6 N (.slice a6 (L.length + 1) c6) (l.take (k + 1)) by rw [HT.out]; exact hk6)
      obtain ⟨q0, q1, q2, q3, q4⟩ := HC.out.cel.five
      clear hone hb4 hc4 hr hk6 ha6 hlo HC HT
      go_wp2_with (at_builtin; refine wpList_append_run (.tmp 20) (.tmp 22) 23 23 rfl rfl rfl rfl HR.out ?_)
      go_roundg (l.length - (k + 1))
      case measure => omega
      case rel => exact ⟨k + 1, by omega, by go_num, HK6, HB6, HSZ.out⟩
    · have t1 : ¬ ((k : Int) < l.length) := by omega
      have hkl : l.take k = l := List.take_of_length_le (by omega)
      rw [hkl] at HK
      clear hkl
      go_wp2_with fail
      go_ret
      exact ⟨_, rfl, by first | exact HK.out | (rw [hN]; exact HK.out), by first | exact HB.out | (rw [hN]; exact HB.out)⟩
end Go.Proofs.YtpdaekgldgoalaaGreat

/-
  A message of which no list is anybody else's: own.
-/
namespace Go.Proofs.YtpdaekgldgoalaaGreat
open Go.RowKit Go.Shelf
set_option linter.unusedVariables false
set_option linter.unusedSimpArgs false
set_option maxRecDepth 100000

/-- A message all of whose lists are the call's own. -/
def OwnM (w : World) (B : Nat) (v : Value) (m : Ms) : Prop := ∃ q a n r, v = .agg #[.int .i64 m.id, .int .i64 m.fl, q, a, n, r] ∧ OwnQn w B q m.q ∧ OwnRc w B a m.an ∧ OwnRc w B n m.ns ∧ OwnRc w B r m.ar
theorem OwnM.below {w w' : World} {B : Nat} {v : Value} {m : Ms} (h : OwnM w B v m) (hb : Below w.heap.size w w') : OwnM w' B v m := by
  obtain ⟨q, a, n, r, rfl, h1, h2, h3, h4⟩ := h
  exact ⟨q, a, n, r, rfl, row_below h1 hb, row_below h2 hb, row_below h3 hb, row_below h4 hb⟩
theorem OwnM.base {w : World} {B B' : Nat} {v : Value} {m : Ms} (h : OwnM w B v m) (hB : B' ≤ B) : OwnM w B' v m := by
  obtain ⟨q, a, n, r, rfl, h1, h2, h3, h4⟩ := h
  exact ⟨q, a, n, r, rfl, row_base h1 hB, row_base h2 hB, row_base h3 hB, row_base h4 hB⟩
theorem OwnM.mg {w : World} {B : Nat} {v : Value} {m : Ms} (h : OwnM w B v m) (hl : m.q.length + m.an.length + m.ns.length + m.ar.length ≤ 900000) : Mg w w.heap.size v m := by
  obtain ⟨q, a, n, r, rfl, h1, h2, h3, h4⟩ := h
  exact ⟨q, a, n, r, rfl, Lst.own h1 (by omega), Lst.own h2 (by omega), Lst.own h3 (by omega), Lst.own h4 (by omega)⟩

/-- The message in its box while its lists are being made anew; the answer's box. -/
structure Ow (w wr : World) (N : Nat) (i f : Int) (q a n r : Value) (L : List Qn) : Prop where
  bel : Below N w wr
  x : Cel wr N [.int .i64 i, .int .i64 f, q, a, n, r]
  z : Cel wr (N + 1) [.int .i64 0, .int .i64 0, .slice none 0 0, .slice none 0 0, .slice none 0 0, .slice none 0 0]
  own : OwnQn wr (N + 2) q L
  size : N + 2 ≤ wr.heap.size
section
variable {w wr w' : World} {N : Nat} {i f : Int} {q a n r : Value} {L : List Qn}
theorem Ow.later (h : Ow w wr N i f q a n r L) (hb : Below wr.heap.size wr w') : Ow w w' N i f q a n r L :=
  ⟨below_aside h.bel (Aside.of_all hb : Aside (fun _ => False) wr w') (fun k hk => ⟨by have := h.size; omega, id⟩), h.x.below (by simp) hb, h.z.below (by simp) hb, row_below h.own hb, Nat.le_trans h.size hb.size⟩
theorem Ow.aside {b : Nat} (h : Ow w wr N i f q a n r L) (ha : Aside (fun k => k = b) wr w') (hb : N + 2 ≤ b) (ho : ∀ k, q.ownBlock = some k → k ≠ b) : Ow w w' N i f q a n r L :=
  ⟨below_aside h.bel ha (fun k hk => ⟨by have := h.size; omega, by omega⟩), h.x.aside (by simp) ha (by omega), h.z.aside (by simp) ha (by omega), row_aside h.own ha ho, Nat.le_trans h.size ha.size⟩
/-- A question is laid behind the others. -/
theorem Ow.app (h : Ow w wr N i f q a n r L) {hi : Nat} {u : Value} {x : Qn} (hx : SQ wr hi u [x]) (hl : L.length + 1 ≤ 1000000) :
    ∃ a6 c w6, (Builtin.append_ #[22, 22] 22 #[q, u]).run Tryz.prog wr = .ok (.slice a6 (L.length + 1) c) w6 ∧ w6.frozen? ⟨N, 2, none⟩ = false ∧ w6.cell? ⟨N, 2, none⟩ = some q ∧
      Ow w (w6.setCell ⟨N, 2, none⟩ (.slice a6 (L.length + 1) c)) N i f (.slice a6 (L.length + 1) c) a n r (L ++ [x]) := by
  obtain ⟨a6, c, w6, h1, h2, h3, h4⟩ := run_appQn h.own hx hl h.size
  simp only [List.length_singleton] at h1 h2 h4
  have hlt := World.ownsRow.lt h.own
  have hG : ∀ k, k < N + 2 → ¬ q.ownBlock = some k := fun k hk hg => by have := (hlt k hg).1; omega
  have x6 := h.x.aside (by simp) h3 (hG _ (by omega))
  have z6 := h.z.aside (by simp) h3 (hG _ (by omega))
  have hs := Nat.le_trans h.size h3.size
  have hst : Aside (fun k => k = N) w6 (w6.setCell ⟨N, 2, none⟩ (.slice a6 (L.length + 1) c)) := Aside.setCell w6 (p := ⟨N, 2, none⟩) _ rfl
  exact ⟨a6, c, w6, h1, x6.fz 2, x6.c 2 (by simp), below_aside (below_aside h.bel h3 (fun k hk => ⟨by have := h.size; omega, hG k (by omega)⟩)) hst (fun k hk => ⟨by omega, by omega⟩), x6.set (o := 2) (by simp) _,
    z6.other (a := ⟨N, 2, none⟩) (by show N ≠ N + 1; omega) _, row_aside h2 hst fun k hk hg => by have := (World.ownsRow.lt h2 k hk).1; omega, Nat.le_trans hs hst.size⟩
/-- One of the message's lists is another one. -/
theorem Ow.put3 (h : Ow w wr N i f q a n r L) (v : Value) : Ow w (wr.setCell ⟨N, 3, none⟩ v) N i f q v n r L := by
  have hst : Aside (fun k => k = N) wr (wr.setCell ⟨N, 3, none⟩ v) := Aside.setCell wr (p := ⟨N, 3, none⟩) _ rfl
  exact ⟨below_aside h.bel hst (fun k hk => ⟨by have := h.size; omega, by omega⟩), h.x.set (o := 3) (by simp) v, h.z.other (a := ⟨N, 3, none⟩) (by show N ≠ N + 1; omega) _, row_aside h.own hst fun k hk hg => by have := (World.ownsRow.lt h.own k hk).1; omega, Nat.le_trans h.size hst.size⟩
theorem Ow.put4 (h : Ow w wr N i f q a n r L) (v : Value) : Ow w (wr.setCell ⟨N, 4, none⟩ v) N i f q a v r L := by
  have hst : Aside (fun k => k = N) wr (wr.setCell ⟨N, 4, none⟩ v) := Aside.setCell wr (p := ⟨N, 4, none⟩) _ rfl
  exact ⟨below_aside h.bel hst (fun k hk => ⟨by have := h.size; omega, by omega⟩), h.x.set (o := 4) (by simp) v, h.z.other (a := ⟨N, 4, none⟩) (by show N ≠ N + 1; omega) _, row_aside h.own hst fun k hk hg => by have := (World.ownsRow.lt h.own k hk).1; omega, Nat.le_trans h.size hst.size⟩
theorem Ow.put5 (h : Ow w wr N i f q a n r L) (v : Value) : Ow w (wr.setCell ⟨N, 5, none⟩ v) N i f q a n v L := by
  have hst : Aside (fun k => k = N) wr (wr.setCell ⟨N, 5, none⟩ v) := Aside.setCell wr (p := ⟨N, 5, none⟩) _ rfl
  exact ⟨below_aside h.bel hst (fun k hk => ⟨by have := h.size; omega, by omega⟩), h.x.set (o := 5) (by simp) v, h.z.other (a := ⟨N, 5, none⟩) (by show N ≠ N + 1; omega) _, row_aside h.own hst fun k hk hg => by have := (World.ownsRow.lt h.own k hk).1; omega, Nat.le_trans h.size hst.size⟩
/-- A row of records lies aside of the message's box. -/
theorem row_box {v : Value} {l : List Rc} {o : Nat} {u : Value} (h : OwnRc wr (N + 2) v l) : OwnRc (wr.setCell ⟨N, o, none⟩ u) (N + 2) v l := by
  have hst : Aside (fun k => k = N) wr (wr.setCell ⟨N, o, none⟩ u) := Aside.setCell wr (p := ⟨N, o, none⟩) _ rfl
  exact row_aside h hst fun k hk hg => by have := (World.ownsRow.lt h k hk).1; omega
end

set_option maxHeartbeats 4000000 in
theorem own_any {w : World} {hi : Nat} {u : Value} {m : Ms} (h : Mg w hi u m) (h1 : hi ≤ w.heap.size) (hl : m.q.length + m.an.length + m.ns.length + m.ar.length ≤ 900000) (hn : ∀ x ∈ m.q, x.n.length ≤ 1000000)
    (ha : ∀ x ∈ m.an, x.n.length ≤ 1000000 ∧ x.d.length ≤ 1000000) (hs : ∀ x ∈ m.ns, x.n.length ≤ 1000000 ∧ x.d.length ≤ 1000000) (hr : ∀ x ∈ m.ar, x.n.length ≤ 1000000 ∧ x.d.length ≤ 1000000) :
    Calls Tryz.prog 22 #[u] w (fun e w' => ∃ v, e = .returned v ∧ OwnM w' w.heap.size v m ∧ Below w.heap.size w w') := by
  obtain ⟨i0, f0, l, lan, lns, lar⟩ := m
  obtain ⟨q, a, n, r, rfl, hq, h2, h3, h4⟩ := h
  simp only at hl hn ha hs hr hq h2 h3 h4 ⊢
  obtain ⟨N, hN⟩ : ∃ g, w.heap.size = g := ⟨_, rfl⟩
  have HCA := Lib.hid (fun wx (hb : Below N w wx) => copied_any (Lst.below h2 hb (by omega)) (Nat.le_trans (by omega : hi ≤ N) (by have := hb.size; omega)) (by omega) ha)
  have HCN := Lib.hid (fun wx (hb : Below N w wx) => copied_any (Lst.below h3 hb (by omega)) (Nat.le_trans (by omega : hi ≤ N) (by have := hb.size; omega)) (by omega) hs)
  have HCR := Lib.hid (fun wx (hb : Below N w wx) => copied_any (Lst.below h4 hb (by omega)) (Nat.le_trans (by omega : hi ≤ N) (by have := hb.size; omega)) (by omega) hr)
  obtain ⟨xa, xc, rfl⟩ := Lst.shape hq
  obtain ⟨aa, ac, rfl⟩ := Lst.shape h2
  obtain ⟨na, nc, rfl⟩ := Lst.shape h3
  obtain ⟨ra, rc, rfl⟩ := Lst.shape h4
  obtain ⟨la, hla⟩ : ∃ i, lan.length = i := ⟨_, rfl⟩
  obtain ⟨ln, hln⟩ : ∃ i, lns.length = i := ⟨_, rfl⟩
  obtain ⟨lr, hlr⟩ : ∃ i, lar.length = i := ⟨_, rfl⟩
  rw [hla] at HCA
  rw [hln] at HCN
  rw [hlr] at HCR
  rw [hla, hln, hlr] at hl ⊢
  have HQ := Lib.hid (show SQ w hi (.slice xa l.length xc) l from hq)
  have HLN := Lib.hid (Lst.len hq)
  have HL := Lib.hid (show l.length ≤ 900000 by omega)
  have HNN := Lib.hid hn
  have HHI := Lib.hid (show hi ≤ N by omega)
  have hz := cel_new6 (w.alloc (.cells #[.int .i64 i0, .int .i64 f0, .slice xa l.length xc, .slice aa la ac, .slice na ln nc, .slice ra lr rc] 25)) (.int .i64 0) (.int .i64 0) (.slice none 0 0) (.slice none 0 0) (.slice none 0 0) (.slice none 0 0) 25
  rw [World.size_alloc, hN] at hz
  have hx := (cel_new6 w (.int .i64 i0) (.int .i64 f0) (.slice xa l.length xc) (.slice aa la ac) (.slice na ln nc) (.slice ra lr rc) 25).below (by simp) ((Below.refl _ _).alloc (Nat.le_refl _) (.cells #[.int .i64 0, .int .i64 0, .slice none 0 0, .slice none 0 0, .slice none 0 0, .slice none 0 0] 25))
  rw [hN] at hx
  have hb2 : Below N w ((w.alloc (.cells #[.int .i64 i0, .int .i64 f0, .slice xa l.length xc, .slice aa la ac, .slice na ln nc, .slice ra lr rc] 25)).alloc (.cells #[.int .i64 0, .int .i64 0, .slice none 0 0, .slice none 0 0, .slice none 0 0, .slice none 0 0] 25)) :=
    ((Below.refl _ _).alloc (by omega) _).alloc (by simp; omega) _
  have hsz : ((w.alloc (.cells #[.int .i64 i0, .int .i64 f0, .slice xa l.length xc, .slice aa la ac, .slice na ln nc, .slice ra lr rc] 25)).alloc (.cells #[.int .i64 0, .int .i64 0, .slice none 0 0, .slice none 0 0, .slice none 0 0, .slice none 0 0] 25)).heap.size = N + 2 := by simp [hN]
  obtain ⟨W, hW⟩ : ∃ X, (w.alloc (.cells #[.int .i64 i0, .int .i64 f0, .slice xa l.length xc, .slice aa la ac, .slice na ln nc, .slice ra lr rc] 25)).alloc (.cells #[.int .i64 0, .int .i64 0, .slice none 0 0, .slice none 0 0, .slice none 0 0, .slice none 0 0] 25) = X := ⟨_, rfl⟩
  rw [hW] at hz hx hb2 hsz
  have hst : Aside (fun k => k = N) W (W.setCell ⟨N, 2, none⟩ (.slice none 0 0)) := Aside.setCell W (p := ⟨N, 2, none⟩) _ rfl
  have HP := Lib.hid (show Ow w (W.setCell ⟨N, 2, none⟩ (.slice none 0 0)) N i0 f0 (.slice none 0 0) (.slice aa la ac) (.slice na ln nc) (.slice ra lr rc) [] from
    ⟨below_aside hb2 hst (fun k hk => ⟨by omega, by omega⟩), hx.set (o := 2) (by simp) _, hz.other (a := ⟨N, 2, none⟩) (by show N ≠ N + 1; omega) _, World.ownsRow_nil _ _ _ _, by have := hst.size; omega⟩)
  have x2 : W.cell? ⟨N, 2, none⟩ = some (.slice xa l.length xc) := hx.c 2 (by simp)
  have f2 := hx.fz 2
  clear hq h2 h3 h4 hl hn ha hs hr h1 hla hln hlr hz hx hb2 hst
  go_enter Tryz.func22, Tryz.ntmps22
  go_wp2_with fail
  clear x2 f2
  go_loopg [11] l.length (fun g v11 wr => ∃ k : Nat, k + g = l.length ∧ v11 = .int .i64 k ∧ ∃ qv, Hid (Ow w wr N i0 f0 qv (.slice aa la ac) (.slice na ln nc) (.slice ra lr rc) (l.take k)))
  case atStart => exact ⟨0, by omega, rfl, _, by first | exact HP | (rw [hW]; exact HP)⟩
  case round =>
    clear HP
    obtain ⟨k, hk, rfl, qv, HP⟩ := hrel
    have hlen := HLN.out
    by_cases hlt : k < l.length
    · obtain ⟨b, off, c2, he, hb, hc⟩ := HQ.out.at_ k hlt
      injection he with he hn3 hc3
      clear hn3 hc3
      subst he
      obtain ⟨c0, c1, c2⟩ := hc.keep fun o => HP.out.bel.cell (p := ⟨b, o, none⟩) (Nat.lt_of_lt_of_le hb HHI.out)
      have HTK := Lib.hid (show l.take k ++ [l[k]] = l.take (k + 1) by rw [List.take_add_one, List.getElem?_eq_getElem hlt]; rfl)
      have HXN := Lib.hid (HNN.out l[k] (List.getElem_mem hlt))
      obtain ⟨x, hx⟩ : ∃ x, l[k] = x := ⟨_, rfl⟩
      rw [hx] at c0 c1 c2 HTK HXN
      have HTL := Lib.hid (show (l.take k).length = k by rw [List.length_take]; omega)
      obtain ⟨g, hg⟩ : ∃ g, wr.heap.size = g := ⟨_, rfl⟩
      have HQC := Lib.hid (show Cel (wr.alloc (.cells #[.string (bs x.n), .int .i64 x.t, .int .i64 x.c] 55)) g [.string (bs x.n), .int .i64 x.t, .int .i64 x.c] by
        have := cel_new3 wr (.string (bs x.n)) (.int .i64 x.t) (.int .i64 x.c) 55
        rwa [hg] at this)
      have HGN := Lib.hid (show N + 2 ≤ g by rw [← hg]; exact HP.out.size)
      have HGO := Lib.hid (show ∀ j, qv.ownBlock = some j → j ≠ g from fun j hj => by have := (World.ownsRow.lt HP.out.own j hj).2; omega)
      replace HP := Lib.hid (HP.out.later ((Below.refl wr.heap.size wr).alloc (Nat.le_refl _) (.cells #[.string (bs x.n), .int .i64 x.t, .int .i64 x.c] 55)))
      clear hc hx hb
      go_wp2_with fail
      refine (clone_any _ (by rw [bs_size]; exact HXN.out) _).mono ?_; rintro e w3 ⟨rfl, hb⟩
      have HQ3 := Lib.hid (HQC.out.below (by simp) hb)
      have HP3 := Lib.hid (HP.out.later hb)
      have HS3 := Lib.hid (show g < w3.heap.size from HQ3.out.lt (by simp))
      have hst : Aside (fun j => j = g) w3 (w3.setCell ⟨g, 0, none⟩ (.string (bs x.n))) := Aside.setCell w3 (p := ⟨g, 0, none⟩) _ rfl
      have HP4 := Lib.hid (HP3.out.aside hst HGN.out HGO.out)
      have HQ4 := Lib.hid (show Cel (w3.setCell ⟨g, 0, none⟩ (.string (bs x.n))) g [.string (bs x.n), .int .i64 x.t, .int .i64 x.c] from HQ3.out.set (o := 0) (by simp) (.string (bs x.n)))
      have hb5 : Below (w3.setCell ⟨g, 0, none⟩ (.string (bs x.n))).heap.size (w3.setCell ⟨g, 0, none⟩ (.string (bs x.n))) ((w3.setCell ⟨g, 0, none⟩ (.string (bs x.n))).alloc (.cells #[.string (bs x.n), .int .i64 x.t, .int .i64 x.c] 55)) := (Below.refl _ _).alloc (Nat.le_refl _) _
      have HP5 := Lib.hid (HP4.out.later hb5)
      have hone := sq_one (w3.setCell ⟨g, 0, none⟩ (.string (bs x.n))) x
      rw [show (w3.setCell ⟨g, 0, none⟩ (.string (bs x.n))).heap.size = w3.heap.size from World.size_setCell _ _ _] at hone
      obtain ⟨a6, cp6, w6, hrun, hfz, hcl, hp6⟩ := HP5.out.app hone (by rw [HTL.out]; have := HL.out; omega)
      rw [HTL.out] at hrun hp6
      rw [HTK.out] at hp6
      have HRUN := Lib.hid hrun
      have HP6 := Lib.hid hp6
      have f3 : w3.frozen? ⟨g, 0, none⟩ = false := HQ3.out.fz 0
      have d0 : w3.cell? ⟨g, 0, none⟩ = some (.string (bs x.n)) := HQ3.out.c 0 (by simp)
      have e0 : (w3.setCell ⟨g, 0, none⟩ (.string (bs x.n))).cell? ⟨g, 0, none⟩ = some (.string (bs x.n)) := HQ4.out.c 0 (by simp)
      have e1 : (w3.setCell ⟨g, 0, none⟩ (.string (bs x.n))).cell? ⟨g, 1, none⟩ = some (.int .i64 x.t) := HQ4.out.c 1 (by simp)
      have e2 : (w3.setCell ⟨g, 0, none⟩ (.string (bs x.n))).cell? ⟨g, 2, none⟩ = some (.int .i64 x.c) := HQ4.out.c 2 (by simp)
      have e3 : (w3.setCell ⟨g, 0, none⟩ (.string (bs x.n))).cell? ⟨N, 2, none⟩ = some qv := HP4.out.x.c 2 (by simp)
      clear hb hst hb5 hone hrun hp6 HP HP3 HP4 HP5 HQC HQ3 HQ4
      go_wp2_with (at_builtin; refine wpList_append_run (.tmp 20) (.tmp 22) 22 22 rfl rfl rfl rfl HRUN.out ?_)
      go_roundg (l.length - (k + 1))
      case measure => omega
      case rel => exact ⟨k + 1, by omega, by go_num, _, HP6⟩
    · have t1 : ¬ ((k : Int) < l.length) := by omega
      have hkl : l.take k = l := List.take_of_length_le (by omega)
      rw [hkl] at HP
      replace HP := Lib.hid (HP.out.later (Below.refl _ _).drew)
      obtain ⟨qa, qc, rfl⟩ := row_shape HP.out.own
      clear hkl
      go_wp2_with fail
      refine wp_region_tilk (S := (fun wx => wx.cell? ⟨N, 3, none⟩ = some (.slice aa la ac) ∧ wx.cell? ⟨N, 4, none⟩ = some (.slice na ln nc) ∧ wx.cell? ⟨N, 5, none⟩ = some (.slice ra lr rc))) [10, 11, 12, 13, 14] (by kernel_rfl) ⟨HP.out.x.c 3 (by simp), HP.out.x.c 4 (by simp), HP.out.x.c 5 (by simp)⟩ (fun hHeld => ?_)
      refine tilk_take (i := 0) (oi := { dst := some 26, op := Op.fieldAddr 25 (Operand.tmp 1) 3, type := 0, pos := "list.go:39", after := #[], guard := none }) (v := ?_) rfl (by kernel_rfl) (by kernel_rfl) (by kernel_rfl) (fun _ _ _ h => h) (Or.inl ⟨by rfl, ?_⟩) (by assumption) ?_
      rotate_left 1
      · intro w hSw; (try dsimp only at hSw); go_simp; try (with_reducible rfl)
      try simp only [Act.put, List.setIfInBounds_toArray, List.set_cons_zero, List.set_cons_succ]
      refine tilk_take (i := 1) (oi := { dst := some 27, op := Op.load 23 (Operand.tmp 26), type := 23, pos := "list.go:39", after := #[{ on := 0, ground := Ground.data }], guard := none }) (v := ?_) rfl (by kernel_rfl) (by kernel_rfl) (by kernel_rfl) (fun _ _ _ h => h) (Or.inl ⟨by rfl, ?_⟩) (by assumption) ?_
      rotate_left 1
      · intro w hSw; (try dsimp only at hSw); go_simp; try (with_reducible rfl)
      try simp only [Act.put, List.setIfInBounds_toArray, List.set_cons_zero, List.set_cons_succ]
      refine tilk_take (i := 3) (oi := { dst := some 29, op := Op.fieldAddr 25 (Operand.tmp 1) 4, type := 0, pos := "list.go:39", after := #[], guard := none }) (v := ?_) rfl (by kernel_rfl) (by kernel_rfl) (by kernel_rfl) (fun _ _ _ h => h) (Or.inl ⟨by rfl, ?_⟩) (by assumption) ?_
      rotate_left 1
      · intro w hSw; (try dsimp only at hSw); go_simp; try (with_reducible rfl)
      try simp only [Act.put, List.setIfInBounds_toArray, List.set_cons_zero, List.set_cons_succ]
      refine tilk_take (i := 4) (oi := { dst := some 30, op := Op.load 23 (Operand.tmp 29), type := 23, pos := "list.go:39", after := #[{ on := 3, ground := Ground.data }], guard := none }) (v := ?_) rfl (by kernel_rfl) (by kernel_rfl) (by kernel_rfl) (fun _ _ _ h => h) (Or.inl ⟨by rfl, ?_⟩) (by assumption) ?_
      rotate_left 1
      · intro w hSw; (try dsimp only at hSw); go_simp; try (with_reducible rfl)
      try simp only [Act.put, List.setIfInBounds_toArray, List.set_cons_zero, List.set_cons_succ]
      refine tilk_take (i := 6) (oi := { dst := some 32, op := Op.fieldAddr 25 (Operand.tmp 1) 5, type := 0, pos := "list.go:39", after := #[], guard := none }) (v := ?_) rfl (by kernel_rfl) (by kernel_rfl) (by kernel_rfl) (fun _ _ _ h => h) (Or.inl ⟨by rfl, ?_⟩) (by assumption) ?_
      rotate_left 1
      · intro w hSw; (try dsimp only at hSw); go_simp; try (with_reducible rfl)
      try simp only [Act.put, List.setIfInBounds_toArray, List.set_cons_zero, List.set_cons_succ]
      refine tilk_take (i := 7) (oi := { dst := some 33, op := Op.load 23 (Operand.tmp 32), type := 23, pos := "list.go:39", after := #[{ on := 6, ground := Ground.data }], guard := none }) (v := ?_) rfl (by kernel_rfl) (by kernel_rfl) (by kernel_rfl) (fun _ _ _ h => h) (Or.inl ⟨by rfl, ?_⟩) (by assumption) ?_
      rotate_left 1
      · intro w hSw; (try dsimp only at hSw); go_simp; try (with_reducible rfl)
      try simp only [Act.put, List.setIfInBounds_toArray, List.set_cons_zero, List.set_cons_succ]
      refine tilk_ready (rs := [2]) (by kernel_rfl) (by simp) ?_
      refine TilkAll.cons (o := { dst := some 28, op := Op.call { callee := Callee.value (Operand.func 38), args := #[Operand.tmp 27], argTypes := #[23] }, type := 23, pos := "list.go:39", after := #[{ on := 1, ground := Ground.data }], guard := none }) rfl (fun K hK => ?_) (TilkAll.nil)
      go_simp
      refine (HCA.out _ HP.out.bel).mono ?_; rintro e w1 ⟨va, rfl, ho, hb⟩
      obtain ⟨ava, cva, rfl⟩ := row_shape ho
      have HA := Lib.hid (show OwnRc w1 (N + 2) _ _ from row_base ho HP.out.size)
      replace HP := Lib.hid (HP.out.later hb)
      clear ho hb
      try go_wp2_with fail
      refine hK.out _ _ ⟨HP.out.x.c 3 (by simp), HP.out.x.c 4 (by simp), HP.out.x.c 5 (by simp)⟩ (fun hHeld => ?_)
      clear hK K
      try simp only [Act.put, List.setIfInBounds_toArray, List.set_cons_zero, List.set_cons_succ]
      refine tilk_take (i := 9) (oi := { dst := some 35, op := Op.fieldAddr 25 (Operand.tmp 1) 3, type := 0, pos := "list.go:39", after := #[{ on := 0, ground := Ground.phase }, { on := 1, ground := Ground.phase }, { on := 2, ground := Ground.phase }, { on := 3, ground := Ground.phase }, { on := 4, ground := Ground.phase }, { on := 5, ground := Ground.textOnly Departure.lateStoresUnsure }, { on := 6, ground := Ground.phase }, { on := 7, ground := Ground.phase }, { on := 8, ground := Ground.textOnly Departure.lateStoresUnsure }], guard := none }) (v := ?_) rfl (by kernel_rfl) (by kernel_rfl) (by kernel_rfl) (fun _ _ _ h => h) (Or.inl ⟨by rfl, ?_⟩) (by assumption) ?_
      rotate_left 1
      · intro w hSw; (try dsimp only at hSw); go_simp; try (with_reducible rfl)
      try simp only [Act.put, List.setIfInBounds_toArray, List.set_cons_zero, List.set_cons_succ]
      refine tilk_ready (rs := [5]) (by kernel_rfl) (by simp) ?_
      refine TilkAll.cons (o := { dst := some 31, op := Op.call { callee := Callee.value (Operand.func 38), args := #[Operand.tmp 30], argTypes := #[23] }, type := 23, pos := "list.go:39", after := #[{ on := 4, ground := Ground.data }, { on := 2, ground := Ground.chain }], guard := none }) rfl (fun K hK => ?_) (TilkAll.nil)
      go_simp
      refine (HCN.out _ HP.out.bel).mono ?_; rintro e w2 ⟨vn, rfl, ho, hb⟩
      obtain ⟨avn, cvn, rfl⟩ := row_shape ho
      have HNN2 := Lib.hid (show OwnRc w2 (N + 2) _ _ from row_base ho HP.out.size)
      replace HP := Lib.hid (HP.out.later hb)
      replace HA := Lib.hid (show OwnRc _ (N + 2) _ _ from row_below HA.out hb)
      clear ho hb
      try go_wp2_with fail
      refine hK.out _ _ ⟨HP.out.x.c 3 (by simp), HP.out.x.c 4 (by simp), HP.out.x.c 5 (by simp)⟩ (fun hHeld => ?_)
      clear hK K
      try simp only [Act.put, List.setIfInBounds_toArray, List.set_cons_zero, List.set_cons_succ]
      refine tilk_ready (rs := [8]) (by kernel_rfl) (by simp) ?_
      refine TilkAll.cons (o := { dst := some 34, op := Op.call { callee := Callee.value (Operand.func 38), args := #[Operand.tmp 33], argTypes := #[23] }, type := 23, pos := "list.go:39", after := #[{ on := 7, ground := Ground.data }, { on := 5, ground := Ground.chain }], guard := none }) rfl (fun K hK => ?_) (TilkAll.nil)
      go_simp
      refine (HCR.out _ HP.out.bel).mono ?_; rintro e w3 ⟨vr, rfl, ho, hb⟩
      obtain ⟨avr, cvr, rfl⟩ := row_shape ho
      have HR := Lib.hid (show OwnRc w3 (N + 2) _ _ from row_base ho HP.out.size)
      replace HP := Lib.hid (HP.out.later hb)
      replace HA := Lib.hid (show OwnRc _ (N + 2) _ _ from row_below HA.out hb)
      replace HNN2 := Lib.hid (show OwnRc _ (N + 2) _ _ from row_below HNN2.out hb)
      clear ho hb
      try go_wp2_with fail
      refine hK.out _ _ ⟨HP.out.x.c 3 (by simp), HP.out.x.c 4 (by simp), HP.out.x.c 5 (by simp)⟩ (fun hHeld => ?_)
      clear hK K
      try simp only [Act.put, List.setIfInBounds_toArray, List.set_cons_zero, List.set_cons_succ]
      refine tilk_ready (rs := [10]) (by kernel_rfl) (by simp) ?_
      refine TilkAll.last (i := 10) (o := { dst := none, op := Op.store 23 (Operand.tmp 35) (Operand.tmp 28), type := 0, pos := "list.go:39", after := #[{ on := 9, ground := Ground.data }, { on := 2, ground := Ground.data }, { on := 8, ground := Ground.chain }, { on := 0, ground := Ground.phase }, { on := 1, ground := Ground.phase }, { on := 2, ground := Ground.phase }, { on := 3, ground := Ground.phase }, { on := 4, ground := Ground.phase }, { on := 5, ground := Ground.textOnly Departure.lateStoresUnsure }, { on := 6, ground := Ground.phase }, { on := 7, ground := Ground.phase }, { on := 8, ground := Ground.textOnly Departure.lateStoresUnsure }], guard := none }) rfl (fun K hK => ?_) (TilkAll.nil)
      obtain ⟨r0, r1, r2, r3, r4, r5⟩ := HP.out.x.six
      have fz := HP.out.x.fz
      go_simp
      clear r0 r1 r2 r3 r4 r5 fz
      replace HP := Lib.hid (HP.out.put3 (.slice ava lan.length cva))
      replace HA := Lib.hid (row_box (o := 3) (u := (.slice ava lan.length cva)) HA.out)
      replace HNN2 := Lib.hid (row_box (o := 3) (u := (.slice ava lan.length cva)) HNN2.out)
      replace HR := Lib.hid (row_box (o := 3) (u := (.slice ava lan.length cva)) HR.out)
      refine hK.out _ _ trivial (fun hHeld => ?_)
      clear hK K
      try simp only [Act.put, List.setIfInBounds_toArray, List.set_cons_zero, List.set_cons_succ]
      refine tilk_ready (rs := [11]) (by kernel_rfl) (by simp) ?_
      refine TilkAll.last (i := 11) (o := { dst := some 36, op := Op.fieldAddr 25 (Operand.tmp 1) 4, type := 0, pos := "list.go:39", after := #[{ on := 0, ground := Ground.phase }, { on := 1, ground := Ground.phase }, { on := 2, ground := Ground.phase }, { on := 3, ground := Ground.phase }, { on := 4, ground := Ground.phase }, { on := 5, ground := Ground.phase }, { on := 6, ground := Ground.phase }, { on := 7, ground := Ground.phase }, { on := 8, ground := Ground.textOnly Departure.lateStoresUnsure }, { on := 9, ground := Ground.phase }, { on := 10, ground := Ground.phase }], guard := none }) rfl (fun K hK => ?_) (TilkAll.nil)
      go_simp
      refine hK.out _ _ trivial (fun hHeld => ?_)
      clear hK K
      try simp only [Act.put, List.setIfInBounds_toArray, List.set_cons_zero, List.set_cons_succ]
      refine tilk_ready (rs := [12]) (by kernel_rfl) (by simp) ?_
      refine TilkAll.last (i := 12) (o := { dst := none, op := Op.store 23 (Operand.tmp 36) (Operand.tmp 31), type := 0, pos := "list.go:39", after := #[{ on := 11, ground := Ground.data }, { on := 5, ground := Ground.data }, { on := 10, ground := Ground.chain }, { on := 0, ground := Ground.phase }, { on := 1, ground := Ground.phase }, { on := 2, ground := Ground.phase }, { on := 3, ground := Ground.phase }, { on := 4, ground := Ground.phase }, { on := 5, ground := Ground.phase }, { on := 6, ground := Ground.phase }, { on := 7, ground := Ground.phase }, { on := 8, ground := Ground.textOnly Departure.lateStoresUnsure }, { on := 9, ground := Ground.phase }, { on := 10, ground := Ground.phase }], guard := none }) rfl (fun K hK => ?_) (TilkAll.nil)
      obtain ⟨r0, r1, r2, r3, r4, r5⟩ := HP.out.x.six
      have fz := HP.out.x.fz
      go_simp
      clear r0 r1 r2 r3 r4 r5 fz
      replace HP := Lib.hid (HP.out.put4 (.slice avn lns.length cvn))
      replace HA := Lib.hid (row_box (o := 4) (u := (.slice avn lns.length cvn)) HA.out)
      replace HNN2 := Lib.hid (row_box (o := 4) (u := (.slice avn lns.length cvn)) HNN2.out)
      replace HR := Lib.hid (row_box (o := 4) (u := (.slice avn lns.length cvn)) HR.out)
      refine hK.out _ _ trivial (fun hHeld => ?_)
      clear hK K
      try simp only [Act.put, List.setIfInBounds_toArray, List.set_cons_zero, List.set_cons_succ]
      refine tilk_ready (rs := [13]) (by kernel_rfl) (by simp) ?_
      refine TilkAll.last (i := 13) (o := { dst := some 37, op := Op.fieldAddr 25 (Operand.tmp 1) 5, type := 0, pos := "list.go:39", after := #[{ on := 0, ground := Ground.phase }, { on := 1, ground := Ground.phase }, { on := 2, ground := Ground.phase }, { on := 3, ground := Ground.phase }, { on := 4, ground := Ground.phase }, { on := 5, ground := Ground.phase }, { on := 6, ground := Ground.phase }, { on := 7, ground := Ground.phase }, { on := 8, ground := Ground.phase }, { on := 9, ground := Ground.phase }, { on := 10, ground := Ground.phase }, { on := 11, ground := Ground.phase }, { on := 12, ground := Ground.phase }], guard := none }) rfl (fun K hK => ?_) (TilkAll.nil)
      go_simp
      refine hK.out _ _ trivial (fun hHeld => ?_)
      clear hK K
      try simp only [Act.put, List.setIfInBounds_toArray, List.set_cons_zero, List.set_cons_succ]
      refine tilk_ready (rs := [14]) (by kernel_rfl) (by simp) ?_
      refine TilkAll.last (i := 14) (o := { dst := none, op := Op.store 23 (Operand.tmp 37) (Operand.tmp 34), type := 0, pos := "list.go:39", after := #[{ on := 13, ground := Ground.data }, { on := 8, ground := Ground.data }, { on := 12, ground := Ground.chain }, { on := 0, ground := Ground.phase }, { on := 1, ground := Ground.phase }, { on := 2, ground := Ground.phase }, { on := 3, ground := Ground.phase }, { on := 4, ground := Ground.phase }, { on := 5, ground := Ground.phase }, { on := 6, ground := Ground.phase }, { on := 7, ground := Ground.phase }, { on := 8, ground := Ground.phase }, { on := 9, ground := Ground.phase }, { on := 10, ground := Ground.phase }, { on := 11, ground := Ground.phase }, { on := 12, ground := Ground.phase }], guard := none }) rfl (fun K hK => ?_) (TilkAll.nil)
      obtain ⟨r0, r1, r2, r3, r4, r5⟩ := HP.out.x.six
      have fz := HP.out.x.fz
      go_simp
      clear r0 r1 r2 r3 r4 r5 fz
      replace HP := Lib.hid (HP.out.put5 (.slice avr lar.length cvr))
      replace HA := Lib.hid (row_box (o := 5) (u := (.slice avr lar.length cvr)) HA.out)
      replace HNN2 := Lib.hid (row_box (o := 5) (u := (.slice avr lar.length cvr)) HNN2.out)
      replace HR := Lib.hid (row_box (o := 5) (u := (.slice avr lar.length cvr)) HR.out)
      refine hK.out _ _ trivial (fun hHeld => ?_)
      clear hK K
      try simp only [Act.put, List.setIfInBounds_toArray, List.set_cons_zero, List.set_cons_succ]
      refine tilk_done (by kernel_rfl) ?_ _
      clear hHeld
      obtain ⟨WE, hWE⟩ : ∃ X, ((w3.setCell ⟨N, 3, none⟩ (.slice ava lan.length cva)).setCell ⟨N, 4, none⟩ (.slice avn lns.length cvn)).setCell ⟨N, 5, none⟩ (.slice avr lar.length cvr) = X := ⟨_, rfl⟩
      rw [hWE] at HP HA HNN2 HR ⊢
      clear hWE
      obtain ⟨r0, r1, r2, r3, r4, r5⟩ := HP.out.x.six
      obtain ⟨z0, z1, z2, z3, z4, z5⟩ := HP.out.z.six
      have fz := HP.out.x.fz
      have fy := HP.out.z.fz
      go_wp2_with fail
      clear r0 r1 r2 r3 r4 r5 z0 z1 z2 z3 z4 z5 fz fy
      have k6 := cel_put6 HP.out.z (.int .i64 i0) (.int .i64 f0) (.slice qa l.length qc) (.slice ava lan.length cva) (.slice avn lns.length cvn) (.slice avr lar.length cvr)
      have ha := aside_put6 WE (N + 1) (.int .i64 i0) (.int .i64 f0) (.slice qa l.length qc) (.slice ava lan.length cva) (.slice avn lns.length cvn) (.slice avr lar.length cvr)
      obtain ⟨m0, m1, m2, m3, m4, m5⟩ := k6.six
      unfold put6 at m0 m1 m2 m3 m4 m5 ha
      have key : ∀ (v : Value) (l : List Rc), OwnRc WE (N + 2) v l → OwnRc _ N v l := fun v l h => row_base (row_aside h ha fun j hj hg => by have := (World.ownsRow.lt h j hj).1; omega) (by omega)
      refine bodyPost_ret (v := .agg #[.int .i64 i0, .int .i64 f0, .slice qa l.length qc, .slice ava lan.length cva, .slice avn lns.length cvn, .slice avr lar.length cvr]) (by simp [results, Tryz.results22, go_sem, m0, m1, m2, m3, m4, m5]) rfl ⟨_, rfl, ?_, ?_⟩
      · first | exact ⟨_, _, _, _, rfl, row_base (row_aside HP.out.own ha fun j hj hg => by have := (World.ownsRow.lt HP.out.own j hj).1; omega) (by omega), key _ _ HA.out, key _ _ HNN2.out, key _ _ HR.out⟩ | (rw [hN]; exact ⟨_, _, _, _, rfl, row_base (row_aside HP.out.own ha fun j hj hg => by have := (World.ownsRow.lt HP.out.own j hj).1; omega) (by omega), key _ _ HA.out, key _ _ HNN2.out, key _ _ HR.out⟩)
      · first | exact below_aside HP.out.bel ha (fun j hj => ⟨by have := HP.out.size; omega, by omega⟩) | (rw [hN]; exact below_aside HP.out.bel ha (fun j hj => ⟨by have := HP.out.size; omega, by omega⟩))
end Go.Proofs.YtpdaekgldgoalaaGreat
