/-
  readHead: looks for a head's end, and goes on with the body.
-/
import Derived.Test.YtkoohdacneflfaaGreatDoorZ14
import Derived.BigQuiet
namespace Go.Proofs.YtkoohdacneflfaaGreatDoor
open Go.RowKit Go.Shelf
set_option linter.unusedVariables false
set_option linter.unusedSimpArgs false
set_option maxRecDepth 100000
attribute [local go_sem] run_store_func

theorem take_min (b : List UInt8) {m : Nat} (h : min b.length 4096 = m) : b.take m = b.take 4096 := by
  subst h
  rcases Nat.le_total b.length 4096 with h | h
  · rw [Nat.min_eq_left h, List.take_of_length_le (Nat.le_refl _), List.take_of_length_le h]
  · rw [Nat.min_eq_right h]
theorem sl_sep4 (w : World) (fz : Nat × Nat) : Sl (w.alloc (.cells #[.int .u8 13, .int .u8 10, .int .u8 13, .int .u8 10] 5 fz)) w.heap.size (w.heap.size + 1) (.slice (some ⟨w.heap.size, 0, none⟩) 4 4) (iz cc4) := by
  refine ⟨_, 4, rfl, by rw [iz_len]; exact Nat.le_refl 4, fun h => by simp at h, fun _ => ⟨_, _, rfl, Nat.le_refl _, by omega, fun j hj => ?_⟩⟩
  have hj : j < 4 := hj
  rw [World.cell?, heap_alloc_new, Nat.zero_add]
  have : j = 0 ∨ j = 1 ∨ j = 2 ∨ j = 3 := by omega
  rcases this with rfl | rfl | rfl | rfl <;> rfl

theorem sl_apart2 {W W' : World} {G : Nat → Prop} {k : Nat} {v : Value} {b : List UInt8} (h : Sl W k (k + 1) v (iz b)) (ha : Aside G W W') (hG : ¬ G k) : Sl W' k (k + 1) v (iz b) := sl_apart h ha (sl_in h) hG
theorem next_wait {w w' : World} {N r g : Nat} {nx kv s : Value} {b : List UInt8} {h : Hd} {fr te : Int} {X : Nat → Prop} (h1 : oneH b = none) (hb : Below w.heap.size w w') (hr : Rb w' N r nx kv b h s fr te) (hX : ∀ x, s.ownBlock = some x → ¬ X x) : NextPost w N r g X kv b (.returned (.tuple #[.agg #[.int .i64 0, .string ⟨#[]⟩, .string ⟨#[]⟩, .int .i64 0, .slice none 0 0, .slice none 0 0, .bool false], .bool false])) w' :=
  ⟨Aside.of_all hb, .inl ⟨h1, rfl, _, _, _, _, _, hr, hX⟩⟩
theorem next_told {w w' : World} {N r g : Nat} {nx kv s : Value} {b : List UInt8} {h : Hd} {fr te st : Int} {X : Nat → Prop} (h1 : oneH b = some (sta st, 0)) (hb : Below w.heap.size w w') (hr : Rb w' N r nx kv b h s fr te) (hs : Sl w' g (g + 1) kv (iz b)) (hX : ∀ x, s.ownBlock = some x → ¬ X x) : NextPost w N r g X kv b (.returned (.tuple #[.agg #[.int .i64 st, .string ⟨#[]⟩, .string ⟨#[]⟩, .int .i64 0, .slice none 0 0, .slice none 0 0, .bool false], .bool true])) w' :=
  ⟨Aside.of_all hb, .inr ⟨⟨sta st, .slice none 0 0, .slice none 0 0⟩, 0, kv, h1, rfl, ⟨OwnF.nil _ _, by simp [sta, z0], fun b h => (by cases h), OwnB.nil _ _, fun b h => (by cases h)⟩, ⟨_, _, _, _, _, hr, hX⟩, hs⟩⟩

set_option maxHeartbeats 4000000 in
theorem head_any {w : World} {N r g : Nat} {nx kv s : Value} {b : List UInt8} {h : Hd} {fr te : Int} (hr : Rb w N r nx kv b h s fr te) (hs : Sl w g (g + 1) kv (iz b)) (hg : g ≠ r) (hE : EnvN w N) (hl : b.length ≤ 900000) {X : Nat → Prop} (hX : ∀ x, X x → x < w.heap.size) (hXs : ∀ x, s.ownBlock = some x → ¬ X x) :
    Calls Tryz.prog 25 #[.pointer (some ⟨r, 0, none⟩)] w (NextPost w N r g X kv b) := by
  have hlt := hr.lt
  have hsf := fun x hx => (hr.f.lt x hx).2
  obtain ⟨va, vc, rfl⟩ := sl_shape hs rfl
  obtain ⟨sa, sc, rfl⟩ := hr.f.shape
  have hb0 : Below w.heap.size w (w.alloc (.cells #[.int .i64 0, .string ⟨#[]⟩, .string ⟨#[]⟩, .int .i64 0, .slice none 0 0, .slice none 0 0, .bool false] 44)) := (Below.refl _ _).alloc (Nat.le_refl _) _
  have hx : Cel (w.alloc (.cells #[.int .i64 0, .string ⟨#[]⟩, .string ⟨#[]⟩, .int .i64 0, .slice none 0 0, .slice none 0 0, .bool false] 44)) w.heap.size zI := cel_newA w zI 44
  have hsz : (w.alloc (.cells #[.int .i64 0, .string ⟨#[]⟩, .string ⟨#[]⟩, .int .i64 0, .slice none 0 0, .slice none 0 0, .bool false] 44)).heap.size = w.heap.size + 1 := by simp
  have hr1 := hr.below hb0
  obtain ⟨W, hW⟩ : ∃ W, w.alloc (.cells #[.int .i64 0, .string ⟨#[]⟩, .string ⟨#[]⟩, .int .i64 0, .slice none 0 0, .slice none 0 0, .bool false] 44) = W := ⟨_, rfl⟩
  rw [hW] at hb0 hx hsz hr1
  obtain ⟨c0, c1, c2, c3, c4, c5, c6, c7, c8⟩ := hr1.c.nine
  have cz := hr1.c.fz
  obtain ⟨m, hm⟩ : ∃ m, min b.length 4096 = m := ⟨_, rfl⟩
  have hs1 := sl_apart hs (Aside.of_all (G := fun _ => False) hb0) (sl_in hs) (fun h => h)
  obtain ⟨ya, yn, yc, hy, hys⟩ := upto_sl hs1 rfl (show m ≤ b.length by omega)
  have hyn : yn = m := by
    obtain ⟨_, _, he, _⟩ := id hys
    injection he with _ he _
    rw [he, iz_len, List.length_take]; omega
  subst hyn
  rw [take_min b hm] at hys
  have hmn : min (b.length : Int) 4096 = (yn : Int) := by omega
  have HR1 := Lib.hid hr1
  have HB0 := Lib.hid hb0
  have HX0 := Lib.hid hx
  have HSZ := Lib.hid hsz
  have HS := Lib.hid hs
  have HS1 := Lib.hid hs1
  have HY := Lib.hid hys
  have HM := Lib.hid hm
  have HEN := Lib.hid hE
  have HG := Lib.hid hg
  have HBL := Lib.hid hl
  have HLT := Lib.hid hlt
  have HSF := Lib.hid hsf
  have HXS := Lib.hid hXs
  clear hr hr1 hb0 hx hsz hs hs1 hys hm hE hg hl hlt hsf hXs
  go_enter Tryz.func25, Tryz.ntmps25
  go_wp2_with fail
  go_region
  clear hW hy hmn
  have hcv : (convert 28 28 (.slice (some ⟨W.heap.size, 0, none⟩) 4 4)).run Tryz.prog (W.alloc (.cells #[.int .u8 13, .int .u8 10, .int .u8 13, .int .u8 10] 5)).drew = .ok (.slice (some ⟨W.heap.size, 0, none⟩) 4 4) (W.alloc (.cells #[.int .u8 13, .int .u8 10, .int .u8 13, .int .u8 10] 5 (4, 5))).drew :=
    Lib.run_convert_bytes_const (P := Tryz.prog) W.drew 28 5 #[.int .u8 13, .int .u8 10, .int .u8 13, .int .u8 10] 4 4 Tryz.underlying28 Tryz.underlying5
  have hb2 : Below W.heap.size W (W.alloc (.cells #[.int .u8 13, .int .u8 10, .int .u8 13, .int .u8 10] 5 (4, 5))).drew := ((Below.refl _ _).alloc (Nat.le_refl _) _).drew
  have hse : Sl (W.alloc (.cells #[.int .u8 13, .int .u8 10, .int .u8 13, .int .u8 10] 5 (4, 5))).drew W.heap.size (W.heap.size + 1) (.slice (some ⟨W.heap.size, 0, none⟩) 4 4) (iz cc4) := sl_sep4 W.drew (4, 5)
  obtain ⟨W2, hW2⟩ : ∃ W2, (W.alloc (.cells #[.int .u8 13, .int .u8 10, .int .u8 13, .int .u8 10] 5 (4, 5))).drew = W2 := ⟨_, rfl⟩
  rw [hW2] at hb2 hse
  have HB2 := Lib.hid (HB0.out.trans (hb2.mono (by have := HSZ.out; omega)))
  have HX2 := Lib.hid (HX0.out.below (by simp [zI]) hb2)
  have HW2 := Lib.hid hb2
  have HR2 := Lib.hid (HR1.out.below hb2)
  have HI := Lib.hid (index_any (b.take 4096) (sl_apart HY.out (Aside.of_all (G := fun _ => False) hb2) (by
    rcases sl_in HY.out with e | e
    · exact .inl e
    · exact .inr e) (fun h => h)) hse ((HEN.out.below (HB2.out.mono HEN.out.size)).env) (by rw [List.length_take]; omega))
  rw [idx_endI] at HI
  clear c0 c1 c2 c3 c4 c5 c6 c7 c8 cz hb2 hse
  go_wp2_with fail
  clear hW2 hcv
  refine HI.out.mono ?_; rintro e w3 ⟨rfl, hb3⟩
  have HB3 := Lib.hid (HB2.out.trans (hb3.mono HB2.out.size))
  have HBW := Lib.hid (HW2.out.trans (hb3.mono HW2.out.size))
  have HX3 := Lib.hid (HX2.out.below (by simp [zI]) hb3)
  have HR3 := Lib.hid (HR2.out.below hb3)
  obtain ⟨c0, c1, c2, c3, c4, c5, c6, c7, c8⟩ := HR3.out.c.nine
  have cz := HR3.out.c.fz
  obtain ⟨z0', z1, z2, z3, z4, z5, z6⟩ := HX3.out.seven
  have zz := HX3.out.fz
  clear hb3 HI HR2 HX2 HB2
  cases he : endL b with
  | none =>
    have e1 : endI b = -1 := by unfold endI; rw [he]
    rw [e1]
    by_cases hl4 : 4096 < b.length
    · have t1 : (yn : Int) < (b.length : Int) := by have := HM.out; omega
      have HONE := Lib.hid (show oneH b = some (sta 431, 0) by unfold oneH; rw [he]; exact if_pos hl4)
      clear e1
      go_wp2_with fail
      clear z0' z1 z2 z3 z4 z5 z6 zz c0 c1 c2 c3 c4 c5 c6 c7 c8 cz
      have HK := Lib.hid (cel_put [.int .i64 431, .string ⟨#[]⟩, .string ⟨#[]⟩, .int .i64 0, .slice none 0 0, .slice none 0 0, .bool false] HX3.out rfl)
      have HBf := Lib.hid (below_putL HB3.out (Nat.le_refl _) HB3.out.size 0 [.int .i64 431, .string ⟨#[]⟩, .string ⟨#[]⟩, .int .i64 0, .slice none 0 0, .slice none 0 0, .bool false])
      have HRf := Lib.hid (HR3.out.aside (aside_putL (q := w.heap.size) w3 0 [.int .i64 431, .string ⟨#[]⟩, .string ⟨#[]⟩, .int .i64 0, .slice none 0 0, .slice none 0 0, .bool false]) (by have := HLT.out; omega) (fun x hx e => by have := HSF.out x hx; omega))
      have HSf := Lib.hid (sl_apart2 HS.out (Aside.of_all (G := fun _ => False) HBf.out) (fun h => h))
      obtain ⟨m0, m1, m2, m3, m4, m5, m6⟩ := HK.out.seven
      simp only [putL, Nat.zero_add, Nat.reduceAdd] at HBf HRf HSf m0 m1 m2 m3 m4 m5 m6
      refine bodyPost_ret (v := .tuple #[.agg #[.int .i64 431, .string ⟨#[]⟩, .string ⟨#[]⟩, .int .i64 0, .slice none 0 0, .slice none 0 0, .bool false], .bool true]) (by simp [results, Tryz.results25, go_sem, m0, m1, m2, m3, m4, m5, m6]) rfl (next_told (st := 431) HONE.out HBf.out HRf.out HSf.out HXS.out)
    · have t1 : ¬ (yn : Int) < (b.length : Int) := by have := HM.out; omega
      have HONE := Lib.hid (show oneH b = none by unfold oneH; rw [he]; exact if_neg hl4)
      clear e1
      go_wp2_with fail
      clear z0' z1 z2 z3 z4 z5 z6 zz c0 c1 c2 c3 c4 c5 c6 c7 c8 cz
      have HK := Lib.hid (cel_put [.int .i64 0, .string ⟨#[]⟩, .string ⟨#[]⟩, .int .i64 0, .slice none 0 0, .slice none 0 0, .bool false] HX3.out rfl)
      have HBf := Lib.hid (below_putL HB3.out (Nat.le_refl _) HB3.out.size 0 [.int .i64 0, .string ⟨#[]⟩, .string ⟨#[]⟩, .int .i64 0, .slice none 0 0, .slice none 0 0, .bool false])
      have HRf := Lib.hid (HR3.out.aside (aside_putL (q := w.heap.size) w3 0 [.int .i64 0, .string ⟨#[]⟩, .string ⟨#[]⟩, .int .i64 0, .slice none 0 0, .slice none 0 0, .bool false]) (by have := HLT.out; omega) (fun x hx e => by have := HSF.out x hx; omega))
      have HSf := Lib.hid (sl_apart2 HS.out (Aside.of_all (G := fun _ => False) HBf.out) (fun h => h))
      obtain ⟨m0, m1, m2, m3, m4, m5, m6⟩ := HK.out.seven
      simp only [putL, Nat.zero_add, Nat.reduceAdd] at HBf HRf HSf m0 m1 m2 m3 m4 m5 m6
      refine bodyPost_ret (v := .tuple #[.agg #[.int .i64 0, .string ⟨#[]⟩, .string ⟨#[]⟩, .int .i64 0, .slice none 0 0, .slice none 0 0, .bool false], .bool false]) (by simp [results, Tryz.results25, go_sem, m0, m1, m2, m3, m4, m5, m6]) rfl (next_wait HONE.out HBf.out HRf.out HXS.out)
  | some k =>
    have hkb := endL_bound he
    obtain ⟨j, rfl⟩ : ∃ j, k = j + 4 := ⟨k - 4, by omega⟩
    have e1 : endI b = (j : Int) := by unfold endI; rw [he]; simp only; omega
    rw [e1]
    obtain ⟨xa, xn, xc, hxr, hxs⟩ := upto_sl HS1.out rfl hkb.2.1
    rw [show ((j + 4 : Nat) : Int) = (j : Int) + 4 by omega] at hxr
    have hb03 : Below w.heap.size w w3 := HB3.out
    obtain ⟨X0, hX0⟩ : ∃ X0, askH (b.take (j + 4)) = X0 := ⟨_, rfl⟩
    have hxl : (b.take (j + 4)).length = j + 4 := by rw [List.length_take]; omega
    have HRD := Lib.hid (read_any (b.take (j + 4)) (by
      have h8 := sl_apart2 hxs (Aside.of_all (G := fun _ => False) HBW.out) (fun h => h)
      rcases sl_in h8 with e | e
      · exact h8.wide (Nat.zero_le _) (by omega)
      · exfalso
        have := congrArg List.length e
        rw [iz_len, hxl] at this
        simp at this) ((HEN.out.below (HB3.out.mono HEN.out.size)).env) (by omega))
    rw [hX0, hxl] at HRD
    unfold ReadPost at HRD
    obtain ⟨st, n, h'⟩ := X0
    simp only at HRD
    obtain ⟨fv, hfv⟩ : ∃ x : Int, (if st = 200 then ((j + 4 : Nat) : Int) else 0) = x := ⟨_, rfl⟩
    obtain ⟨tv, htv⟩ : ∃ x : Int, (if st = 200 then ((j + 4 + n : Nat) : Int) else 0) = x := ⟨_, rfl⟩
    rw [hfv, htv] at HRD
    have HFV := Lib.hid (And.intro hfv htv)
    have HE := Lib.hid he
    have HX0' := Lib.hid hX0
    have HKB := Lib.hid hkb
    have hj4 : (j : Int) ≤ 4092 := by omega
    clear hfv htv he e1 hkb hxs hxl hX0 hb03
    go_wp2_with fail
    refine HRD.out.mono ?_; rintro e w4 ⟨qs, rfl, ho, hb4⟩
    obtain ⟨qa, qc, rfl⟩ := ho.shape
    have hb5 : Below w4.heap.size w4 (w4.alloc (.cells #[.string (bs h'.m), .string (bs h'.t), .int .i64 h'.v, .slice qa h'.fs.length qc, .int .i64 fv, .int .i64 tv] 47)) := (Below.refl _ _).alloc (Nat.le_refl _) _
    have hq5 : Cel (w4.alloc (.cells #[.string (bs h'.m), .string (bs h'.t), .int .i64 h'.v, .slice qa h'.fs.length qc, .int .i64 fv, .int .i64 tv] 47)) w4.heap.size [.string (bs h'.m), .string (bs h'.t), .int .i64 h'.v, .slice qa h'.fs.length qc, .int .i64 fv, .int .i64 tv] := cel_newA w4 [.string (bs h'.m), .string (bs h'.t), .int .i64 h'.v, .slice qa h'.fs.length qc, .int .i64 fv, .int .i64 tv] 47
    obtain ⟨w5, hw5⟩ : ∃ w5, w4.alloc (.cells #[.string (bs h'.m), .string (bs h'.t), .int .i64 h'.v, .slice qa h'.fs.length qc, .int .i64 fv, .int .i64 tv] 47) = w5 := ⟨_, rfl⟩
    rw [hw5] at hb5 hq5
    have hb35 := hb4.trans (hb5.mono hb4.size)
    have HB5 := Lib.hid (HB3.out.trans (hb35.mono HB3.out.size))
    have HX5 := Lib.hid (HX3.out.below (by simp [zI]) hb35)
    have HR5 := Lib.hid (HR3.out.below hb35)
    have HO5 := Lib.hid (ho.below hb5)
    have HQ5 := Lib.hid hq5
    have HS5 := Lib.hid (show w3.heap.size ≤ w4.heap.size from hb4.size)
    have HS3 := Lib.hid (HX3.out.lt (by simp [zI]))
    clear c0 c1 c2 c3 c4 c5 c6 c7 c8 cz z0' z1 z2 z3 z4 z5 z6 zz hb4 hb5 hb35 ho hq5 HRD hxr
    obtain ⟨c0, c1, c2, c3, c4, c5, c6, c7, c8⟩ := HR5.out.c.nine
    have cz := HR5.out.c.fz
    obtain ⟨q0, q1, q2, q3, q4, q5⟩ := HQ5.out.six
    by_cases hst : st = 200
    · subst hst
      have hA : Aside (fun x => x = r) w5 ((putL w5 r 3 [.string (bs h'.m), .string (bs h'.t), .int .i64 h'.v, .slice qa h'.fs.length qc, .int .i64 fv, .int .i64 tv]).setCell ⟨r, 1, none⟩ (nxB r)) := (aside_putL w5 3 [.string (bs h'.m), .string (bs h'.t), .int .i64 h'.v, .slice qa h'.fs.length qc, .int .i64 fv, .int .i64 tv]).trans (Aside.setCell _ (p := ⟨r, 1, none⟩) _ rfl)
      have hC : Cel ((putL w5 r 3 [.string (bs h'.m), .string (bs h'.t), .int .i64 h'.v, .slice qa h'.fs.length qc, .int .i64 fv, .int .i64 tv]).setCell ⟨r, 1, none⟩ (nxB r)) r (cR r (nxB r) (.slice va b.length vc) h' (.slice qa h'.fs.length qc) fv tv) := (cel_putL (q := r) [.string (bs h'.m), .string (bs h'.t), .int .i64 h'.v, .slice qa h'.fs.length qc, .int .i64 fv, .int .i64 tv] [.string (bs h.m), .string (bs h.t), .int .i64 h.v, .slice sa h.fs.length sc, .int .i64 fr, .int .i64 te] [.pointer (some ⟨r, 0, none⟩), nx, .slice va b.length vc] [] rfl HR5.out.c).set (o := 1) (by simp) (nxB r)
      obtain ⟨hf1, hf2⟩ := HFV.out
      rw [if_pos rfl] at hf1 hf2
      have hrl := HLT.out
      have hsz := HSZ.out
      have hs3 := HS3.out
      have hs5 := HS5.out
      have hq5 := HQ5.out.lt (by simp)
      have hb5s := HB5.out.size
      have hfit := ask_fits (hb := b.take (j + 4)) (by rw [List.length_take]; have := HKB.out; omega)
      rw [HX0'.out] at hfit
      obtain ⟨w6, hw6⟩ : ∃ w6, (putL w5 r 3 [.string (bs h'.m), .string (bs h'.t), .int .i64 h'.v, .slice qa h'.fs.length qc, .int .i64 fv, .int .i64 tv]).setCell ⟨r, 1, none⟩ (nxB r) = w6 := ⟨_, rfl⟩
      have HN := Lib.hid HR5.out.lo
      have HR6 : Rb w6 N r (nxB r) (.slice va b.length vc) b h' (.slice qa h'.fs.length qc) ((j + 4 : Nat) : Int) ((j + 4 + n : Nat) : Int) := by
        rw [← hw6]
        refine ⟨by rw [hf1, hf2]; exact hC, row_base (row_aside HO5.out hA fun x hx e => by have := (HO5.out.lt x hx).1; omega) (by have := HN.out; omega), by have : h'.fs.length ≤ 900000 := hfit.1.1; omega, fun x hx => by have := (HO5.out.lt x hx).1; omega, .inr ⟨rfl, j + 4, n, HE.out, HX0'.out, rfl, rfl⟩, HN.out⟩
      rw [hw6] at hA
      have HB6 := Lib.hid ((Aside.of_all HB5.out (G := fun x => x = r)).trans hA)
      have HX6 := Lib.hid (HX5.out.aside (by simp [zI]) hA (by omega))
      have hs6 := hA.size
      have HBD := Lib.hid (body_any HR6 rfl HE.out HX0'.out (sl_apart2 HS.out HB6.out HG.out) HG.out (HEN.out.aside HB6.out fun x hx e => by have := HN.out; omega) HBL.out (X := fun x => x = w.heap.size ∨ X x) (fun x hx => by rcases hx with hx | hx; omega; have := hX x hx; omega) (fun x hx e => by
        have h7 := (HO5.out.lt x hx).1
        rcases e with e | e
        · omega
        · have := hX x e; omega))
      simp only [putL, Nat.reduceAdd, nxB] at hw6
      obtain ⟨_, d1, _⟩ := HR6.c.nine
      unfold nxB at d1
      clear hA hC hf1 hf2 hrl hsz hs3 hs5 hb5s hfit HR6 hq5
      go_wp2_with fail
      clear hw6 d1 c0 c1 c2 c3 c4 c5 c6 c7 c8 cz q0 q1 q2 q3 q4 q5
      refine HBD.out.mono ?_
      rintro e w7 ⟨ha7, hcase⟩
      have hrl := HLT.out
      have HX7 := Lib.hid (HX6.out.aside (by simp [zI]) ha7 (by omega))
      obtain ⟨z0', z1, z2, z3, z4, z5, z6⟩ := HX7.out.seven
      have zz := HX7.out.fz
      have HA7 := Lib.hid (HB6.out.trans (ha7.mono fun _ _ h => h))
      have HS6 := Lib.hid (show w.heap.size < w6.heap.size from HX6.out.lt (by simp [zI]))
      clear ha7 hs6
      rcases hcase with ⟨ho, rfl, hr7⟩ | ⟨⟨⟨pst, ph, pb, pk⟩, ps, pbv⟩, nn, kv', ho, rfl, hp, hr7, hs7⟩
      · have HONE := Lib.hid ho
        have HR7 := Lib.hid hr7
        clear ho hr7 hrl
        simp only [zI, List.toArray]
        go_wp2_with fail
        clear z0' z1 z2 z3 z4 z5 z6 zz
        have HK := Lib.hid (cel_put [.int .i64 0, .string ⟨#[]⟩, .string ⟨#[]⟩, .int .i64 0, .slice none 0 0, .slice none 0 0, .bool false] HX7.out rfl)
        have HAf := Lib.hid (HA7.out.onto (aside_putL (q := w.heap.size) w7 0 [.int .i64 0, .string ⟨#[]⟩, .string ⟨#[]⟩, .int .i64 0, .slice none 0 0, .slice none 0 0, .bool false]) (fun x hx _ e => by omega))
        obtain ⟨nx', h'', s'', fr', te', hR, hRX⟩ := HR7.out
        have HRf := Lib.hid (hR.aside (aside_putL (q := w.heap.size) w7 0 [.int .i64 0, .string ⟨#[]⟩, .string ⟨#[]⟩, .int .i64 0, .slice none 0 0, .slice none 0 0, .bool false]) (by have := HLT.out; omega) (fun x hx e => hRX x hx (.inl e)))
        obtain ⟨m0, m1, m2, m3, m4, m5, m6⟩ := HK.out.seven
        simp only [putL, Nat.zero_add, Nat.reduceAdd] at HAf HRf m0 m1 m2 m3 m4 m5 m6
        exact bodyPost_ret (v := .tuple #[.agg #[.int .i64 0, .string ⟨#[]⟩, .string ⟨#[]⟩, .int .i64 0, .slice none 0 0, .slice none 0 0, .bool false], .bool false]) (by simp [results, Tryz.results25, go_sem, m0, m1, m2, m3, m4, m5, m6]) rfl ⟨HAf.out, .inl ⟨HONE.out, rfl, _, _, _, _, _, HRf.out, fun x hx e => hRX x hx (.inr e)⟩⟩
      · obtain ⟨pa, pc, hps⟩ := hp.f.shape
        obtain ⟨ba, bc, hpb⟩ := hp.b.shape
        simp only at hps hpb
        subst hps; subst hpb
        have HONE := Lib.hid ho
        have HR7 := Lib.hid hr7
        have HP7 := Lib.hid hp
        have HS7 := Lib.hid hs7
        clear ho hr7 hrl hp hs7
        simp only [vI]
        go_wp2_with fail
        clear z0' z1 z2 z3 z4 z5 z6 zz
        have hs6 := HS6.out
        have HK := Lib.hid (cel_put [.int .i64 pst, .string (bs ph.m), .string (bs ph.t), .int .i64 ph.v, .slice pa ph.fs.length pc, .slice ba pb.length bc, .bool pk] HX7.out rfl)
        have HAf := Lib.hid (HA7.out.onto (aside_putL (q := w.heap.size) w7 0 [.int .i64 pst, .string (bs ph.m), .string (bs ph.t), .int .i64 ph.v, .slice pa ph.fs.length pc, .slice ba pb.length bc, .bool pk]) (fun x hx _ e => by omega))
        obtain ⟨nx', h'', s'', fr', te', hR, hRX⟩ := HR7.out
        have HRf := Lib.hid (hR.aside (aside_putL (q := w.heap.size) w7 0 [.int .i64 pst, .string (bs ph.m), .string (bs ph.t), .int .i64 ph.v, .slice pa ph.fs.length pc, .slice ba pb.length bc, .bool pk]) (by have := HLT.out; omega) (fun x hx e => hRX x hx (.inl e)))
        have HSf := Lib.hid (sl_apart3 HS7.out (aside_putL (q := w.heap.size) w7 0 [.int .i64 pst, .string (bs ph.m), .string (bs ph.t), .int .i64 ph.v, .slice pa ph.fs.length pc, .slice ba pb.length bc, .bool pk]) (by
          rcases sl_in' HS.out with e2 | e2
          · exact .inl (by omega)
          · exact .inr (by rw [e2]; simp)))
        have HPf := Lib.hid ((HP7.out.aside (X' := fun x => x = r ∨ X x) (aside_putL (q := w.heap.size) w7 0 [.int .i64 pst, .string (bs ph.m), .string (bs ph.t), .int .i64 ph.v, .slice pa ph.fs.length pc, .slice ba pb.length bc, .bool pk]) (fun x hx e => .inr (.inl e)) (fun x hx e => e.elim .inl fun e => .inr (.inr e))).base (Nat.le_refl _) (show w.heap.size ≤ w6.heap.size by omega))
        obtain ⟨m0, m1, m2, m3, m4, m5, m6⟩ := HK.out.seven
        simp only [putL, Nat.zero_add, Nat.reduceAdd] at HAf HRf HSf HPf m0 m1 m2 m3 m4 m5 m6
        exact bodyPost_ret (v := .tuple #[.agg #[.int .i64 pst, .string (bs ph.m), .string (bs ph.t), .int .i64 ph.v, .slice pa ph.fs.length pc, .slice ba pb.length bc, .bool pk], .bool true]) (by simp [results, Tryz.results25, go_sem, m0, m1, m2, m3, m4, m5, m6]) rfl ⟨HAf.out, .inr ⟨_, nn, kv', HONE.out, rfl, HPf.out, ⟨_, _, _, _, _, HRf.out, fun x hx e => hRX x hx (.inr e)⟩, HSf.out⟩⟩
    · have t2 : (st == 200) = false := by simpa using hst
      obtain ⟨z0', z1, z2, z3, z4, z5, z6⟩ := HX5.out.seven
      have zz := HX5.out.fz
      have HONE := Lib.hid (show oneH b = some (sta st, 0) by unfold oneH; rw [HE.out]; simp only; rw [HX0'.out]; exact if_pos hst)
      clear c0 c1 c2 c3 c4 c5 c6 c7 c8 cz q0 q1 q2 q3 q4 q5
      go_wp2_with fail
      clear z0' z1 z2 z3 z4 z5 z6 zz
      have HK := Lib.hid (cel_put [.int .i64 st, .string ⟨#[]⟩, .string ⟨#[]⟩, .int .i64 0, .slice none 0 0, .slice none 0 0, .bool false] HX5.out rfl)
      have HBf := Lib.hid (below_putL HB5.out (Nat.le_refl _) HB5.out.size 0 [.int .i64 st, .string ⟨#[]⟩, .string ⟨#[]⟩, .int .i64 0, .slice none 0 0, .slice none 0 0, .bool false])
      have HRf := Lib.hid (HR5.out.aside (aside_putL (q := w.heap.size) w5 0 [.int .i64 st, .string ⟨#[]⟩, .string ⟨#[]⟩, .int .i64 0, .slice none 0 0, .slice none 0 0, .bool false]) (by have := HLT.out; omega) (fun x hx e => by have := HSF.out x hx; omega))
      have HSf := Lib.hid (sl_apart2 HS.out (Aside.of_all (G := fun _ => False) HBf.out) (fun h => h))
      obtain ⟨m0, m1, m2, m3, m4, m5, m6⟩ := HK.out.seven
      simp only [putL, Nat.zero_add, Nat.reduceAdd] at HBf HRf HSf m0 m1 m2 m3 m4 m5 m6
      refine bodyPost_ret (v := .tuple #[.agg #[.int .i64 st, .string ⟨#[]⟩, .string ⟨#[]⟩, .int .i64 0, .slice none 0 0, .slice none 0 0, .bool false], .bool true]) (by simp [results, Tryz.results25, go_sem, m0, m1, m2, m3, m4, m5, m6]) rfl (next_told (st := st) HONE.out HBf.out HRf.out HSf.out HXS.out)
end Go.Proofs.YtkoohdacneflfaaGreatDoor

/-
  The next thing to do; end; appends to what is kept.
-/
namespace Go.Proofs.YtkoohdacneflfaaGreatDoor
open Go.RowKit Go.Shelf
set_option linter.unusedVariables false
set_option linter.unusedSimpArgs false
set_option maxRecDepth 100000
theorem run_store_nilF {P : Program} {w : World} {a : Addr} {m : Mode} : (store a .nilFunc m).run P w = stored P w a .nilFunc m := run_store P w a _ m rfl
attribute [local go_sem] run_store_func run_store_nilF

theorem Md.fn {r : Nat} {b : List UInt8} {nx : Value} {h : Hd} {fr te : Int} (hm : Md r b nx h fr te) : ∃ f x y, nx = .func f x y := by
  rcases hm with hm | ⟨hm, _⟩
  · exact ⟨_, _, _, hm⟩
  · exact ⟨_, _, _, hm⟩

def NoX : Nat → Prop := fun _ => False
/-- What the next thing to do tells, whichever it is. -/
theorem next_any {w : World} {N r g : Nat} {nx kv s : Value} {b : List UInt8} {h : Hd} {fr te : Int} (hr : Rb w N r nx kv b h s fr te) (hs : Sl w g (g + 1) kv (iz b)) (hg : g ≠ r) (hE : EnvN w N) (hl : b.length ≤ 900000) :
    (nx = .func (.func 25) #[.pointer (some ⟨r, 0, none⟩)] #[] ∧ Calls Tryz.prog 25 #[.pointer (some ⟨r, 0, none⟩)] w (NextPost w N r g NoX kv b)) ∨
    (nx = .func (.func 35) #[.pointer (some ⟨r, 0, none⟩)] #[] ∧ Calls Tryz.prog 35 #[.pointer (some ⟨r, 0, none⟩)] w (NextPost w N r g NoX kv b)) := by
  rcases id hr.md with hm | ⟨hm, k, n, h1, h2, h3, h4⟩
  · exact .inl ⟨hm, head_any hr hs hg hE hl (X := NoX) (fun x hx => hx.elim) (fun x _ hx => hx.elim)⟩
  · subst h3
    subst h4
    exact .inr ⟨hm, body_any hr rfl h1 h2 hs hg hE hl (X := NoX) (fun x hx => hx.elim) (fun x _ hx => hx.elim)⟩

/-- The cells of a reader that is over. -/
def cOver (r : Nat) : List Value := [.pointer (some ⟨r, 0, none⟩), .nilFunc, .slice none 0 0, .string ⟨#[]⟩, .string ⟨#[]⟩, .int .i64 0, .slice none 0 0, .int .i64 0, .int .i64 0]
set_option maxHeartbeats 1000000 in
theorem end_any {w : World} {N r : Nat} {nx kv s : Value} {b : List UInt8} {h : Hd} {fr te : Int} (hr : Rb w N r nx kv b h s fr te) :
    Calls Tryz.prog 27 #[.pointer (some ⟨r, 0, none⟩)] w fun e w' => e = .returned (.tuple #[]) ∧ Cel w' r (cOver r) ∧ Aside (fun k => k = r) w w' := by
  obtain ⟨c0, c1, c2, c3, c4, c5, c6, c7, c8⟩ := hr.c.nine
  have cz := hr.c.fz
  have hK : Cel (putL w r 1 [.nilFunc, .slice none 0 0, .string ⟨#[]⟩, .string ⟨#[]⟩, .int .i64 0, .slice none 0 0, .int .i64 0, .int .i64 0]) r (cOver r) := cel_putL (q := r) [.nilFunc, .slice none 0 0, .string ⟨#[]⟩, .string ⟨#[]⟩, .int .i64 0, .slice none 0 0, .int .i64 0, .int .i64 0] [nx, kv, .string (bs h.m), .string (bs h.t), .int .i64 h.v, s, .int .i64 fr, .int .i64 te] [.pointer (some ⟨r, 0, none⟩)] [] rfl hr.c
  have HK := Lib.hid hK
  have HA := Lib.hid (aside_putL (q := r) w 1 [.nilFunc, .slice none 0 0, .string ⟨#[]⟩, .string ⟨#[]⟩, .int .i64 0, .slice none 0 0, .int .i64 0, .int .i64 0])
  clear hr hK
  go_enter Tryz.func27, Tryz.ntmps27
  go_wp2_with fail
  simp only [putL, Nat.reduceAdd] at HK HA
  go_end0
  exact ⟨rfl, HK.out, HA.out⟩

/-- append to what is kept, and where it lies. -/
theorem run_appBl {w : World} (B : Nat) (v xv : Value) (l l' : List UInt8) {lo hi : Nat} (hown : OwnB w B v l) (hx : Sl w lo hi xv (iz l')) (hb : l.length + l'.length ≤ 1000000) (hB : B ≤ w.heap.size) :
    ∃ a' c' w', (Builtin.append_ #[28, 28] 28 #[v, xv]).run Tryz.prog w = .ok (.slice a' (l.length + l'.length) c') w' ∧ OwnB w' B (.slice a' (l.length + l'.length) c') (l ++ l') ∧ Aside (fun b => v.ownBlock = some b) w w' ∧
      ((Value.slice a' (l.length + l'.length) c').ownBlock = v.ownBlock ∨ (Value.slice a' (l.length + l'.length) c').ownBlock = some w.heap.size) := by
  rcases Nat.eq_zero_or_pos l'.length with h0 | h0
  · have : l' = [] := List.eq_nil_of_length_eq_zero h0
    subst this
    obtain ⟨ad, c, rfl, _⟩ := hx
    have h1 := run_appB0 B v l ad c hown
    obtain ⟨a', c', rfl⟩ := hown.shape
    exact ⟨a', c', w, h1, by rw [List.append_nil]; exact hown, Aside.refl _ _, .inl rfl⟩
  · obtain ⟨v', w', h1, h2, h3, h4⟩ := run_appB B v xv l l' hown hx h0 hb hB
    obtain ⟨a', c', hv⟩ := h2.shape
    rw [List.length_append] at hv
    subst hv
    exact ⟨a', c', w', h1, h2, aside_grown h3, h4⟩
theorem OwnB.slg {w : World} {B : Nat} {v : Value} {l : List UInt8} (h : OwnB w B v l) (d : Nat) : ∃ g, (v.ownBlock = some g ∨ (g = d ∧ l = [])) ∧ Sl w g (g + 1) v (iz l) := by
  rcases h with ⟨rfl, rfl⟩ | ⟨g, cap, fz, rfl, hB, hl, hm, hz, hg⟩
  · exact ⟨d, .inr ⟨rfl, rfl⟩, ⟨none, 0, rfl, by simp [iz], fun _ => rfl, fun h => by simp [iz] at h⟩⟩
  · refine ⟨g, .inl rfl, ?_⟩
    have hs := OwnB.sl (B := B) (.inr ⟨g, cap, fz, rfl, hB, hl, hm, hz, hg⟩ : OwnB w B _ l)
    obtain ⟨a, c, e, h1, h2, h3⟩ := hs
    injection e with e1 e2 e3
    subst e1; subst e3
    refine ⟨_, _, by rw [iz_len], h1, h2, fun h0 => ?_⟩
    obtain ⟨gg, off, e, _, _, h6⟩ := h3 h0
    injection e with e
    injection e with e1 e2 e3
    subst e1; subst e2
    exact ⟨g, 0, rfl, Nat.le_refl _, by omega, h6⟩
end Go.Proofs.YtkoohdacneflfaaGreatDoor

/-
  The landed reader: Push.
-/
namespace Go.Proofs.YtkoohdacneflfaaGreatDoor
open Go.RowKit Go.Shelf
set_option linter.unusedVariables false
set_option linter.unusedSimpArgs false
set_option maxRecDepth 100000

/-- What Push tells. -/
def PushPost (w : World) (N : Nat) (o : Option Nat) (r : Nat) (L : List UInt8) (e : Ending) (w' : World) : Prop :=
  ∃ v ps o', e = .returned (.tuple #[v, .int .i64 0]) ∧ ps.map (·.x) = (runH L).1 ∧ TI w' N w.heap.size (fun k => k = r ∨ o' = some k) v ps ∧ Rk w' N o' r (runH L).2.1 (runH L).2.2 ∧ (∀ g, o' = some g → o = some g ∨ w.heap.size ≤ g) ∧ Aside (fun k => k = r ∨ o = some k) w w'

/-- How Push's loop stands. -/
structure PuI (w : World) (N r g : Nat) (o : Option Nat) (kv2 : Value) (L : List UInt8) (wr : World) (vl : Value) (ps : List Rp) (b : List UInt8) (out : Bool) : Prop where
  st : (out = false ∧ ∃ kv, Rx wr N r NoX kv b ∧ Sl wr g (g + 1) kv (iz b) ∧ (ps = [] → kv = kv2 ∧ b = L)) ∨ (out = true ∧ b = [] ∧ ps ≠ [] ∧ Cel wr r (cOver r))
  ti : TI wr N w.heap.size (fun k => k = r ∨ kv2.ownBlock = some k) vl ps
  kp : OwnB wr N kv2 L
  run : runH L = if out then (ps.map (·.x), [], true) else (ps.map (·.x) ++ (runH b).1, (runH b).2)
  len : 4 * ps.length + b.length ≤ L.length + (if out then 4 else 0)
  le2 : b.length ≤ L.length
  asd : Aside (fun k => k = r ∨ o = some k) w wr
  env : EnvN wr N

/-- What does not change while the loop goes. -/
structure PuC (w : World) (N r g : Nat) (o : Option Nat) (kv2 : Value) (L : List UInt8) : Prop where
  rlt : r < w.heap.size
  lo : N ≤ r
  olt : ∀ k, o = some k → N ≤ k ∧ k ≠ r
  own : ∀ k, kv2.ownBlock = some k → k ≠ r ∧ (o = some k ∨ w.heap.size ≤ k)
  g : kv2.ownBlock = some g ∨ (g = r + 1 ∧ L = [])
  ll : L.length ≤ 900000

section
variable {w wr w' w'' : World} {N r g : Nat} {o : Option Nat} {kv2 vl kv : Value} {L b : List UInt8} {ps : List Rp} {out : Bool} {p : Rp} {n : Nat}
theorem PuC.gr (hc : PuC w N r g o kv2 L) : g ≠ r := by
  rcases hc.g with h | ⟨h, _⟩
  · exact (hc.own g h).1
  · omega
theorem PuC.base (hc : PuC w N r g o kv2 L) (hE : EnvN w N) (ha : Aside (fun k => k = r ∨ o = some k) w w') : EnvN w' N :=
  hE.aside ha fun k hk e => by
    rcases e with e | e
    · have := hc.lo; omega
    · have := (hc.olt k e).1; omega

theorem Rx.aside {X G : Nat → Prop} (h : Rx w N r X kv b) (ha : Aside G w w') (h0 : ¬ G r) (h1 : ∀ (s : Value) (fs : List Fd) k, OwnF w N s fs → s.ownBlock = some k → ¬ G k) : Rx w' N r X kv b := by
  obtain ⟨nx, hd, s, fr, te, hr, hx⟩ := h
  exact ⟨nx, hd, s, fr, te, hr.aside ha h0 fun k hk => h1 s _ k hr.f hk, hx⟩
theorem Rx.below {X : Nat → Prop} (h : Rx w N r X kv b) (hb : Below w.heap.size w w') : Rx w' N r X kv b := h.aside (G := fun _ => False) (Aside.of_all hb) (fun h => h) fun _ _ _ _ _ h => h

/-- Behind an item, and the append of it. -/
theorem PuI.told (hc : PuC w N r g o kv2 L) (h : PuI w N r g o kv2 L wr vl ps b false) (ho : oneH b = some (p.x, n)) (h5 : Aside (fun k => k = r) wr w') (hp : OkI w' N wr.heap.size (fun k => k = r ∨ NoX k) p) (hr : Rx w' N r NoX kv (b.drop n)) (hs : Sl w' g (g + 1) kv (iz (b.drop n))) :
    ∃ a' c' w'', (Builtin.append_ #[32, 32] 32 #[vl, .slice (some ⟨w'.heap.size + 1, 0, none⟩) 1 1]).run Tryz.prog ((w'.alloc (.cells (cI p).toArray 44)).alloc (.cells #[.int .i64 p.x.st, .string (bs p.x.h.m), .string (bs p.x.h.t), .int .i64 p.x.h.v, p.s, p.b, .bool p.x.k] 44)) = .ok (.slice a' (ps.length + 1) c') w'' ∧
      Cel w'' w'.heap.size (cI p) ∧ Rx w'' N r NoX kv (b.drop n) ∧ (lastH p.x = false → PuI w N r g o kv2 L w'' (.slice a' (ps.length + 1) c') (ps ++ [p]) (b.drop n) false) ∧
      (∀ w3, lastH p.x = true → Aside (fun k => k = r) w'' w3 → Cel w3 r (cOver r) → PuI w N r g o kv2 L w3 (.slice a' (ps.length + 1) c') (ps ++ [p]) [] true) := by
  have hrl := hc.rlt
  have hws := h.asd.size
  have h5s := h5.size
  have hlen : 4 * ps.length + b.length ≤ L.length := h.len
  have hps : ps.length ≤ 300000 := by have := hc.ll; omega
  have b6 : Below w'.heap.size w' (w'.alloc (.cells (cI p).toArray 44)) := (Below.refl _ _).alloc (Nat.le_refl _) _
  have hs6 : (w'.alloc (.cells (cI p).toArray 44)).heap.size = w'.heap.size + 1 := by simp
  have hkn : ∀ k, kv2.ownBlock = some k → k < wr.heap.size ∧ k ≠ r := fun k hk => ⟨(h.kp.lt k hk).2, (hc.own k hk).1⟩
  have hT5 : TI w' N w.heap.size (fun k => k = r ∨ kv2.ownBlock = some k) vl ps := h.ti.aside h5 (fun x _ e => .inl e) fun _ _ h => h
  have hK5 : OwnB w' N kv2 L := h.kp.aside h5 fun k hk e => (hkn k hk).2 e
  have hp6 : OkI w' N w.heap.size (fun k => k = r ∨ kv2.ownBlock = some k) p := ⟨hp.f, hp.fl, fun k hk e => by
    rcases e with e | e
    · exact hp.fx k hk (.inl e)
    · exact row_apartB hK5 hp.f (by decide) k e hk, hp.b.mono hws, fun k hk e => by
    rcases e with e | e
    · exact hp.bx k hk (.inl e)
    · have h1 := (hp.b.lt k hk).1
      have h2 := (hkn k e).1
      omega⟩
  have hl6 := hT5.below b6
  obtain ⟨a', c', w2, r1, r2, r3, r4⟩ := ti_add hl6 (hp6.below b6) (by omega) (by omega) (fun k hk => by
    rcases hk with hk | hk
    · omega
    · have := (hkn k hk).1; omega)
  rw [hs6] at r1
  have hq : Cel (w'.alloc (.cells (cI p).toArray 44)) w'.heap.size (cI p) := cel_newA w' (cI p) 44
  have hvl : ∀ k, vl.ownBlock = some k → w.heap.size ≤ k ∧ k < w'.heap.size := hT5.lt
  have hr2 : Rx w2 N r NoX kv (b.drop n) := (hr.below b6).aside r3 (fun e => by have := (hvl r e).1; omega) fun s fs k hf hk e => row_apart hl6.row hf (by decide) k e hk
  have hk2 : OwnB w2 N kv2 L := (hK5.below b6).aside r3 fun k hk e => row_apartB (hK5.below b6) hl6.row (by decide) k hk e
  have hA2 : Aside (fun k => k = r ∨ o = some k) w w2 := ((h.asd.trans (h5.mono fun _ _ e => .inl e)).trans (Aside.of_all b6)).onto r3 fun k hk _ e => by have := (hvl k e).1; omega
  have hE2 : EnvN w2 N := by
    refine h.env.aside (G := fun k => k = r ∨ w.heap.size ≤ k) (((h5.mono fun _ _ e => .inl e).trans (Aside.of_all b6)).trans (r3.mono fun k _ e => .inr (hvl k e).1)) fun k hk e => ?_
    have := hc.lo
    omega
  have hn := one_some ho
  refine ⟨a', c', w2, r1, hq.aside (by simp [cI]) r3 (fun e => by have := (hvl _ e).2; omega), hr2, fun hl => ?_, fun w3 hl h3 hcel => ?_⟩
  · have hst := last_no hl
    have hn4 := hn.2 hst.1
    refine ⟨.inl ⟨rfl, kv, hr2, ?_, fun e => by simp at e⟩, r2, hk2, ?_, ?_, ?_, hA2, hE2⟩
    · refine sl_apart3 (sl_apart3 hs (Aside.of_all (G := fun _ => False) b6) (.inl fun h => h)) r3 ?_
      rcases hc.g with hg | ⟨_, hg⟩
      · exact .inl fun e => row_apartB (hK5.below b6) hl6.row (by decide) g hg e
      · right
        have := h.le2
        rw [hg] at this
        have : b = [] := List.eq_nil_of_length_eq_zero (by simpa using this)
        rw [this]; simp
    · rw [h.run, if_neg (by simp), if_neg (by simp), run_go ho hl, List.map_append, List.append_assoc]
      rfl
    · rw [List.length_append, List.length_singleton, List.length_drop]; simp; omega
    · rw [List.length_drop]; have := h.le2; omega
  · refine ⟨.inr ⟨rfl, rfl, by simp, hcel⟩, r2.aside h3 (fun x _ e => .inl e) fun _ _ h => h, hk2.aside h3 fun k hk e => (hkn k hk).2 e, ?_, ?_, by simp, hA2.trans (h3.mono fun _ _ e => .inl e), hE2.aside h3 fun k hk e => by have := hc.lo; omega⟩
    · rw [h.run, if_neg (by simp), if_pos rfl, run_last ho hl, List.map_append]
      rfl
    · rw [List.length_append, List.length_singleton]; simp; omega
end
end Go.Proofs.YtkoohdacneflfaaGreatDoor

/-
  The landed reader: Push, its end; the walk.
-/
namespace Go.Proofs.YtkoohdacneflfaaGreatDoor
open Go.RowKit Go.Shelf
set_option linter.unusedVariables false
set_option linter.unusedSimpArgs false
set_option maxRecDepth 100000

section
variable {w wr w' w'' : World} {N r g : Nat} {o : Option Nat} {kv2 vl kv : Value} {L b : List UInt8} {ps : List Rp} {out : Bool} {p : Rp} {n : Nat}
theorem PuI.turn (hc : PuC w N r g o kv2 L) (h : PuI w N r g o kv2 L wr vl ps b false) (h5 : Aside (fun k => k = r) wr w') (hr : Rx w' N r NoX kv b) (hs : Sl w' g (g + 1) kv (iz b)) (he : ps = [] → kv = kv2 ∧ b = L) : PuI w N r g o kv2 L w' vl ps b false :=
  ⟨.inl ⟨rfl, kv, hr, hs, he⟩, h.ti.aside h5 (fun x _ e => .inl e) fun _ _ h => h, h.kp.aside h5 fun k hk e => (hc.own k hk).1 e, h.run, h.len, h.le2, h.asd.trans (h5.mono fun _ _ e => .inl e), h.env.aside h5 fun k hk e => by have := hc.lo; omega⟩

/-- Nothing is whole. -/
theorem PuI.fin0 (hc : PuC w N r g o kv2 L) (h : PuI w N r g o kv2 L wr vl [] b false) (hn : oneH b = none) : PushPost w N o r L (.returned (.tuple #[vl, .int .i64 0])) wr := by
  rcases h.st with ⟨_, kv, ⟨nx, hd, s, fr, te, hr, _⟩, hs, he⟩ | ⟨e, _⟩
  · obtain ⟨rfl, rfl⟩ := he rfl
    have hrun := run_none hn
    refine ⟨vl, [], kv.ownBlock, rfl, by rw [hrun]; rfl, h.ti, ⟨kv, by rw [hrun]; exact h.kp, rfl, fun e => (hc.own r e).1 rfl, hc.lo, .inl ⟨by rw [hrun], nx, hd, s, fr, te, by rw [hrun]; exact hr⟩⟩, fun k hk => (hc.own k hk).2, h.asd⟩
  · cases e
/-- Items were told, and the next one is not whole. -/
theorem PuI.fin1 (hc : PuC w N r g o kv2 L) (h : PuI w N r g o kv2 L wr vl ps b false) (hn : oneH b = none) : ∃ a c nc na w2, wr.cell? ⟨r, 2, none⟩ = some (.slice a b.length c) ∧ (Builtin.append_ #[28, 28] 28 #[.slice none 0 0, .slice a b.length c]).run Tryz.prog wr = .ok (.slice na b.length nc) w2 ∧ w2.cell? ⟨r, 2, none⟩ = some (.slice a b.length c) ∧ w2.frozen? ⟨r, 2, none⟩ = false ∧
    PushPost w N o r L (.returned (.tuple #[vl, .int .i64 0])) (w2.setCell ⟨r, 2, none⟩ (.slice na b.length nc)) := by
  rcases h.st with ⟨_, kv, ⟨nx, hd, s, fr, te, hr, _⟩, hs, he⟩ | ⟨e, _⟩
  · obtain ⟨a, c, rfl⟩ := sl_shape hs rfl
    have hrl := hc.rlt
    have hws := h.asd.size
    obtain ⟨na, nc, w2, r1, r2, r3, r4⟩ := run_appBl wr.heap.size (.slice none 0 0) (.slice a b.length c) [] b (OwnB.nil _ _) hs (by have := h.le2; have := hc.ll; simp; omega) (Nat.le_refl _)
    simp only [List.length_nil, Nat.zero_add, List.nil_append] at r1 r2 r4
    have hb2 : Below wr.heap.size wr w2 := r3.below fun x hx => ⟨hx, fun e => by cases e⟩
    have hr2 := hr.below hb2
    have hst : Aside (fun k => k = r) w2 (w2.setCell ⟨r, 2, none⟩ (.slice na b.length nc)) := Aside.setCell w2 (p := ⟨r, 2, none⟩) _ rfl
    have hC : Cel (w2.setCell ⟨r, 2, none⟩ (.slice na b.length nc)) r (cR r nx (.slice na b.length nc) hd s fr te) := hr2.c.set (o := 2) (by simp [cR]) _
    have hrun := run_none hn
    have hR := h.run
    rw [if_neg (by simp), hrun, List.append_nil] at hR
    have hnew : ∀ k, (Value.slice na b.length nc).ownBlock = some k → k = wr.heap.size := fun k hk => by
      rcases r4 with r4 | r4
      · rw [r4] at hk; cases hk
      · rw [r4] at hk; injection hk with hk; exact hk.symm
    have hA : Aside (fun k => k = r ∨ o = some k) w (w2.setCell ⟨r, 2, none⟩ (.slice na b.length nc)) := (h.asd.trans (Aside.of_all hb2)).trans (hst.mono fun _ _ e => .inl e)
    have hT : TI (w2.setCell ⟨r, 2, none⟩ (.slice na b.length nc)) N w.heap.size (fun k => k = r ∨ (Value.slice na b.length nc).ownBlock = some k) vl ps :=
      ((h.ti.aside (X' := fun k => k = r ∨ k = wr.heap.size) (Aside.refl (fun _ => False) wr) (fun _ _ e => e.elim) (fun x hx e => by
        rcases e with e | e
        · exact .inl e
        · omega)).below hb2).aside hst (fun x _ e => .inl e) fun x hx e => by
        rcases e with e | e
        · exact .inl e
        · exact .inr (hnew x e)
    refine ⟨a, c, nc, na, w2, hr.c.c 2 (by simp [cR]), r1, hr2.c.c 2 (by simp [cR]), hr2.c.fz 2, vl, ps, (Value.slice na b.length nc).ownBlock, rfl, by rw [hR], hT, ⟨.slice na b.length nc, by rw [hR]; exact (r2.aside hst fun k hk e => by have := hnew k hk; omega).mono (by have := hc.lo; omega), rfl, fun e => by have := hnew r e; omega, hc.lo, .inl ⟨by rw [hR], nx, hd, s, fr, te, by rw [hR]; exact ⟨hC, row_aside hr2.f hst fun k hk e => hr2.fne k hk e, hr2.fl, hr2.fne, hr2.md, hr2.lo⟩⟩⟩, fun k hk => by have := hnew k hk; omega, hA⟩
  · cases e
/-- The reader is over. -/
theorem PuI.fin2 (hc : PuC w N r g o kv2 L) (h : PuI w N r g o kv2 L wr vl ps b true) : wr.cell? ⟨r, 1, none⟩ = some .nilFunc ∧ wr.cell? ⟨r, 2, none⟩ = some (.slice none 0 0) ∧ wr.frozen? ⟨r, 2, none⟩ = false ∧ ps ≠ [] ∧
    PushPost w N o r L (.returned (.tuple #[vl, .int .i64 0])) (wr.setCell ⟨r, 2, none⟩ (.slice none 0 0)) := by
  rcases h.st with ⟨e, _⟩ | ⟨_, rfl, hne, hcel⟩
  · cases e
  · have hst : Aside (fun k => k = r) wr (wr.setCell ⟨r, 2, none⟩ (.slice none 0 0)) := Aside.setCell wr (p := ⟨r, 2, none⟩) _ rfl
    have hR := h.run
    rw [if_pos rfl] at hR
    have hC : Cel (wr.setCell ⟨r, 2, none⟩ (.slice none 0 0)) r (cOver r) := hcel.set (o := 2) (by simp [cOver]) _
    refine ⟨hcel.c 1 (by simp [cOver]), hcel.c 2 (by simp [cOver]), hcel.fz 2, hne, vl, ps, none, rfl, by rw [hR], h.ti.aside hst (fun x _ e => .inl e) (fun x _ e => by rcases e with e | e; exact .inl e; cases e), ⟨.slice none 0 0, by rw [hR]; exact OwnB.nil _ _, rfl, by simp, hc.lo, .inr ⟨by rw [hR], by rw [hR], rfl, hC⟩⟩, (fun k hk => by cases hk), h.asd.trans (hst.mono fun _ _ e => .inl e)⟩
end

set_option maxHeartbeats 8000000 in
theorem push_any {w : World} {N : Nat} {o : Option Nat} {r : Nat} {b0 p : List UInt8} {bv : Value} {lo hi : Nat} (h : Rk w N o r b0 false) (hs : Sl w lo hi bv (iz p)) (hE : EnvN w N) (hL : (b0 ++ p).length ≤ 900000) :
    Calls Tryz.prog 13 #[.pointer (some ⟨r, 0, none⟩), bv] w (PushPost w N o r (b0 ++ p)) := by
  have hrl := h.lt
  have holt := h.olt
  obtain ⟨kv, hk, ho, hor, hN, ⟨_, nx, hd, s, fr, te, hr⟩ | ⟨e, _⟩⟩ := h
  case inr => cases e
  obtain ⟨f, fx, fy, rfl⟩ := hr.md.fn
  obtain ⟨pa, pc, rfl⟩ := sl_shape hs rfl
  obtain ⟨na, nc, w1, hrun, ho1, hA1, hloc⟩ := run_appBl N kv (.slice pa p.length pc) b0 p hk hs (by rw [List.length_append] at hL; omega) hE.size
  obtain ⟨ka, kc, rfl⟩ := hk.shape
  have hLl : (b0 ++ p).length = b0.length + p.length := List.length_append
  rw [← hLl] at hrun ho1 hloc
  obtain ⟨L, hLL⟩ : ∃ L, b0 ++ p = L := ⟨_, rfl⟩
  have hmd := hr.md.app p
  rw [hLL] at hrun ho1 hloc hL hmd ⊢
  have hA1' : Aside (fun k => k = r ∨ o = some k) w w1 := hA1.mono fun k _ e => .inr (ho ▸ e)
  have hr1 := hr.aside hA1 (fun e => hor (by rw [← ho]; exact e)) (fun k h1 h2 => row_apartB hk hr.f (by decide) k h2 h1)
  have hst : Aside (fun k => k = r) w1 (w1.setCell ⟨r, 2, none⟩ (.slice na L.length nc)) := Aside.setCell w1 (p := ⟨r, 2, none⟩) _ rfl
  have hC : Cel (w1.setCell ⟨r, 2, none⟩ (.slice na L.length nc)) r (cR r (.func f fx fy) (.slice na L.length nc) hd s fr te) := hr1.c.set (o := 2) (by simp [cR]) _
  have hown : ∀ k, (Value.slice na L.length nc).ownBlock = some k → k ≠ r ∧ (o = some k ∨ w.heap.size ≤ k) := fun k hk => by
    rcases hloc with hl | hl
    · rw [hl, ho] at hk
      exact ⟨fun e => hor (by rw [hk, e]), .inl hk⟩
    · rw [hl] at hk
      injection hk with hk
      exact ⟨by omega, .inr (by omega)⟩
  have hr2 : Rb (w1.setCell ⟨r, 2, none⟩ (.slice na L.length nc)) N r (.func f fx fy) (.slice na L.length nc) L hd s fr te := ⟨hC, row_aside hr1.f hst fun k hk e => hr1.fne k hk e, hr1.fl, hr1.fne, hmd, hN⟩
  have ho2 := ho1.aside hst fun k hk e => (hown k hk).1 e
  obtain ⟨g, hg, hsg⟩ := ho2.slg (r + 1)
  have HC := Lib.hid (show PuC w N r g o (.slice na L.length nc) L from ⟨hrl, hN, fun k hk => ⟨(holt k hk).1, (holt k hk).2.2⟩, hown, hg, hL⟩)
  have hA2 := hA1'.trans (hst.mono fun _ _ e => Or.inl (b := o = some _) e)
  have HI0 := Lib.hid (show PuI w N r g o (.slice na L.length nc) L (w1.setCell ⟨r, 2, none⟩ (.slice na L.length nc)) (.slice none 0 0) [] L false from
    ⟨.inl ⟨rfl, _, ⟨_, _, _, _, _, hr2, fun _ _ e => e⟩, hsg, fun _ => ⟨rfl, rfl⟩⟩, TI.nil _ _ _ _, ho2, by rw [if_neg (by simp)]; simp, by simp, Nat.le_refl _, hA2, HC.out.base hE hA2⟩)
  have HM := Lib.hid (made_yes (hr.c.c 0 (by simp [cR])))
  obtain ⟨_, c1, c2, _⟩ := hr.c.nine
  obtain ⟨_, _, d2, _⟩ := hr1.c.nine
  have d2z := hr1.c.fz 2
  have e1 := fn_eq
  clear hr hr1 hr2 ho1 ho2 hsg hC hst hA1 hA1' hA2 hmd hown hg hloc hk ho hor hN hE hs hL hLl holt hrl hLL
  go_enter Tryz.func13, Tryz.ntmps13
  go_wp2_with fail
  refine HM.out.mono ?_; rintro e w0 ⟨rfl, rfl⟩
  go_wp2_with (at_builtin; refine Lib.wpList_append_run _ rfl _ _ _ _ rfl _ _ rfl rfl _ _ hrun ?_)
  clear c1 c2 d2 d2z hrun HM
  obtain ⟨W2, hW2⟩ : ∃ W2, w1.setCell ⟨r, 2, none⟩ (.slice na L.length nc) = W2 := ⟨_, rfl⟩
  rw [hW2] at HI0 ⊢
  clear hW2
  go_loopg [6, 7, 8] (L.length + 1) (fun g6 v6 _ _ wr => ∃ (ps : List Rp) (b : List UInt8) (out : Bool) (a6 : Option Addr) (c6 : Nat), v6 = .slice a6 ps.length c6 ∧ b.length + (if out then 0 else 1) = g6 ∧ Hid (PuI w0 N r g o (.slice na L.length nc) L wr (.slice a6 ps.length c6) ps b out))
  case atStart => exact ⟨[], L, false, none, 0, rfl, rfl, HI0⟩
  case round =>
    clear HI0
    obtain ⟨ps, b, out, a6, c6, rfl, hg6, HI⟩ := hrel
    cases out with
    | true =>
      obtain ⟨k1, k2, kz, hne, hP⟩ := HI.out.fin2 HC.out
      have HP := Lib.hid hP
      have e2 := fn_ne0
      have happ := run_appB0 (w := wr) N (.slice none 0 0) [] none 0 (OwnB.nil _ _)
      have t1 : (0 : Int) < (ps.length : Int) := by have := List.length_pos_iff.mpr hne; omega
      clear hP hne
      go_wp2_with (at_builtin; refine Lib.wpList_append_run _ rfl _ _ _ _ rfl _ _ rfl rfl _ _ happ ?_)
      go_ret2
      exact HP.out
    | false =>
      rcases HI.out.st with ⟨_, kv, hx, hsv, hke⟩ | ⟨e, _⟩
      case inr => cases e
      obtain ⟨nx, hd, s, fr, te, hr, hX⟩ := hx
      have hNX := next_any hr hsv HC.out.gr HI.out.env (by have := HI.out.le2; have := HC.out.ll; omega)
      obtain ⟨_, c1, c2, _⟩ := hr.c.nine
      have e2 := fn_ne
      have HSV := Lib.hid hsv
      have HKE := Lib.hid hke
      clear hr hX hsv hke
      rcases hNX with ⟨rfl, hcall⟩ | ⟨rfl, hcall⟩
      all_goals
        have HCA := Lib.hid hcall
        clear hcall
        go_wp2_with fail
        clear c1 c2
        refine HCA.out.mono ?_
        rintro e w5 ⟨h5, hcase⟩
        rcases hcase with ⟨hn, rfl, hr5⟩ | ⟨⟨⟨pst, ph, pb, pk⟩, ps', pbv⟩, n, kv', hn, rfl, hp, hr5, hs5⟩
        · have b6 : Below w5.heap.size w5 (w5.alloc (.cells #[.int .i64 0, .string ⟨#[]⟩, .string ⟨#[]⟩, .int .i64 0, .slice none 0 0, .slice none 0 0, .bool false] 44)) := (Below.refl _ _).alloc (Nat.le_refl _) _
          have hI5 := HI.out.turn HC.out h5 hr5 (sl_apart3 HSV.out h5 (.inl HC.out.gr)) HKE.out
          have HI6 := Lib.hid (hI5.turn HC.out (Aside.of_all b6) (hr5.below b6) (sl_apart3 (sl_apart3 HSV.out h5 (.inl HC.out.gr)) (Aside.of_all (G := fun _ => False) b6) (.inl fun h => h)) HKE.out)
          have HN := Lib.hid hn
          clear b6 hI5 h5 hr5 hn
          rw [show zI.toArray = #[.int .i64 0, .string ⟨#[]⟩, .string ⟨#[]⟩, .int .i64 0, .slice none 0 0, .slice none 0 0, .bool false] from rfl]
          by_cases hps : ps = []
          · subst hps
            have HP := Lib.hid (HI6.out.fin0 HC.out HN.out)
            go_wp2_with fail
            go_ret2
            exact HP.out
          · have t1 : (0 : Int) < (ps.length : Int) := by have := List.length_pos_iff.mpr hps; omega
            obtain ⟨ja, jc, mc, ma, w7, k1, hrun, k2, kz, hP⟩ := HI6.out.fin1 HC.out HN.out
            have HP := Lib.hid hP
            clear hP
            go_wp2_with (at_builtin; refine Lib.wpList_append_run _ rfl _ _ _ _ rfl _ _ rfl rfl _ _ hrun ?_)
            go_ret2
            exact HP.out
        · obtain ⟨xa, xc, hps⟩ := hp.f.shape
          obtain ⟨ya, yc, hpb⟩ := hp.b.shape
          simp only at hps hpb
          subst hps; subst hpb
          obtain ⟨a7, c7, w7, hrun, hq7, hr7, ht1, ht2⟩ := HI.out.told HC.out hn h5 hp hr5 hs5
          have HT1 := Lib.hid ht1
          have HT2 := Lib.hid ht2
          have HR7 := Lib.hid hr7
          have HN4 := Lib.hid (one_some hn)
          obtain ⟨q0, _, _, _, _, _, q6⟩ := hq7.seven
          simp only [cI, List.toArray] at hrun
          simp only [vI]
          clear hn h5 hp hr5 hs5 hq7 hr7 ht1 ht2
          have happ := hrun
          clear hrun
          have HAPP := Lib.hid happ
          clear happ
          have hrun := HAPP.out
          by_cases h2 : pst = 200
          · subst h2
            cases pk with
            | true =>
              have HI8 := Lib.hid (HT1.out (by simp [lastH]))
              go_wp2_with (at_builtin; refine Lib.wpList_append_run _ rfl _ _ _ _ rfl _ _ rfl rfl _ _ hrun ?_)
              go_roundg ((b.drop n).length + 1)
              case measure =>
                have h4 := HN4.out.1
                have h5 := HN4.out.2 trivial
                rw [List.length_drop]
                simp at hg6
                omega
              case rel => exact ⟨ps ++ [(⟨⟨_, ph, pb, _⟩, .slice xa ph.fs.length xc, .slice ya pb.length yc⟩ : Rp)], b.drop n, false, _, _, by rw [List.length_append, List.length_singleton], rfl, by rw [List.length_append, List.length_singleton]; exact HI8⟩
            | false =>
              have HEN := Lib.hid (by obtain ⟨_, _, _, _, _, hR, _⟩ := HR7.out; exact end_any hR)
              go_wp2_with (at_builtin; refine Lib.wpList_append_run _ rfl _ _ _ _ rfl _ _ rfl rfl _ _ hrun ?_)
              refine HEN.out.mono ?_
              rintro e w8 ⟨rfl, hcel, h8⟩
              have HI8 := Lib.hid (HT2.out w8 (by simp [lastH]) h8 hcel)
              clear hcel h8
              go_wp2_with fail
              go_roundg 0
              case measure => simp at hg6; omega
              case rel => exact ⟨ps ++ [(⟨⟨_, ph, pb, _⟩, .slice xa ph.fs.length xc, .slice ya pb.length yc⟩ : Rp)], [], true, _, _, by rw [List.length_append, List.length_singleton], rfl, by rw [List.length_append, List.length_singleton]; exact HI8⟩
          · have t2 : (pst == 200) = false := by simpa using h2
            have HEN := Lib.hid (by obtain ⟨_, _, _, _, _, hR, _⟩ := HR7.out; exact end_any hR)
            go_wp2_with (at_builtin; refine Lib.wpList_append_run _ rfl _ _ _ _ rfl _ _ rfl rfl _ _ hrun ?_)
            refine HEN.out.mono ?_
            rintro e w8 ⟨rfl, hcel, h8⟩
            have HI8 := Lib.hid (HT2.out w8 (by simp [lastH, h2]) h8 hcel)
            clear hcel h8
            go_wp2_with fail
            go_roundg 0
            case measure => simp at hg6; omega
            case rel => exact ⟨ps ++ [(⟨⟨_, ph, pb, _⟩, .slice xa ph.fs.length xc, .slice ya pb.length yc⟩ : Rp)], [], true, _, _, by rw [List.length_append, List.length_singleton], rfl, by rw [List.length_append, List.length_singleton]; exact HI8⟩
end Go.Proofs.YtkoohdacneflfaaGreatDoor
