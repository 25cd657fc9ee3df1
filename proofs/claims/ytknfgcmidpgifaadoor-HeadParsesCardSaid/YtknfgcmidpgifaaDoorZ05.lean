/-
  The first value of a name, how many there are; hosts: as landed, as the document has them.
-/
import Derived.Test.YtknfgcmidpgifaaDoorZ04
import Derived.RegionTactic
import Derived.ChangeAlike
import Derived.BigRegion
namespace Go.Proofs.YtknfgcmidpgifaaDoor
open Go.RowKit Go.Shelf
set_option linter.unusedVariables false
set_option linter.unusedSimpArgs false
set_option maxRecDepth 100000

/-- A head's fields are no longer than memory. -/
def Fits (h : Hd) : Prop := h.fs.length ≤ 900000 ∧ ∀ x ∈ h.fs, x.1.length ≤ 900000 ∧ x.2.length ≤ 140737488351232
theorem Fits.n {h : Hd} (hf : Fits h) : ∀ x ∈ h.fs, x.1.length ≤ 1000000000 := fun x hx => by have := (hf.2 x hx).1; omega
theorem vals_mem {l : List Fd} {name v : List UInt8} (h : v ∈ vals l name) : ∃ x ∈ l, v = x.2 := by
  unfold vals at h
  obtain ⟨x, hx, rfl⟩ := List.mem_map.mp h
  exact ⟨x, (List.mem_filter.mp hx).1, rfl⟩

theorem st_at {w : World} {lo hi c : Nat} {a : Option Addr} {l : List (List UInt8)} (h : St w lo hi (.slice a l.length c) l) : 0 < l.length → ∃ b off, a = some ⟨b, off, none⟩ ∧ lo ≤ b ∧ b < hi ∧ ∀ j (hj : j < l.length), w.cell? ⟨b, off + j, none⟩ = some (.string (bs l[j])) := by
  intro h0
  obtain ⟨b, off, e, h1, h2, h3⟩ := h.cell h0
  refine ⟨b, off, e, h1, h2, fun j hj => ?_⟩
  rw [h3 j hj, List.getD, List.getElem?_eq_getElem hj]
  rfl

theorem clone_big (s : ByteArray) (hs : s.size ≤ 140737488351232) (w : World) : Calls Tryd.prog 54 #[.string s] w (Tells w (.string s)) := by
  have H := Lib.hid (fun w => Tryd.stringslite_Clone s w (by omega))
  go_enter Tryd.func54, Tryd.ntmps54
  go_wp2_with (go_at_call 81; refine (H.out _).mono ?_; rintro e w1 ⟨rfl, hb⟩; have HB := Lib.hid hb; clear hb)
  go_ret
  exact ⟨rfl, HB.out⟩

set_option maxHeartbeats 4000000 in
theorem field_any {w : World} {hi : Nat} {u : Value} {h : Hd} (name : List UInt8) (hh : Hv w hi u h) (h1 : hi ≤ w.heap.size) (hf : Fits h) :
    Calls Tryd.prog 39 #[u, .string (bs name)] w (Tells w (.tuple #[.string (bs (fldH h.fs name).1), .int .i64 (fldH h.fs name).2])) := by
  obtain ⟨m, t, v, l⟩ := h
  have HF := Lib.hid hf
  have HH := Lib.hid hh
  obtain ⟨sl, rfl, hs0⟩ := hh
  have hb0 : Below w.heap.size w (w.alloc (.cells #[.string (bs m), .string (bs t), .int .i64 v, sl] 27)) := (Below.refl _ _).alloc (Nat.le_refl _) _
  have HB0 := Lib.hid hb0
  have HV := Lib.hid (values_any name (HH.out.below hb0 h1) (Nat.le_trans h1 hb0.size) hf.1 hf.n)
  have HM := Lib.hid (fun x (h : x ∈ vals l name) => vals_mem h)
  unfold fldH
  simp only at HV ⊢
  obtain ⟨L, hL⟩ : ∃ L, vals l name = L := ⟨_, rfl⟩
  rw [hL] at HV HM ⊢
  clear hs0 hb0 hf hL
  go_enter Tryd.func39, Tryd.ntmps39
  go_wp2_with fail
  refine (HV.out).mono ?_; rintro e w2 ⟨r, rfl, ho, hb2⟩
  have HB2 := Lib.hid (HB0.out.trans (hb2.mono HB0.out.size))
  have HO := Lib.hid ho
  clear hb2 ho
  obtain ⟨a, c, rfl⟩ := HO.out.shape
  cases L with
  | nil =>
    go_wp2_with fail
    go_ret2
    exact ⟨rfl, HB2.out⟩
  | cons y r =>
    have t1 : ((((y :: r).length : Nat) : Int) == 0) = false := by rw [beq_eq_false_iff_ne, List.length_cons]; omega
    obtain ⟨g, off, rfl, _, _, hc⟩ := st_at HO.out.st (by simp)
    have c0 := hc 0 (by simp)
    simp only [Nat.add_zero, List.getElem_cons_zero] at c0
    have hy : (bs y).size ≤ 140737488351232 := by
      obtain ⟨x, hx, e⟩ := HM.out y (by simp)
      have := (HF.out.2 x hx).2
      rw [bs_size, e]; omega
    have HC := Lib.hid (clone_big (bs y) hy w2)
    clear hc hy HV HM
    go_wp2_with fail
    refine (HC.out).mono ?_; rintro e w3 ⟨rfl, hb3⟩
    have HB3 := Lib.hid (bel_call HB2.out hb3)
    clear hb3
    go_wp2_with fail
    go_ret2
    exact ⟨rfl, HB3.out⟩

set_option maxHeartbeats 4000000 in
theorem rfield_any {w : World} {hi : Nat} {u : Value} {h : Hd} (name : List UInt8) (hh : Hv w hi u h) (h1 : hi ≤ w.heap.size) (hf : Fits h) :
    Calls Tryd.prog 42 #[u, .string (bs name)] w (Tells w (.tuple #[.string (bs (fldH h.fs name).1), .int .i64 (fldH h.fs name).2])) := by
  obtain ⟨m, t, v, l⟩ := h
  obtain ⟨sl, rfl, hs0⟩ := hh
  unfold Fits at hf
  unfold fldH
  simp only at hs0 hf ⊢
  have HF := Lib.hid hf
  obtain ⟨a, c, rfl⟩ := Lst.shape hs0
  obtain ⟨N, hN⟩ : ∃ N, w.heap.size = N := ⟨_, rfl⟩
  have hb0 : Below w.heap.size w (w.alloc (.cells #[.string (bs m), .string (bs t), .int .i64 v, .slice a l.length c] 27)) := (Below.refl _ _).alloc (Nat.le_refl _) _
  have hx := cel_new4 w (.string (bs m)) (.string (bs t)) (.int .i64 v) (.slice a l.length c) 27
  have HS := Lib.hid (show SF _ hi _ l from Lst.below hs0 hb0 h1)
  rw [hN] at hx hb0 h1
  have HB0 := Lib.hid hb0
  have HX := Lib.hid hx
  have hsz : (w.alloc (.cells #[.string (bs m), .string (bs t), .int .i64 v, .slice a l.length c] 27)).heap.size = N + 1 := by simp [hN]
  obtain ⟨W, hW⟩ : ∃ W, w.alloc (.cells #[.string (bs m), .string (bs t), .int .i64 v, .slice a l.length c] 27) = W := ⟨_, rfl⟩
  rw [hW] at HB0 HX HS hsz
  have HSZ := Lib.hid hsz
  have HH := Lib.hid h1
  clear hs0 hb0 hx hsz h1 hf
  go_enter Tryd.func42, Tryd.ntmps42
  go_wp2_with fail
  go_loopg [6, 7, 8] l.length (fun g v6 v7 v8 wr => ∃ (k : Nat) (L : List (List UInt8)), k + g = l.length ∧ v8 = .int .i64 k ∧ Hid (vals (l.take k) name = L) ∧ v6 = .string (bs (L.head?.getD [])) ∧ v7 = .int .i64 (L.length : Nat) ∧ Hid (Below W.heap.size W wr))
  case atStart => exact ⟨0, [], by omega, rfl, rfl, rfl, rfl, by first | exact Lib.hid (Below.refl _ _) | (rw [hW]; exact Lib.hid (Below.refl _ _))⟩
  case round =>
    obtain ⟨k, L, hk, rfl, HL, rfl, rfl, HB⟩ := hrel
    have hkb : k ≤ 900000 := by have := HF.out.1; omega
    have HLK := Lib.hid (show L.length ≤ k by have := vals_len (l.take k) name; rw [List.length_take, HL.out] at this; omega)
    obtain ⟨c0, c1, c2, c3⟩ := (HX.out.below (by simp) HB.out).four
    by_cases hlt : k < l.length
    · obtain ⟨b, off, c2', he, hb, hc⟩ := HS.out.at_ k hlt
      injection he with he hn3 hc3
      clear hn3 hc3
      subst he
      obtain ⟨p0, p1⟩ := hc.keep fun o => HB.out.cell (p := ⟨b, o, none⟩) (by have := HSZ.out; have := HH.out; show b < W.heap.size; omega)
      have hvs := vals_step l name k hlt
      rw [HL.out] at hvs
      have hln := HF.out.2 l[k] (List.getElem_mem hlt)
      have HAT := Lib.hid (And.intro hc (show b < W.heap.size by have := HSZ.out; have := HH.out; omega))
      obtain ⟨x, hx⟩ : ∃ x, l[k] = x := ⟨_, rfl⟩
      rw [hx] at p0 p1 hvs hln HAT
      have HSM := Lib.hid (rsame_any x.1 name (by omega) wr)
      obtain ⟨S, hS⟩ : ∃ S, sameN x.1 name = S := ⟨_, rfl⟩
      rw [hS] at HSM hvs
      have HVS := Lib.hid hvs
      clear hS hvs hln hc hx hb
      cases S with
      | true =>
        have hvs := HVS.out
        rw [if_pos rfl] at hvs
        replace HVS := Lib.hid hvs
        clear hvs
        go_wp2_with fail
        refine (HSM.out).mono ?_; rintro e w2 ⟨rfl, hb2⟩
        have HB2 := Lib.hid (HB.out.trans (hb2.mono HB.out.size))
        obtain ⟨d0, d1, d2, d3⟩ := (HX.out.below (by simp) HB2.out).four
        obtain ⟨q0, q1⟩ := HAT.out.1.keep fun o => HB2.out.cell (p := ⟨b, o, none⟩) HAT.out.2
        clear hb2 c0 c1 c2 c3 p0 p1
        cases L with
        | nil =>
          go_wp2_with fail
          go_roundg (l.length - (k + 1))
          case measure => omega
          case rel => exact ⟨k + 1, [x.2], by omega, by go_num, HVS, rfl, rfl, HB2⟩
        | cons y r =>
          have hll : r.length + 1 ≤ 900000 := by have := HLK.out; rw [List.length_cons] at this; omega
          have t1 : ((((y :: r).length : Nat) : Int) == 0) = false := by rw [beq_eq_false_iff_ne, List.length_cons]; omega
          go_wp2_with fail
          go_roundg (l.length - (k + 1))
          case measure => omega
          case rel => exact ⟨k + 1, (y :: r) ++ [x.2], by omega, by go_num, HVS, rfl, by simp only [List.length_append, List.length_cons, List.length_nil]; go_num, HB2⟩
      | false =>
        have HVS2 := Lib.hid (show vals (l.take (k + 1)) name = L by rw [HVS.out]; simp)
        go_wp2_with fail
        refine (HSM.out).mono ?_; rintro e w2 ⟨rfl, hb2⟩
        have HB2 := Lib.hid (HB.out.trans (hb2.mono HB.out.size))
        clear hb2 c0 c1 c2 c3 p0 p1
        go_wp2_with fail
        go_roundg (l.length - (k + 1))
        case measure => omega
        case rel => exact ⟨k + 1, L, by omega, by go_num, HVS2, rfl, rfl, HB2⟩
    · have t1 : ¬ ((k : Int) < l.length) := by omega
      have HLL := Lib.hid (show vals l name = L by rw [← HL.out, List.take_of_length_le (by omega)])
      have HBB := Lib.hid (HB0.out.trans (HB.out.mono (by rw [HSZ.out]; omega)))
      go_wp2_with fail
      go_ret2
      exact ⟨by rw [HLL.out]; simp only [List.headD_eq_head?_getD]; rfl, by rw [hN]; exact HBB.out⟩

set_option maxHeartbeats 1000000 in
theorem hosted_any {w : World} {hi : Nat} {u : Value} {h : Hd} (hh : Hv w hi u h) (h1 : hi ≤ w.heap.size) (hf : Fits h) :
    Calls Tryd.prog 16 #[u] w (Tells w (.bool (hostL h.fs h.v))) := by
  have HH := Lib.hid hh
  obtain ⟨m, t, v, l⟩ := h
  obtain ⟨sl, rfl, hs0⟩ := hh
  have hb0 : Below w.heap.size w (w.alloc (.cells #[.string (bs m), .string (bs t), .int .i64 v, sl] 27)) := (Below.refl _ _).alloc (Nat.le_refl _) _
  have HB0 := Lib.hid hb0
  have HX := Lib.hid (cel_new4 w (.string (bs m)) (.string (bs t)) (.int .i64 v) sl 27)
  have HV := Lib.hid (field_any nHost (HH.out.below hb0 h1) (Nat.le_trans h1 hb0.size) hf)
  unfold fldH at HV
  unfold hostL
  simp only at HV ⊢
  obtain ⟨n, hn⟩ : ∃ n, (vals l nHost).length = n := ⟨_, rfl⟩
  obtain ⟨x, hx⟩ : ∃ x, (vals l nHost).headD [] = x := ⟨_, rfl⟩
  rw [hn, hx] at HV
  rw [hn]
  clear hs0 hb0 hf hn hx
  go_enter Tryd.func16, Tryd.ntmps16
  go_wp2_with fail
  refine (HV.out).mono ?_; rintro e w2 ⟨rfl, hb2⟩
  have HB2 := Lib.hid (HB0.out.trans (hb2.mono HB0.out.size))
  obtain ⟨c0, c1, c2, c3⟩ := (HX.out.below (by simp) hb2).four
  clear hb2
  by_cases e1 : n = 1
  · subst e1
    go_wp2_with fail
    go_ret
    exact ⟨rfl, HB2.out⟩
  · by_cases e0 : n = 0
    · subst e0
      go_wp2_with fail
      go_ret
      exact ⟨rfl, HB2.out⟩
    · have t1 : ((n : Int) == 1) = false := by rw [beq_eq_false_iff_ne]; omega
      have t0 : ((n : Int) == 0) = false := by rw [beq_eq_false_iff_ne]; omega
      have s1 : (n == 1) = false := by rw [beq_eq_false_iff_ne]; omega
      have s0 : (n == 0) = false := by rw [beq_eq_false_iff_ne]; omega
      go_wp2_with fail
      go_ret
      exact ⟨by rw [s1, s0]; rfl, HB2.out⟩
end Go.Proofs.YtknfgcmidpgifaaDoor

/-
  The document's hosts; the version of a first line.
-/
namespace Go.Proofs.YtknfgcmidpgifaaDoor
open Go.RowKit Go.Shelf
set_option linter.unusedVariables false
set_option linter.unusedSimpArgs false
set_option maxRecDepth 100000

set_option maxHeartbeats 1000000 in
theorem rhosts_any {w : World} {hi : Nat} {u : Value} {h : Hd} (hh : Hv w hi u h) (h1 : hi ≤ w.heap.size) (hf : Fits h) :
    Calls Tryd.prog 24 #[u] w (Tells w (.bool (hostL h.fs h.v))) := by
  have HH := Lib.hid hh
  obtain ⟨m, t, v, l⟩ := h
  obtain ⟨sl, rfl, hs0⟩ := hh
  have hb0 : Below w.heap.size w (w.alloc (.cells #[.string (bs m), .string (bs t), .int .i64 v, sl] 27)) := (Below.refl _ _).alloc (Nat.le_refl _) _
  have HB0 := Lib.hid hb0
  have HX := Lib.hid (cel_new4 w (.string (bs m)) (.string (bs t)) (.int .i64 v) sl 27)
  have HV := Lib.hid (rfield_any nHost (HH.out.below hb0 h1) (Nat.le_trans h1 hb0.size) hf)
  unfold fldH at HV
  unfold hostL
  simp only at HV ⊢
  obtain ⟨n, hn⟩ : ∃ n, (vals l nHost).length = n := ⟨_, rfl⟩
  obtain ⟨x, hx⟩ : ∃ x, (vals l nHost).headD [] = x := ⟨_, rfl⟩
  rw [hn, hx] at HV
  rw [hn]
  clear hs0 hb0 hf hn hx
  go_enter Tryd.func24, Tryd.ntmps24
  go_wp2_with fail
  refine (HV.out).mono ?_; rintro e w2 ⟨rfl, hb2⟩
  have HB2 := Lib.hid (HB0.out.trans (hb2.mono HB0.out.size))
  obtain ⟨c0, c1, c2, c3⟩ := (HX.out.below (by simp) hb2).four
  clear hb2
  by_cases e1 : n = 1
  · subst e1
    go_wp2_with fail
    go_ret
    exact ⟨rfl, HB2.out⟩
  · by_cases e0 : n = 0
    · subst e0
      go_wp2_with fail
      go_ret
      exact ⟨rfl, HB2.out⟩
    · have t1 : ((n : Int) == 1) = false := by rw [beq_eq_false_iff_ne]; omega
      have t0 : ((n : Int) == 0) = false := by rw [beq_eq_false_iff_ne]; omega
      have s1 : (n == 1) = false := by rw [beq_eq_false_iff_ne]; omega
      have s0 : (n == 0) = false := by rw [beq_eq_false_iff_ne]; omega
      go_wp2_with fail
      go_ret
      exact ⟨by rw [s1, s0]; rfl, HB2.out⟩

theorem pre_take (l p : List UInt8) : p.isPrefixOf l = (l.take p.length == p) := by
  induction p generalizing l with
  | nil => simp
  | cons x p ih =>
    cases l with
    | nil => simp
    | cons y l =>
      rw [List.length_cons, List.take_succ_cons, List.isPrefixOf_cons_cons, ih, List.cons_beq_cons, BEq.comm (a := x)]
theorem bs_data (l : List UInt8) : (bs l).data.toList = l := rfl
theorem cutpre_any (l : List UInt8) (w : World) : Calls Tryd.prog 48 #[.string (bs l), .string ⟨#[72, 84, 84, 80, 47]⟩] w fun e w' =>
    e = .returned (.tuple #[.string (bs (if l.take 5 = http then l.drop 5 else l)), .bool (l.take 5 == http)]) ∧ w' = w := by
  have h := Tryd.strings_CutPrefix (bs l) ⟨#[72, 84, 84, 80, 47]⟩ w
  have e1 : Lib.hasPrefix (bs l).data.toList [72, 84, 84, 80, 47] = (l.take 5 == http) := by rw [bs_data]; exact pre_take l http
  have e2 : Lib.trimPrefix (bs l).data.toList [72, 84, 84, 80, 47] = if l.take 5 = http then l.drop 5 else l := by
    unfold Lib.trimPrefix
    rw [e1, bs_data]
    by_cases h : l.take 5 = http
    · rw [if_pos h, if_pos (by rw [h]; rfl)]; rfl
    · rw [if_neg h, if_neg (by simpa using h)]
  refine h.mono ?_
  rintro e w' ⟨rfl, rfl⟩
  refine ⟨?_, rfl⟩
  show Ending.returned (.tuple #[.string ⟨(Lib.trimPrefix (bs l).data.toList [72, 84, 84, 80, 47]).toArray⟩, .bool (Lib.hasPrefix (bs l).data.toList [72, 84, 84, 80, 47])]) = _
  rw [e1, e2]
  rfl

theorem verN_no {l : List UInt8} (h : l.length ≠ 3) : verN l = (0, 400) := by
  match l, h with
  | [], _ => rfl
  | [_], _ => rfl
  | [_, _], _ => rfl
  | [_, _, _], h => exact absurd rfl h
  | _ :: _ :: _ :: _ :: _, _ => rfl

set_option maxHeartbeats 2000000 in
theorem version_any (l : List UInt8) (hl : l.length ≤ 1000000000) (w : World) : Calls Tryd.prog 33 #[.string (bs l)] w (Tells w (.tuple #[.int .i64 (verL l).1, .int .i64 (verL l).2])) := by
  have HC := Lib.hid (cutpre_any l w)
  have HB := Lib.hid (Below.refl w.heap.size w)
  unfold verL
  by_cases h5 : l.take 5 = http
  · have e5 : (l.take 5 == http) = true := by rw [h5]; rfl
    rw [e5, if_pos h5] at HC
    rw [if_pos h5]
    have hnl : (l.drop 5).length ≤ 1000000000 := by rw [List.length_drop]; omega
    obtain ⟨n, hn⟩ : ∃ n, l.drop 5 = n := ⟨_, rfl⟩
    rw [hn] at HC hnl ⊢
    clear h5 e5 hn hl
    by_cases h3 : n.length = 3
    · obtain ⟨a, b, c, rfl⟩ : ∃ a b c, n = [a, b, c] := by
        match n, h3 with
        | [a, b, c], _ => exact ⟨a, b, c, rfl⟩
      have i1 := ix_run [a, b, c] 1 (by simp)
      have s1 := take_run [a, b, c] 1 (by simp)
      have s2 := from_run [a, b, c] 2 (by simp)
      have i1 : ∀ (w : World), (Instr.index 9 (.string (bs [a, b, c])) (.int .i64 1)).run Tryd.prog w = .ok (.int .u8 (b.toNat : Nat)) w := i1
      have s1 : ∀ (w : World), (Instr.slice 9 (.string (bs [a, b, c])) none (some (.int .i64 1)) none).run Tryd.prog w = .ok (.string (bs [a])) w := s1
      have s2 : ∀ (w : World), (Instr.slice 9 (.string (bs [a, b, c])) (some (.int .i64 2)) none none).run Tryd.prog w = .ok (.string (bs [c])) w := s2
      have HD1 := Lib.hid (fun w => digits_any [a] (by simp) w)
      have HD2 := Lib.hid (fun w => digits_any [c] (by simp) w)
      have HN : Hid (verN [a, b, c] = if onlyR dR [a] && (b == 46 && onlyR dR [c]) then (if [a, b, c] = [49, 46, 48] then (0, 200) else if [a, b, c] = [49, 46, 49] then (1, 200) else (0, 505)) else (0, 400)) := Lib.hid rfl
      obtain ⟨D1, hD1⟩ : ∃ D, onlyR dR [a] = D := ⟨_, rfl⟩
      obtain ⟨D2, hD2⟩ : ∃ D, onlyR dR [c] = D := ⟨_, rfl⟩
      rw [hD1] at HD1 HN
      rw [hD2] at HD2 HN
      clear hD1 hD2
      cases D1 with
      | false =>
        rw [HN.out]
        go_enter Tryd.func33, Tryd.ntmps33
        go_wp2_with fail
        refine (HC.out).mono ?_; rintro e w1 ⟨rfl, rfl⟩
        go_wp2_with fail
        refine (HD1.out _).mono ?_; rintro e w2 ⟨rfl, hb2⟩
        replace HB := Lib.hid hb2
        clear hb2
        go_wp2_with fail
        go_ret2
        exact ⟨rfl, HB.out⟩
      | true =>
        by_cases g2 : b = 46
        · have g2' : (b == 46) = true := by rw [g2]; rfl
          have t2 : ((b.toNat : Int) != 46) = false := by rw [g2]; rfl
          rw [g2'] at HN
          cases D2 with
          | false =>
            rw [HN.out]
            clear g2 g2'
            go_enter Tryd.func33, Tryd.ntmps33
            go_wp2_with fail
            refine (HC.out).mono ?_; rintro e w1 ⟨rfl, rfl⟩
            go_wp2_with fail
            refine (HD1.out _).mono ?_; rintro e w2 ⟨rfl, hb2⟩
            replace HB := Lib.hid hb2
            clear hb2
            go_wp2_with fail
            refine (tell_on HB (HD2.out _)).mono ?_; rintro e w3 ⟨rfl, HB3⟩
            go_wp2_with fail
            go_ret2
            exact ⟨rfl, HB3.out⟩
          | true =>
            by_cases g4 : [a, b, c] = [49, 46, 48]
            · rw [HN.out, if_pos (by rfl), if_pos g4]
              have q1 : ((bs [a, b, c]).toList == [49, 46, 48]) = true := by rw [bs_toList, g4]; rfl
              clear g2 g2' g4
              go_enter Tryd.func33, Tryd.ntmps33
              go_wp2_with fail
              refine (HC.out).mono ?_; rintro e w1 ⟨rfl, rfl⟩
              go_wp2_with fail
              refine (HD1.out _).mono ?_; rintro e w2 ⟨rfl, hb2⟩
              replace HB := Lib.hid hb2
              clear hb2
              go_wp2_with fail
              refine (tell_on HB (HD2.out _)).mono ?_; rintro e w3 ⟨rfl, HB3⟩
              go_wp2_with fail
              go_ret2
              exact ⟨rfl, HB3.out⟩
            · by_cases g5 : [a, b, c] = [49, 46, 49]
              · rw [HN.out, if_pos (by rfl), if_neg g4, if_pos g5]
                have q1 : ((bs [a, b, c]).toList == [49, 46, 48]) = false := by rw [bs_toList, g5]; rfl
                have q2 : ((bs [a, b, c]).toList == [49, 46, 49]) = true := by rw [bs_toList, g5]; rfl
                clear g2 g2' g4 g5
                go_enter Tryd.func33, Tryd.ntmps33
                go_wp2_with fail
                refine (HC.out).mono ?_; rintro e w1 ⟨rfl, rfl⟩
                go_wp2_with fail
                refine (HD1.out _).mono ?_; rintro e w2 ⟨rfl, hb2⟩
                replace HB := Lib.hid hb2
                clear hb2
                go_wp2_with fail
                refine (tell_on HB (HD2.out _)).mono ?_; rintro e w3 ⟨rfl, HB3⟩
                go_wp2_with fail
                go_ret2
                exact ⟨rfl, HB3.out⟩
              · rw [HN.out, if_pos (by rfl), if_neg g4, if_neg g5]
                have q1 : ((bs [a, b, c]).toList == [49, 46, 48]) = false := by rw [bs_toList]; simpa using g4
                have q2 : ((bs [a, b, c]).toList == [49, 46, 49]) = false := by rw [bs_toList]; simpa using g5
                clear g2 g2' g4 g5
                go_enter Tryd.func33, Tryd.ntmps33
                go_wp2_with fail
                refine (HC.out).mono ?_; rintro e w1 ⟨rfl, rfl⟩
                go_wp2_with fail
                refine (HD1.out _).mono ?_; rintro e w2 ⟨rfl, hb2⟩
                replace HB := Lib.hid hb2
                clear hb2
                go_wp2_with fail
                refine (tell_on HB (HD2.out _)).mono ?_; rintro e w3 ⟨rfl, HB3⟩
                go_wp2_with fail
                go_ret2
                exact ⟨rfl, HB3.out⟩
        · have g2' : (b == 46) = false := by simpa using g2
          have t2 : ((b.toNat : Int) != 46) = true := by
            rw [bne_iff_ne]
            intro e
            exact g2 (UInt8.toNat_inj.mp (by show b.toNat = 46; omega))
          rw [HN.out, g2']
          clear g2 g2'
          go_enter Tryd.func33, Tryd.ntmps33
          go_wp2_with fail
          refine (HC.out).mono ?_; rintro e w1 ⟨rfl, rfl⟩
          go_wp2_with fail
          refine (HD1.out _).mono ?_; rintro e w2 ⟨rfl, hb2⟩
          replace HB := Lib.hid hb2
          clear hb2
          go_wp2_with fail
          go_ret2
          exact ⟨rfl, HB.out⟩
    · have t3 : ((n.length : Int) != 3) = true := by rw [bne_iff_ne]; omega
      rw [verN_no h3]
      clear h3
      go_enter Tryd.func33, Tryd.ntmps33
      go_wp2_with fail
      refine (HC.out).mono ?_; rintro e w1 ⟨rfl, rfl⟩
      go_wp2_with fail
      go_ret2
      exact ⟨rfl, HB.out⟩
  · have e5 : (l.take 5 == http) = false := by simpa using h5
    rw [e5, if_neg h5] at HC
    rw [if_neg h5]
    clear h5 e5
    go_enter Tryd.func33, Tryd.ntmps33
    go_wp2_with fail
    refine (HC.out).mono ?_; rintro e w1 ⟨rfl, rfl⟩
    go_wp2_with fail
    go_ret2
    exact ⟨rfl, HB.out⟩
end Go.Proofs.YtknfgcmidpgifaaDoor

/-
  The words of a line; the first line.
-/
namespace Go.Proofs.YtknfgcmidpgifaaDoor
open Go.RowKit Go.Shelf
set_option linter.unusedVariables false
set_option linter.unusedSimpArgs false
set_option maxRecDepth 100000

theorem splitB_spl (l : List UInt8) (c : UInt8) : Lib.splitB ⟨#[c]⟩ 0 (Lib.countB (bs l) ⟨#[c]⟩) (bs l) = (spl c l).map bs := by
  have h := Lib.splitB_data ⟨#[c]⟩ 0 (Lib.countB (bs l) ⟨#[c]⟩) (bs l)
  have e : Lib.splitK [c] 0 (Lib.countB (bs l) ⟨#[c]⟩) l = spl c l := spl_split c _ l rfl
  have h : (Lib.splitB ⟨#[c]⟩ 0 (Lib.countB (bs l) ⟨#[c]⟩) (bs l)).map (·.data.toList) = spl c l := h.trans e
  rw [← h, List.map_map]
  conv => lhs; rw [← List.map_id (Lib.splitB _ _ _ _)]
  apply List.map_congr_left
  intro x _
  exact bs_eta x
theorem countB_spl (l : List UInt8) (c : UInt8) : Lib.countB (bs l) ⟨#[c]⟩ + 1 = (spl c l).length := (spl_len c l).symm

/-- strings.Split at one byte. -/
def SplitPost (w : World) (L : List (List UInt8)) (e : Ending) (w' : World) : Prop := e = .returned (.slice (some ⟨w.heap.size, 0, none⟩) L.length L.length) ∧ Below w.heap.size w w' ∧ w'.heap.size = w.heap.size + 1 ∧ ∀ j (hj : j < L.length), w'.cell? ⟨w.heap.size, 0 + j, none⟩ = some (.string (bs L[j]))
theorem split_any {w : World} (l : List UInt8) (c : UInt8) (hE : Env w) (hl : l.length ≤ 1000000) : Calls Tryd.prog 30 #[.string (bs l), .string ⟨#[c]⟩] w (SplitPost w (spl c l)) := by
  obtain ⟨m, hm⟩ := hE.mx
  refine (Tryd.strings_Split (bs l) ⟨#[c]⟩ m w (by rw [bs_size]; omega) hm (Nat.le_refl 1)).mono ?_
  rintro e w' ⟨rfl, rfl⟩
  rw [splitB_spl, countB_spl]
  refine ⟨rfl, (Below.refl _ _).alloc (Nat.le_refl _) _, by simp, fun j hj => ?_⟩
  rw [Nat.zero_add, World.cell?, heap_alloc_new]
  simp [List.getElem?_toArray, List.getElem?_map, List.getElem?_eq_getElem hj]

/-- The value of a head without fields. -/
def hdv (h : Hd) : Value := .agg #[.string (bs h.m), .string (bs h.t), .int .i64 h.v, .slice none 0 0]
def FstPost (w : World) (l : List UInt8) (e : Ending) (w' : World) : Prop := e = .returned (.tuple #[hdv (fstL l).1, .int .i64 (fstL l).2]) ∧ Below w.heap.size w w'

theorem fstL_no {l : List UInt8} (h : (spl 32 l).length ≠ 3) : fstL l = (z0, 400) := by
  unfold fstL
  match hs : spl 32 l, h with
  | [], _ => rfl
  | [_], _ => rfl
  | [_, _], _ => rfl
  | [_, _, _], h => exact absurd rfl h
  | _ :: _ :: _ :: _ :: _, _ => rfl
theorem fstL_3 {l a b c : List UInt8} (h : spl 32 l = [a, b, c]) : fstL l = fst3 a b c := by
  unfold fstL; rw [h]
theorem fst_fs (l : List UInt8) : (fstL l).1.fs = [] := by
  unfold fstL
  split
  · unfold fst3
    repeat' split
    all_goals rfl
  · rfl

theorem spl_sum (c : UInt8) (l : List UInt8) : ∀ x ∈ spl c l, x.length ≤ l.length := by
  induction l with
  | nil => intro x hx; simp [spl] at hx; subst hx; exact Nat.le_refl _
  | cons y r ih =>
    intro x hx
    unfold spl at hx
    split at hx
    · rcases List.mem_cons.mp hx with rfl | hx
      · exact Nat.zero_le _
      · have := ih x hx; rw [List.length_cons]; omega
    · split at hx
      · simp at hx; subst hx; simp
      · rename_i w ws e
        rw [e] at ih
        rcases List.mem_cons.mp hx with rfl | hx
        · have := ih w (by simp); simp only [List.length_cons]; omega
        · have := ih x (by simp [hx]); rw [List.length_cons]; omega

/-- slices.Contains of an empty word. -/
theorem contE_any {w : World} {g off n c : Nat} (L : List (List UInt8)) (hn : n = L.length) (hl : L.length ≤ 1000000) (hc : ∀ j (hj : j < L.length), w.cell? ⟨g, off + j, none⟩ = some (.string (bs L[j]))) :
    Calls Tryd.prog 31 #[.slice (some ⟨g, off, none⟩) n c, .string ⟨#[]⟩] w fun e w' => e = .returned (.bool (L.contains [])) ∧ w' = w := by
  subst hn
  refine (Tryd.slices_Contains_string g off L.length c (L.map bs) ⟨#[]⟩ w (by simp) (by omega) (fun j hj => ?_)).mono ?_
  · rw [List.length_map] at hj
    rw [hc j hj, List.getD, List.getElem?_map, List.getElem?_eq_getElem hj]
    rfl
  · rintro e w' ⟨rfl, rfl⟩
    refine ⟨congrArg (fun b => Ending.returned (Value.bool b)) ?_, rfl⟩
    rw [Bool.eq_iff_iff, Lib.containsS_iff, List.take_of_length_le (by simp), List.contains_iff_mem, List.mem_map]
    constructor
    · rintro ⟨x, hx, e⟩
      have : x = [] := by
        have := congrArg (fun s : ByteArray => s.data.toList) e
        exact this
      exact this ▸ hx
    · intro h; exact ⟨[], h, rfl⟩
end Go.Proofs.YtknfgcmidpgifaaDoor

/-
  The first line is read.
-/
namespace Go.Proofs.YtknfgcmidpgifaaDoor
open Go.RowKit Go.Shelf
set_option linter.unusedVariables false
set_option linter.unusedSimpArgs false
set_option maxRecDepth 100000

theorem below_put4 {N q : Nat} {w w1 : World} (h : Below N w w1) (hq : N ≤ q) (b0 b1 b2 b3 : Value) : Below N w (put4 w1 q b0 b1 b2 b3) :=
  (((h.setCell (p := ⟨q, 0, none⟩) hq b0).setCell (p := ⟨q, 1, none⟩) hq b1).setCell (p := ⟨q, 2, none⟩) hq b2).setCell (p := ⟨q, 3, none⟩) hq b3
/-- Three words in a block. -/
def Tri (w : World) (g : Nat) (a b c : List UInt8) : Prop := w.cell? ⟨g, 0, none⟩ = some (.string (bs a)) ∧ w.cell? ⟨g, 1, none⟩ = some (.string (bs b)) ∧ w.cell? ⟨g, 2, none⟩ = some (.string (bs c))
theorem Tri.later {w w' : World} {g : Nat} {a b c : List UInt8} (h : Tri w g a b c) (hb : Below w.heap.size w w') (hg : g < w.heap.size) : Tri w' g a b c :=
  ⟨(hb.cell (p := ⟨g, 0, none⟩) hg).trans h.1, (hb.cell (p := ⟨g, 1, none⟩) hg).trans h.2.1, (hb.cell (p := ⟨g, 2, none⟩) hg).trans h.2.2⟩

set_option maxHeartbeats 4000000 in
theorem first_any {w : World} (l : List UInt8) (g : Nat) (hl : l.length ≤ 1000000) (hp : Pl w g) (hE : Env w) : Calls Tryd.prog 14 #[.pointer (some ⟨g, 0, none⟩), .string (bs l)] w (FstPost w l) := by
  obtain ⟨N, hN⟩ : ∃ N, w.heap.size = N := ⟨_, rfl⟩
  have hb0 : Below w.heap.size w (w.alloc (.cells #[.string ⟨#[]⟩, .string ⟨#[]⟩, .int .i64 0, .slice none 0 0] 27)) := (Below.refl _ _).alloc (Nat.le_refl _) _
  have hx := cel_new4 w (.string ⟨#[]⟩) (.string ⟨#[]⟩) (.int .i64 0) (.slice none 0 0) 27
  have hsz : (w.alloc (.cells #[.string ⟨#[]⟩, .string ⟨#[]⟩, .int .i64 0, .slice none 0 0] 27)).heap.size = N + 1 := by simp [hN]
  have HSp := Lib.hid (split_any l 32 (hE.later hb0) hl)
  have HP := Lib.hid (hp.later hb0)
  have HM := Lib.hid (spl_sum 32 l)
  have HL := Lib.hid hl
  have HLl := Lib.hid (show (spl 32 l).length ≤ 1000000 + 1 by
    have := spl_len 32 l
    rw [this]
    have := Lib.countB_le ⟨#[32]⟩ (Nat.le_refl 1) _ (bs l) (Nat.le_refl _)
    rw [bs_size] at this
    show Lib.countB (bs l) ⟨#[32]⟩ + 1 ≤ _
    omega)
  rw [hN] at hx hb0
  have HB0 := Lib.hid hb0
  have HX := Lib.hid hx
  obtain ⟨W, hW⟩ : ∃ W, w.alloc (.cells #[.string ⟨#[]⟩, .string ⟨#[]⟩, .int .i64 0, .slice none 0 0] 27) = W := ⟨_, rfl⟩
  rw [hW] at HB0 HX HSp HP hsz
  have HSZ := Lib.hid hsz
  obtain ⟨L, hL⟩ : ∃ L, spl 32 l = L := ⟨_, rfl⟩
  rw [hL] at HSp HM HLl
  have HW := Lib.hid hW
  have HNN := Lib.hid hN
  clear hp hE hb0 hx hsz hl
  by_cases h3 : L.length = 3
  · obtain ⟨a, b, c, rfl⟩ : ∃ a b c, L = [a, b, c] := by
      match L, h3 with
      | [a, b, c], _ => exact ⟨a, b, c, rfl⟩
    have HF3 := Lib.hid (fstL_3 hL)
    have hl1 := HM.out a (by simp)
    have hl2 := HM.out b (by simp)
    have hl3 := HM.out c (by simp)
    have hll := HL.out
    have ha9 : a.length ≤ 1000000 := by omega
    have hb9 : b.length ≤ 1000000 := by omega
    have hc9 : c.length ≤ 1000000 := by omega
    clear h3 hL hl1 hl2 hl3 hll
    unfold fst3 at HF3
    by_cases he : a = [] ∨ b = [] ∨ c = []
    · have HF := Lib.hid (HF3.out.trans (if_pos he))
      have hct : [a, b, c].contains [] = true := by
        rw [List.contains_iff_mem]
        rcases he with rfl | rfl | rfl <;> simp
      clear he HF3
      go_enter Tryd.func14, Tryd.ntmps14
      go_wp2_with fail
      refine (HSp.out).mono ?_; rintro e w1 ⟨rfl, hb1, hs1, hc1⟩
      have HB1 := Lib.hid (HB0.out.trans (hb1.mono (by have := HSZ.out; omega)))
      have HX1 := Lib.hid (HX.out.below (by simp) hb1)
      have HP1 := Lib.hid (HP.out.later hb1)
      have HSL1 := Lib.hid (show N + 1 < w1.heap.size by have := HSZ.out; omega)
      have HC1 := Lib.hid (show Tri w1 (N + 1) a b c from by
        rw [HSZ.out] at hc1
        exact ⟨hc1 0 (by simp), hc1 1 (by simp), hc1 2 (by simp)⟩)
      have HCt := Lib.hid (contE_any (w := w1) (g := N + 1) (off := 0) (c := 3) [a, b, c] rfl (by simp) (by rw [← HSZ.out]; exact hc1))
      rw [hct] at HCt
      rw [HSZ.out]
      clear hb1 hs1 hc1 hct
      obtain ⟨c0, c1, c2, c3⟩ := HX1.out.four
      have cf := HX1.out.fz
      go_wp2_with fail
      refine (HCt.out).mono ?_; rintro e w2 ⟨rfl, hw⟩
      subst hw
      go_wp2_with fail
      have HK := Lib.hid (cel_put4 HX1.out (.string ⟨#[]⟩) (.string ⟨#[]⟩) (.int .i64 0) (.slice none 0 0))
      have HBf := Lib.hid (below_put4 HB1.out (Nat.le_refl _) (.string ⟨#[]⟩) (.string ⟨#[]⟩) (.int .i64 0) (.slice none 0 0))
      obtain ⟨m0, m1, m2, m3⟩ := HK.out.four
      unfold put4 at HBf m0 m1 m2 m3
      refine bodyPost_ret (by simp [results, Tryd.results14, go_sem, m0, m1, m2, m3]; rfl) rfl ⟨by rw [HF.out]; rfl, by rw [HNN.out]; exact HBf.out⟩
    · have HF4 := Lib.hid (HF3.out.trans (if_neg he))
      have hct : [a, b, c].contains [] = false := by
        rw [Bool.eq_false_iff]
        intro h
        rw [List.contains_iff_mem] at h
        simp at h
        exact he (by rcases h with h | h | h <;> simp [h.symm])
      clear he HF3
      have HMe := Lib.hid (fun wx (hx : Pl wx g) => method_any a g (by omega) wx hx)
      have HVe := Lib.hid (fun wx => version_any c (by omega) wx)
      have HTa := Lib.hid (fun wx (hx : Pl wx g) => target_any b g (by omega) wx hx)
      obtain ⟨B1, hB1⟩ : ∃ B, wordL a 16 = B := ⟨_, rfl⟩
      obtain ⟨V1, hV1⟩ : ∃ B, (verL c).1 = B := ⟨_, rfl⟩
      obtain ⟨V2, hV2⟩ : ∃ B, (verL c).2 = B := ⟨_, rfl⟩
      obtain ⟨B2, hB2⟩ : ∃ B, tgtL b = B := ⟨_, rfl⟩
      simp only [hB1] at HMe
      simp only [hV1, hV2] at HVe
      simp only [hB2] at HTa
      rw [hB1, hV1, hV2, hB2] at HF4
      clear hB1 hV1 hV2 hB2
      cases B1 with
      | false =>
        have HF := Lib.hid (HF4.out.trans (if_pos rfl))
        clear HF4
        go_enter Tryd.func14, Tryd.ntmps14
        go_wp2_with fail
        refine (HSp.out).mono ?_; rintro e w1 ⟨rfl, hb1, hs1, hc1⟩
        have HB1 := Lib.hid (HB0.out.trans (hb1.mono (by have := HSZ.out; omega)))
        have HX1 := Lib.hid (HX.out.below (by simp) hb1)
        have HP1 := Lib.hid (HP.out.later hb1)
        have HSL1 := Lib.hid (show N + 1 < w1.heap.size by have := HSZ.out; omega)
        have HC1 := Lib.hid (show Tri w1 (N + 1) a b c from by
          rw [HSZ.out] at hc1
          exact ⟨hc1 0 (by simp), hc1 1 (by simp), hc1 2 (by simp)⟩)
        have HCt := Lib.hid (contE_any (w := w1) (g := N + 1) (off := 0) (c := 3) [a, b, c] rfl (by simp) (by rw [← HSZ.out]; exact hc1))
        rw [hct] at HCt
        rw [HSZ.out]
        have c0 := HC1.out.1
        clear hb1 hs1 hc1 hct
        go_wp2_with fail
        refine (HCt.out).mono ?_; rintro e w2 ⟨rfl, hw⟩
        subst hw
        go_wp2_with fail
        refine (HMe.out _ HP1.out).mono ?_; rintro e w2 ⟨rfl, hb2⟩
        have HB2 := Lib.hid (HB1.out.trans (hb2.mono (by have := HB1.out.size; have := HSZ.out; have := HSL1.out; omega)))
        have HSL2 := Lib.hid (Nat.le_trans HSL1.out hb2.size)
        have HX2 := Lib.hid (HX1.out.below (by simp) hb2)
        have HP2 := Lib.hid (HP1.out.later hb2)
        have HC2 := Lib.hid (HC1.out.later hb2 HSL1.out)
        clear hb2 c0
        obtain ⟨c0, c1, c2, c3⟩ := HX2.out.four
        have cf := HX2.out.fz
        go_wp2_with fail
        have HK := Lib.hid (cel_put4 HX2.out (.string ⟨#[]⟩) (.string ⟨#[]⟩) (.int .i64 0) (.slice none 0 0))
        have HBf := Lib.hid (below_put4 HB2.out (Nat.le_refl _) (.string ⟨#[]⟩) (.string ⟨#[]⟩) (.int .i64 0) (.slice none 0 0))
        obtain ⟨m0, m1, m2, m3⟩ := HK.out.four
        unfold put4 at HBf m0 m1 m2 m3
        refine bodyPost_ret (by simp [results, Tryd.results14, go_sem, m0, m1, m2, m3]; rfl) rfl ⟨by rw [HF.out]; rfl, by rw [HNN.out]; exact HBf.out⟩
      | true =>
        have HF5 := Lib.hid (HF4.out.trans (if_neg (by simp)))
        clear HF4
        by_cases hv : V2 = 200
        · subst hv
          have HF6 := Lib.hid (HF5.out.trans (if_neg (by simp)))
          clear HF5
          by_cases hbl : 2048 < b.length
          · have HF := Lib.hid (HF6.out.trans (if_pos hbl))
            have t1 : (2048 : Int) < b.length := by omega
            clear HF6 hbl
            go_enter Tryd.func14, Tryd.ntmps14
            go_wp2_with fail
            refine (HSp.out).mono ?_; rintro e w1 ⟨rfl, hb1, hs1, hc1⟩
            have HB1 := Lib.hid (HB0.out.trans (hb1.mono (by have := HSZ.out; omega)))
            have HX1 := Lib.hid (HX.out.below (by simp) hb1)
            have HP1 := Lib.hid (HP.out.later hb1)
            have HSL1 := Lib.hid (show N + 1 < w1.heap.size by have := HSZ.out; omega)
            have HC1 := Lib.hid (show Tri w1 (N + 1) a b c from by
              rw [HSZ.out] at hc1
              exact ⟨hc1 0 (by simp), hc1 1 (by simp), hc1 2 (by simp)⟩)
            have HCt := Lib.hid (contE_any (w := w1) (g := N + 1) (off := 0) (c := 3) [a, b, c] rfl (by simp) (by rw [← HSZ.out]; exact hc1))
            rw [hct] at HCt
            rw [HSZ.out]
            have c0 := HC1.out.1
            clear hb1 hs1 hc1 hct
            go_wp2_with fail
            refine (HCt.out).mono ?_; rintro e w2 ⟨rfl, hw⟩
            subst hw
            go_wp2_with fail
            refine (HMe.out _ HP1.out).mono ?_; rintro e w2 ⟨rfl, hb2⟩
            have HB2 := Lib.hid (HB1.out.trans (hb2.mono (by have := HB1.out.size; have := HSZ.out; have := HSL1.out; omega)))
            have HSL2 := Lib.hid (Nat.le_trans HSL1.out hb2.size)
            have HX2 := Lib.hid (HX1.out.below (by simp) hb2)
            have HP2 := Lib.hid (HP1.out.later hb2)
            have HC2 := Lib.hid (HC1.out.later hb2 HSL1.out)
            clear hb2 c0
            have c2 := HC2.out.2.2
            go_wp2_with fail
            refine (HVe.out _).mono ?_; rintro e w3 ⟨rfl, hb3⟩
            have HB3 := Lib.hid (HB2.out.trans (hb3.mono (by have := HB2.out.size; have := HSZ.out; have := HSL2.out; omega)))
            have HSL3 := Lib.hid (Nat.le_trans HSL2.out hb3.size)
            have HX3 := Lib.hid (HX2.out.below (by simp) hb3)
            have HP3 := Lib.hid (HP2.out.later hb3)
            have HC3 := Lib.hid (HC2.out.later hb3 HSL2.out)
            clear hb3 c2
            have c1 := HC3.out.2.1
            obtain ⟨d0, d1, d2, d3⟩ := HX3.out.four
            have cf := HX3.out.fz
            go_wp2_with fail
            have HK := Lib.hid (cel_put4 HX3.out (.string ⟨#[]⟩) (.string ⟨#[]⟩) (.int .i64 0) (.slice none 0 0))
            have HBf := Lib.hid (below_put4 HB3.out (Nat.le_refl _) (.string ⟨#[]⟩) (.string ⟨#[]⟩) (.int .i64 0) (.slice none 0 0))
            obtain ⟨m0, m1, m2, m3⟩ := HK.out.four
            unfold put4 at HBf m0 m1 m2 m3
            refine bodyPost_ret (by simp [results, Tryd.results14, go_sem, m0, m1, m2, m3]; rfl) rfl ⟨by rw [HF.out]; rfl, by rw [HNN.out]; exact HBf.out⟩
          · have HF7 := Lib.hid (HF6.out.trans (if_neg hbl))
            have t1 : ¬ ((2048 : Int) < b.length) := by omega
            clear HF6 hbl
            cases B2 with
            | false =>
              have HF := Lib.hid (HF7.out.trans (if_pos rfl))
              clear HF7
              go_enter Tryd.func14, Tryd.ntmps14
              go_wp2_with fail
              refine (HSp.out).mono ?_; rintro e w1 ⟨rfl, hb1, hs1, hc1⟩
              have HB1 := Lib.hid (HB0.out.trans (hb1.mono (by have := HSZ.out; omega)))
              have HX1 := Lib.hid (HX.out.below (by simp) hb1)
              have HP1 := Lib.hid (HP.out.later hb1)
              have HSL1 := Lib.hid (show N + 1 < w1.heap.size by have := HSZ.out; omega)
              have HC1 := Lib.hid (show Tri w1 (N + 1) a b c from by
                rw [HSZ.out] at hc1
                exact ⟨hc1 0 (by simp), hc1 1 (by simp), hc1 2 (by simp)⟩)
              have HCt := Lib.hid (contE_any (w := w1) (g := N + 1) (off := 0) (c := 3) [a, b, c] rfl (by simp) (by rw [← HSZ.out]; exact hc1))
              rw [hct] at HCt
              rw [HSZ.out]
              have c0 := HC1.out.1
              clear hb1 hs1 hc1 hct
              go_wp2_with fail
              refine (HCt.out).mono ?_; rintro e w2 ⟨rfl, hw⟩
              subst hw
              go_wp2_with fail
              refine (HMe.out _ HP1.out).mono ?_; rintro e w2 ⟨rfl, hb2⟩
              have HB2 := Lib.hid (HB1.out.trans (hb2.mono (by have := HB1.out.size; have := HSZ.out; have := HSL1.out; omega)))
              have HSL2 := Lib.hid (Nat.le_trans HSL1.out hb2.size)
              have HX2 := Lib.hid (HX1.out.below (by simp) hb2)
              have HP2 := Lib.hid (HP1.out.later hb2)
              have HC2 := Lib.hid (HC1.out.later hb2 HSL1.out)
              clear hb2 c0
              have c2 := HC2.out.2.2
              go_wp2_with fail
              refine (HVe.out _).mono ?_; rintro e w3 ⟨rfl, hb3⟩
              have HB3 := Lib.hid (HB2.out.trans (hb3.mono (by have := HB2.out.size; have := HSZ.out; have := HSL2.out; omega)))
              have HSL3 := Lib.hid (Nat.le_trans HSL2.out hb3.size)
              have HX3 := Lib.hid (HX2.out.below (by simp) hb3)
              have HP3 := Lib.hid (HP2.out.later hb3)
              have HC3 := Lib.hid (HC2.out.later hb3 HSL2.out)
              clear hb3 c2
              have c1 := HC3.out.2.1
              go_wp2_with fail
              refine (HTa.out _ HP3.out).mono ?_; rintro e w4 ⟨rfl, hb4⟩
              have HB4 := Lib.hid (HB3.out.trans (hb4.mono (by have := HB3.out.size; have := HSZ.out; have := HSL3.out; omega)))
              have HSL4 := Lib.hid (Nat.le_trans HSL3.out hb4.size)
              have HX4 := Lib.hid (HX3.out.below (by simp) hb4)
              have HP4 := Lib.hid (HP3.out.later hb4)
              have HC4 := Lib.hid (HC3.out.later hb4 HSL3.out)
              clear hb4 c1
              obtain ⟨c0, c1, c2, c3⟩ := HX4.out.four
              have cf := HX4.out.fz
              go_wp2_with fail
              have HK := Lib.hid (cel_put4 HX4.out (.string ⟨#[]⟩) (.string ⟨#[]⟩) (.int .i64 0) (.slice none 0 0))
              have HBf := Lib.hid (below_put4 HB4.out (Nat.le_refl _) (.string ⟨#[]⟩) (.string ⟨#[]⟩) (.int .i64 0) (.slice none 0 0))
              obtain ⟨m0, m1, m2, m3⟩ := HK.out.four
              unfold put4 at HBf m0 m1 m2 m3
              refine bodyPost_ret (by simp [results, Tryd.results14, go_sem, m0, m1, m2, m3]; rfl) rfl ⟨by rw [HF.out]; rfl, by rw [HNN.out]; exact HBf.out⟩
            | true =>
              have HF := Lib.hid (HF7.out.trans (if_neg (by simp)))
              clear HF7
              go_enter Tryd.func14, Tryd.ntmps14
              go_wp2_with fail
              refine (HSp.out).mono ?_; rintro e w1 ⟨rfl, hb1, hs1, hc1⟩
              have HB1 := Lib.hid (HB0.out.trans (hb1.mono (by have := HSZ.out; omega)))
              have HX1 := Lib.hid (HX.out.below (by simp) hb1)
              have HP1 := Lib.hid (HP.out.later hb1)
              have HSL1 := Lib.hid (show N + 1 < w1.heap.size by have := HSZ.out; omega)
              have HC1 := Lib.hid (show Tri w1 (N + 1) a b c from by
                rw [HSZ.out] at hc1
                exact ⟨hc1 0 (by simp), hc1 1 (by simp), hc1 2 (by simp)⟩)
              have HCt := Lib.hid (contE_any (w := w1) (g := N + 1) (off := 0) (c := 3) [a, b, c] rfl (by simp) (by rw [← HSZ.out]; exact hc1))
              rw [hct] at HCt
              rw [HSZ.out]
              have c0 := HC1.out.1
              clear hb1 hs1 hc1 hct
              go_wp2_with fail
              refine (HCt.out).mono ?_; rintro e w2 ⟨rfl, hw⟩
              subst hw
              go_wp2_with fail
              refine (HMe.out _ HP1.out).mono ?_; rintro e w2 ⟨rfl, hb2⟩
              have HB2 := Lib.hid (HB1.out.trans (hb2.mono (by have := HB1.out.size; have := HSZ.out; have := HSL1.out; omega)))
              have HSL2 := Lib.hid (Nat.le_trans HSL1.out hb2.size)
              have HX2 := Lib.hid (HX1.out.below (by simp) hb2)
              have HP2 := Lib.hid (HP1.out.later hb2)
              have HC2 := Lib.hid (HC1.out.later hb2 HSL1.out)
              clear hb2 c0
              have c2 := HC2.out.2.2
              go_wp2_with fail
              refine (HVe.out _).mono ?_; rintro e w3 ⟨rfl, hb3⟩
              have HB3 := Lib.hid (HB2.out.trans (hb3.mono (by have := HB2.out.size; have := HSZ.out; have := HSL2.out; omega)))
              have HSL3 := Lib.hid (Nat.le_trans HSL2.out hb3.size)
              have HX3 := Lib.hid (HX2.out.below (by simp) hb3)
              have HP3 := Lib.hid (HP2.out.later hb3)
              have HC3 := Lib.hid (HC2.out.later hb3 HSL2.out)
              clear hb3 c2
              have c1 := HC3.out.2.1
              go_wp2_with fail
              refine (HTa.out _ HP3.out).mono ?_; rintro e w4 ⟨rfl, hb4⟩
              have HB4 := Lib.hid (HB3.out.trans (hb4.mono (by have := HB3.out.size; have := HSZ.out; have := HSL3.out; omega)))
              have HSL4 := Lib.hid (Nat.le_trans HSL3.out hb4.size)
              have HX4 := Lib.hid (HX3.out.below (by simp) hb4)
              have HP4 := Lib.hid (HP3.out.later hb4)
              have HC4 := Lib.hid (HC3.out.later hb4 HSL3.out)
              clear hb4 c1
              obtain ⟨p0, p1, p2⟩ := HC4.out
              obtain ⟨c0, c1, c2, c3⟩ := HX4.out.four
              have cf := HX4.out.fz
              go_wp2_with fail
              go_region
              have HK := Lib.hid (cel_put4 HX4.out (.string (bs a)) (.string (bs b)) (.int .i64 V1) (.slice none 0 0))
              have HBf := Lib.hid (below_put4 HB4.out (Nat.le_refl _) (.string (bs a)) (.string (bs b)) (.int .i64 V1) (.slice none 0 0)).drew
              obtain ⟨m0, m1, m2, m3⟩ := HK.out.four
              unfold put4 at HBf m0 m1 m2 m3
              clear c0 c1 c2 c3 p0 p1 p2
              go_wp2_with fail
              refine bodyPost_ret (by simp [results, Tryd.results14, go_sem, m0, m1, m2, m3]; rfl) rfl ⟨by rw [HF.out]; rfl, by rw [HNN.out]; exact HBf.out⟩
        · have HF := Lib.hid (HF5.out.trans (if_pos hv))
          have t1 : (V2 != 200) = true := by rw [bne_iff_ne]; exact hv
          clear HF5 hv
          go_enter Tryd.func14, Tryd.ntmps14
          go_wp2_with fail
          refine (HSp.out).mono ?_; rintro e w1 ⟨rfl, hb1, hs1, hc1⟩
          have HB1 := Lib.hid (HB0.out.trans (hb1.mono (by have := HSZ.out; omega)))
          have HX1 := Lib.hid (HX.out.below (by simp) hb1)
          have HP1 := Lib.hid (HP.out.later hb1)
          have HSL1 := Lib.hid (show N + 1 < w1.heap.size by have := HSZ.out; omega)
          have HC1 := Lib.hid (show Tri w1 (N + 1) a b c from by
            rw [HSZ.out] at hc1
            exact ⟨hc1 0 (by simp), hc1 1 (by simp), hc1 2 (by simp)⟩)
          have HCt := Lib.hid (contE_any (w := w1) (g := N + 1) (off := 0) (c := 3) [a, b, c] rfl (by simp) (by rw [← HSZ.out]; exact hc1))
          rw [hct] at HCt
          rw [HSZ.out]
          have c0 := HC1.out.1
          clear hb1 hs1 hc1 hct
          go_wp2_with fail
          refine (HCt.out).mono ?_; rintro e w2 ⟨rfl, hw⟩
          subst hw
          go_wp2_with fail
          refine (HMe.out _ HP1.out).mono ?_; rintro e w2 ⟨rfl, hb2⟩
          have HB2 := Lib.hid (HB1.out.trans (hb2.mono (by have := HB1.out.size; have := HSZ.out; have := HSL1.out; omega)))
          have HSL2 := Lib.hid (Nat.le_trans HSL1.out hb2.size)
          have HX2 := Lib.hid (HX1.out.below (by simp) hb2)
          have HP2 := Lib.hid (HP1.out.later hb2)
          have HC2 := Lib.hid (HC1.out.later hb2 HSL1.out)
          clear hb2 c0
          have c2 := HC2.out.2.2
          go_wp2_with fail
          refine (HVe.out _).mono ?_; rintro e w3 ⟨rfl, hb3⟩
          have HB3 := Lib.hid (HB2.out.trans (hb3.mono (by have := HB2.out.size; have := HSZ.out; have := HSL2.out; omega)))
          have HSL3 := Lib.hid (Nat.le_trans HSL2.out hb3.size)
          have HX3 := Lib.hid (HX2.out.below (by simp) hb3)
          have HP3 := Lib.hid (HP2.out.later hb3)
          have HC3 := Lib.hid (HC2.out.later hb3 HSL2.out)
          clear hb3 c2
          obtain ⟨c0, c1, c2, c3⟩ := HX3.out.four
          have cf := HX3.out.fz
          go_wp2_with fail
          have HK := Lib.hid (cel_put4 HX3.out (.string ⟨#[]⟩) (.string ⟨#[]⟩) (.int .i64 0) (.slice none 0 0))
          have HBf := Lib.hid (below_put4 HB3.out (Nat.le_refl _) (.string ⟨#[]⟩) (.string ⟨#[]⟩) (.int .i64 0) (.slice none 0 0))
          obtain ⟨m0, m1, m2, m3⟩ := HK.out.four
          unfold put4 at HBf m0 m1 m2 m3
          refine bodyPost_ret (by simp [results, Tryd.results14, go_sem, m0, m1, m2, m3]; rfl) rfl ⟨by rw [HF.out]; rfl, by rw [HNN.out]; exact HBf.out⟩
  · have t3 : ((L.length : Int) != 3) = true := by rw [bne_iff_ne]; omega
    have HF := Lib.hid (show fstL l = (z0, 400) from fstL_no (by rw [hL]; exact h3))
    clear h3 hL
    go_enter Tryd.func14, Tryd.ntmps14
    go_wp2_with fail
    refine (HSp.out).mono ?_; rintro e w1 ⟨rfl, hb1, hs1, hc1⟩
    have HB1 := Lib.hid (HB0.out.trans (hb1.mono (by have := HSZ.out; omega)))
    have HX1 := Lib.hid (HX.out.below (by simp) hb1)
    have HP1 := Lib.hid (HP.out.later hb1)
    clear hb1 hs1 hc1
    obtain ⟨c0, c1, c2, c3⟩ := HX1.out.four
    have cf := HX1.out.fz
    go_wp2_with fail
    have HK := Lib.hid (cel_put4 HX1.out (.string ⟨#[]⟩) (.string ⟨#[]⟩) (.int .i64 0) (.slice none 0 0))
    have HBf := Lib.hid (below_put4 HB1.out (Nat.le_refl _) (.string ⟨#[]⟩) (.string ⟨#[]⟩) (.int .i64 0) (.slice none 0 0))
    obtain ⟨m0, m1, m2, m3⟩ := HK.out.four
    unfold put4 at HBf m0 m1 m2 m3
    refine bodyPost_ret (by simp [results, Tryd.results14, go_sem, m0, m1, m2, m3]; rfl) rfl ⟨by rw [HF.out]; rfl, by rw [HNN.out]; exact HBf.out⟩
end Go.Proofs.YtknfgcmidpgifaaDoor

/-
  The lines of fields are read.
-/
namespace Go.Proofs.YtknfgcmidpgifaaDoor
open Go.RowKit Go.Shelf
set_option linter.unusedVariables false
set_option linter.unusedSimpArgs false
set_option maxRecDepth 100000

theorem cutc_any {w : World} (l : List UInt8) (hE : Env w) (hl : l.length ≤ 1000000) : Calls Tryd.prog 35 #[.string (bs l), .string ⟨#[58]⟩] w (Tells w (.tuple #[.string (bs (ahd l)), .string (bs (bhd l)), .bool (l.contains 58)])) := by
  obtain ⟨m, hm⟩ := hE.mx
  refine (Tryd.strings_Cut (bs l) ⟨#[58]⟩ m w (by rw [bs_size]; omega) hm).mono ?_
  rintro e w' ⟨rfl, n, rfl⟩
  have e : Lib.cut (bs l).data.toList (⟨#[58]⟩ : ByteArray).data.toList = (ahd l, bhd l, l.contains 58) := cut_colon l
  rw [e]
  exact ⟨rfl, below_drewN (Below.refl _ _) n⟩
theorem ahd_len (l : List UInt8) : (ahd l).length ≤ l.length := by unfold ahd; exact (List.takeWhile_sublist _).length_le
theorem bhd_len (l : List UInt8) : (bhd l).length ≤ l.length := by
  unfold bhd
  rw [List.length_drop]
  have := (List.dropWhile_sublist (l := l) (· != 58)).length_le
  omega
def FldPost (w : World) (L : List (List UInt8)) (e : Ending) (w' : World) : Prop := ∃ v, e = .returned (.tuple #[v, .int .i64 (fldsA [] L).2]) ∧ OwnF w' w.heap.size v (fldsA [] L).1 ∧ Below w.heap.size w w'
theorem OwnF.nil (w : World) (B : Nat) : OwnF w B (.slice none 0 0) [] := World.ownsRow_nil _ _ _ _
section
variable {w w' : World} {B k n : Nat} {e : TypeId} {v : Value} {xs : List Value}
theorem row_aside {G : Nat → Prop} (h : w.ownsRow B e k v n xs) (ha : Aside G w w') (hG : ∀ b, v.ownBlock = some b → ¬ G b) : w'.ownsRow B e k v n xs := by
  have hlt := World.ownsRow.lt h
  refine ⟨h.1, ?_⟩
  rcases h.2 with h2 | ⟨g, cap, cur, hv, hg, hh, r⟩
  · exact .inl h2
  · exact .inr ⟨g, cap, cur, hv, hg, (ha.block g (by subst hv; exact (hlt g rfl).2) (hG g (by rw [hv]; rfl))).trans hh, r⟩
theorem row_below (h : w.ownsRow B e k v n xs) (hb : Below w.heap.size w w') : w'.ownsRow B e k v n xs := row_aside (G := fun _ => False) h (Aside.of_all hb) fun _ _ h => h
theorem row_base {B' : Nat} (h : w.ownsRow B e k v n xs) (hB : B' ≤ B) : w.ownsRow B' e k v n xs := by
  refine ⟨h.1, ?_⟩
  rcases h.2 with h2 | ⟨g, cap, cur, h2⟩
  · exact .inl h2
  · exact .inr ⟨g, cap, cur, h2.1, Nat.le_trans hB h2.2.1, h2.2.2⟩
end
theorem OwnF.below {w w' : World} {B : Nat} {v : Value} {l : List Fd} (h : OwnF w B v l) (hb : Below w.heap.size w w') : OwnF w' B v l := row_below h hb
theorem OwnF.shape {w : World} {B : Nat} {v : Value} {l : List Fd} (h : OwnF w B v l) : ∃ a c, v = .slice a l.length c := row_shape h

theorem fldsA_stop {acc : List Fd} {l : List UInt8} {r : List (List UInt8)} (h : acc.length = 32) : fldsA acc (l :: r) = ([], 431) := by rw [fldsA, if_pos h]
theorem fldsA_bad {acc : List Fd} {l : List UInt8} {r : List (List UInt8)} (h : acc.length ≠ 32) (hb : badF l = true) : fldsA acc (l :: r) = ([], 400) := by rw [fldsA, if_neg h, if_pos hb]
theorem fldsA_go {acc : List Fd} {l : List UInt8} {r : List (List UInt8)} (h : acc.length ≠ 32) (hb : badF l = false) : fldsA acc (l :: r) = fldsA (acc ++ [(ahd l, trimB (bhd l))]) r := by rw [fldsA, if_neg h, if_neg (by rw [hb]; simp)]

set_option maxHeartbeats 8000000 in
theorem fields_any {w : World} {lo hi c : Nat} {a : Option Addr} (L : List (List UInt8)) (g : Nat) (hs : St w lo hi (.slice a L.length c) L) (hhi : hi ≤ w.heap.size) (hp : Pl w g) (hE : Env w) (hL : L.length ≤ 100000) (hl : ∀ x ∈ L, x.length ≤ 1000000) :
    Calls Tryd.prog 15 #[.pointer (some ⟨g, 0, none⟩), .slice a L.length c] w (FldPost w L) := by
  obtain ⟨R, hR⟩ : ∃ R, fldsA [] L = R := ⟨_, rfl⟩
  unfold FldPost
  rw [hR]
  have HR := Lib.hid hR
  have HE := Lib.hid hE
  have HP := Lib.hid hp
  have HS := Lib.hid (st_at hs)
  have HLL := Lib.hid hl
  have HH := Lib.hid hhi
  have HB := Lib.hid (Below.refl w.heap.size w)
  clear hR hE hp hs hl hhi
  go_enter Tryd.func15, Tryd.ntmps15
  go_wp2_with fail
  go_loopg [6, 15] L.length (fun n v6 v15 wr => ∃ (k : Nat) (acc : List Fd), k + n = L.length ∧ v15 = .int .i64 k ∧ acc.length ≤ 32 ∧ Hid (OwnF wr w.heap.size v6 acc) ∧ Hid (fldsA acc (L.drop k) = R) ∧ Hid (Below w.heap.size w wr))
  case atStart => exact ⟨0, [], by omega, rfl, by simp, OwnF.nil _ _, HR, HB⟩
  case round =>
    clear HR HB
    obtain ⟨k, acc, hk, rfl, hacc, HO, HF, HB⟩ := hrel
    obtain ⟨a6, c6, rfl⟩ := HO.out.shape
    by_cases hlt : k < L.length
    · obtain ⟨b, off, rfl, _, hb, hc⟩ := HS.out (by omega)
      have p0 := (HB.out.cell (p := ⟨b, off + k, none⟩) (by have := HH.out; show b < w.heap.size; omega)).trans (hc k hlt)
      have hdr : L.drop k = L[k] :: L.drop (k + 1) := List.drop_eq_getElem_cons hlt
      have hxl := HLL.out L[k] (List.getElem_mem hlt)
      have hF := HF.out
      rw [hdr] at hF
      obtain ⟨x, hx⟩ : ∃ x, L[k] = x := ⟨_, rfl⟩
      rw [hx] at p0 hF hxl
      replace HF := Lib.hid hF
      clear hc hx hdr hF
      by_cases h32 : acc.length = 32
      · have HRR := Lib.hid (show ([], 431) = R by rw [← HF.out, fldsA_stop h32])
        have t1 : ((acc.length : Int) == 32) = true := by rw [h32]; rfl
        clear HF
        go_wp2_with fail
        go_ret2
        exact ⟨.slice none 0 0, by rw [← HRR.out]; rfl, by rw [← HRR.out]; exact OwnF.nil _ _, HB.out⟩
      · have t1 : ((acc.length : Int) == 32) = false := by rw [beq_eq_false_iff_ne]; omega
        have H32 := Lib.hid h32
        have HC := Lib.hid (cutc_any x (HE.out.later HB.out) hxl)
        have HBA := Lib.hid (fun w => bare_any (bhd x) (by have := bhd_len x; omega) w)
        have HNA := Lib.hid (fun w hp => name_any (ahd x) g (by have := ahd_len x; omega) w hp)
        have HVA := Lib.hid (fun w hp => value_any (trimB (bhd x)) g (by have := bhd_len x; have := trimB_len (bhd x); omega) w hp)
        have HBF := Lib.hid (show badF x = (!(x.contains 58) || (!(wordL (ahd x) 64) || !(valL (trimB (bhd x))))) from rfl)
        obtain ⟨K1, hK1⟩ : ∃ K, x.contains 58 = K := ⟨_, rfl⟩
        obtain ⟨K2, hK2⟩ : ∃ K, wordL (ahd x) 64 = K := ⟨_, rfl⟩
        obtain ⟨K3, hK3⟩ : ∃ K, valL (trimB (bhd x)) = K := ⟨_, rfl⟩
        rw [hK1] at HC HBF
        rw [hK2] at HBF
        rw [hK3] at HBF
        simp only [hK2] at HNA
        simp only [hK3] at HVA
        clear hK1 hK2 hK3 h32 hxl
        go_wp2_with fail
        refine (HC.out).mono ?_; rintro e w2 ⟨rfl, hb2⟩
        have HB2 := Lib.hid (bel_call HB.out hb2)
        have HO2 := Lib.hid (HO.out.below hb2)
        clear hb2 HO
        go_wp2_with fail
        refine (HBA.out _).mono ?_; rintro e w3 ⟨rfl, hb3⟩
        have HB3 := Lib.hid (bel_call HB2.out hb3)
        have HO3 := Lib.hid (HO2.out.below hb3)
        clear hb3 HO2
        cases K1 with
        | false =>
          have HRR := Lib.hid (show ([], 400) = R by rw [← HF.out, fldsA_bad H32.out (by rw [HBF.out]; rfl)])
          clear HF
          go_wp2_with fail
          go_ret2
          exact ⟨.slice none 0 0, by rw [← HRR.out]; rfl, by rw [← HRR.out]; exact OwnF.nil _ _, HB3.out⟩
        | true =>
          cases K2 with
          | false =>
            have HRR := Lib.hid (show ([], 400) = R by rw [← HF.out, fldsA_bad H32.out (by rw [HBF.out]; rfl)])
            clear HF
            go_wp2_with fail
            refine (HNA.out _ (HP.out.later HB3.out)).mono ?_; rintro e w4 ⟨rfl, hb4⟩
            have HB4 := Lib.hid (bel_call HB3.out hb4)
            clear hb4
            go_wp2_with fail
            go_ret2
            exact ⟨.slice none 0 0, by rw [← HRR.out]; rfl, by rw [← HRR.out]; exact OwnF.nil _ _, HB4.out⟩
          | true =>
            cases K3 with
            | false =>
              have HRR := Lib.hid (show ([], 400) = R by rw [← HF.out, fldsA_bad H32.out (by rw [HBF.out]; rfl)])
              clear HF
              go_wp2_with fail
              refine (HNA.out _ (HP.out.later HB3.out)).mono ?_; rintro e w4 ⟨rfl, hb4⟩
              have HB4 := Lib.hid (bel_call HB3.out hb4)
              clear hb4
              go_wp2_with fail
              refine (HVA.out _ (HP.out.later HB4.out)).mono ?_; rintro e w5 ⟨rfl, hb5⟩
              have HB5 := Lib.hid (bel_call HB4.out hb5)
              clear hb5
              go_wp2_with fail
              go_ret2
              exact ⟨.slice none 0 0, by rw [← HRR.out]; rfl, by rw [← HRR.out]; exact OwnF.nil _ _, HB5.out⟩
            | true =>
              have HFF := Lib.hid (show fldsA (acc ++ [(ahd x, trimB (bhd x))]) (L.drop (k + 1)) = R by rw [← HF.out, fldsA_go H32.out (by rw [HBF.out]; rfl)])
              clear HF
              go_wp2_with fail
              refine (HNA.out _ (HP.out.later HB3.out)).mono ?_; rintro e w4 ⟨rfl, hb4⟩
              have HB4 := Lib.hid (bel_call HB3.out hb4)
              have HO4 := Lib.hid (HO3.out.below hb4)
              clear hb4
              go_wp2_with fail
              refine (HVA.out _ (HP.out.later HB4.out)).mono ?_; rintro e w5 ⟨rfl, hb5⟩
              have HB5 := Lib.hid (bel_call HB4.out hb5)
              have HO5 := Lib.hid (HO4.out.below hb5)
              clear hb5
              go_wp2_with (at_builtin; refine wpList_appF rfl (.tmp 44) (.tmp 48) rfl rfl w.heap.size ?h1 _ _ acc [(ahd x, trimB (bhd x))] rfl rfl ?a1 ?b1 ?c1 ?d1 ?_)
              case h1 => exact w5.heap.size + 1
              case a1 => exact HO5.out.below ((Below.refl _ _).alloc (Nat.le_refl _) _)
              case b1 => exact sf_one w5 (ahd x, trimB (bhd x))
              case c1 => simp; omega
              case d1 => have := HB5.out.size; simp; omega
              intro a' c' w' HO6 hb6
              have HB6 := Lib.hid ((HB5.out.alloc HB5.out.size _).trans hb6.out)
              have hac2 : (acc ++ [(ahd x, trimB (bhd x))]).length ≤ 32 := by have := H32.out; simp; omega
              clear hb6
              go_wp2_with fail
              go_roundg (L.length - (k + 1))
              case measure => omega
              case rel => exact ⟨k + 1, acc ++ [(ahd x, trimB (bhd x))], by omega, by go_num, hac2, HO6, HFF, HB6⟩
    · have t1 : ¬ ((k : Int) < L.length) := by omega
      have HRR := Lib.hid (show (acc, 200) = R by rw [← HF.out, List.drop_of_length_le (by omega)]; rfl)
      clear HF
      go_wp2_with fail
      go_ret2
      exact ⟨.slice a6 acc.length c6, by rw [← HRR.out]; rfl, by rw [← HRR.out]; exact HO.out, HB.out⟩
end Go.Proofs.YtknfgcmidpgifaaDoor
