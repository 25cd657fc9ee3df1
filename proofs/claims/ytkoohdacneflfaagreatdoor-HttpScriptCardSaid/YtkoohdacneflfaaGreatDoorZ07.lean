/-
  Which fields may not be.
-/
import Derived.Test.YtkoohdacneflfaaGreatDoorZ06
namespace Go.Proofs.YtkoohdacneflfaaGreatDoor
open Go.RowKit Go.Shelf
set_option linter.unusedVariables false
set_option linter.unusedSimpArgs false
set_option maxRecDepth 100000

def noF (x : Fd) : Bool := !(wordL x.1 64) || !(valL x.2)

set_option maxHeartbeats 1000000 in
theorem mayNot_any {w : World} (x : Fd) (q g : Nat) (hx : x.1.length ≤ 140737488351232 ∧ x.2.length ≤ 140737488351232) (hp : Pl w g) (hq : w.cell? ⟨q, 0, none⟩ = some (.pointer (some ⟨g, 0, none⟩))) :
    Calls Tryz.prog 66 #[.agg #[.string (bs x.1), .string (bs x.2)], .pointer (some ⟨q, 0, none⟩)] w (Tells w (.bool (noF x))) := by
  obtain ⟨n, v⟩ := x
  unfold noF
  simp only at hx ⊢
  have HN := Lib.hid (fun w hp => name_any n g hx.1 w hp)
  have HV := Lib.hid (fun w hp => value_any v g hx.2 w hp)
  obtain ⟨K1, hK1⟩ : ∃ K, wordL n 64 = K := ⟨_, rfl⟩
  obtain ⟨K2, hK2⟩ : ∃ K, valL v = K := ⟨_, rfl⟩
  simp only [hK1] at HN
  simp only [hK2] at HV
  rw [hK1, hK2]
  have hb0 : Below w.heap.size w (w.alloc (.cells #[.string (bs n), .string (bs v)] 71)) := (Below.refl _ _).alloc (Nat.le_refl _) _
  have HX := Lib.hid (cel_new2 w (.string (bs n)) (.string (bs v)) 71)
  have HB0 := Lib.hid hb0
  have HP := Lib.hid (hp.later hb0)
  have hq1 := cell_later hb0 hq
  have HQ := Lib.hid hq1
  obtain ⟨c0, c1⟩ := HX.out.two
  clear hK1 hK2 hb0 hp hx hq
  cases K1 with
  | false =>
    go_enter Tryz.func66, Tryz.ntmps66
    go_wp2_with fail
    refine (HN.out _ HP.out).mono ?_; rintro e w1 ⟨rfl, hb1⟩
    have HB1 := Lib.hid (bel_call HB0.out hb1)
    clear hb1
    go_wp2_with fail
    go_ret
    exact ⟨rfl, HB1.out⟩
  | true =>
    go_enter Tryz.func66, Tryz.ntmps66
    go_wp2_with fail
    refine (HN.out _ HP.out).mono ?_; rintro e w1 ⟨rfl, hb1⟩
    have HB1 := Lib.hid (bel_call HB0.out hb1)
    have HP1 := Lib.hid (HP.out.later hb1)
    obtain ⟨d0, d1⟩ := (HX.out.below (by simp) hb1).two
    have hq2 := cell_later hb1 HQ.out
    clear hb1 c0 c1 hq1
    go_wp2_with fail
    refine (HV.out _ HP1.out).mono ?_; rintro e w2 ⟨rfl, hb2⟩
    have HB2 := Lib.hid (bel_call HB1.out hb2)
    clear hb2
    cases K2 with
    | false =>
      go_wp2_with fail
      go_ret
      exact ⟨rfl, HB2.out⟩
    | true =>
      go_wp2_with fail
      go_ret
      exact ⟨rfl, HB2.out⟩

/-- What the first place of one that may not be reads as. -/
def IfPost (w : World) (l : List Fd) (e : Ending) (w' : World) : Prop := ∃ i : Int, e = .returned (.int .i64 i) ∧ (0 ≤ i ↔ l.any noF = true) ∧ Below w.heap.size w w'

set_option maxHeartbeats 2000000 in
theorem indexF_any {w : World} {hi : Nat} {u : Value} (l : List Fd) (q g : Nat) (h : SF w hi u l) (h1 : hi ≤ w.heap.size) (hm : ∀ x ∈ l, x.1.length ≤ 140737488351232 ∧ x.2.length ≤ 140737488351232) (hp : Pl w g) (hq : w.cell? ⟨q, 0, none⟩ = some (.pointer (some ⟨g, 0, none⟩))) :
    Calls Tryz.prog 93 #[u, .func (.func 66) #[] #[.pointer (some ⟨q, 0, none⟩)]] w (IfPost w l) := by
  obtain ⟨R, hR⟩ : ∃ R, l.any noF = R := ⟨_, rfl⟩
  unfold IfPost
  rw [hR]
  have HR := Lib.hid hR
  have HN := Lib.hid (Lst.len h)
  obtain ⟨a, c, rfl⟩ := Lst.shape h
  have HS := Lib.hid h
  have HM := Lib.hid hm
  have HH := Lib.hid h1
  have HP := Lib.hid hp
  have HQ := Lib.hid hq
  have HB := Lib.hid (Below.refl w.heap.size w)
  clear h h1 hR hm hp hq
  go_enter Tryz.func93, Tryz.ntmps93
  go_wp2_with fail
  go_loopg [8] l.length (fun n v8 wr => ∃ k : Nat, k + n = l.length ∧ v8 = .int .i64 k ∧ Hid ((l.take k).any noF = false) ∧ Hid (Below w.heap.size w wr))
  case atStart => exact ⟨0, by omega, rfl, Lib.hid rfl, HB⟩
  case round =>
    clear HB
    obtain ⟨k, hk, rfl, HA, HB⟩ := hrel
    have hlen := HN.out
    by_cases hlt : k < l.length
    · obtain ⟨b, off, c2, he, hb, hc⟩ := HS.out.at_ k hlt
      injection he with he hn3 hc3
      clear hn3 hc3
      subst he
      obtain ⟨p0, p1⟩ := hc.keep fun o => HB.out.cell (p := ⟨b, o, none⟩) (by have := HH.out; show b < w.heap.size; omega)
      have htk : l.take (k + 1) = l.take k ++ [l[k]] := by rw [List.take_add_one, List.getElem?_eq_getElem hlt]; rfl
      have HAL := Lib.hid (show noF l[k] = true → R = true from fun h => by rw [← HR.out]; exact List.any_eq_true.mpr ⟨_, List.getElem_mem hlt, h⟩)
      have HAN := Lib.hid (show noF l[k] = false → (l.take (k + 1)).any noF = false from fun h => by rw [htk, List.any_append, HA.out]; simp [h])
      have HMN := Lib.hid (mayNot_any (w := wr) l[k] q g (HM.out _ (List.getElem_mem hlt)) (HP.out.later HB.out) (cell_later HB.out HQ.out))
      obtain ⟨x, hx⟩ : ∃ x, l[k] = x := ⟨_, rfl⟩
      rw [hx] at p0 p1 HAL HAN HMN
      obtain ⟨K, hK⟩ : ∃ K, noF x = K := ⟨_, rfl⟩
      rw [hK] at HAL HAN HMN
      clear hc hx htk hK hb
      go_wp2_with fail
      refine (HMN.out).mono ?_; rintro e w2 ⟨rfl, hb2⟩
      have HB2 := Lib.hid (bel_call HB.out hb2)
      clear hb2 p0 p1
      cases K with
      | true =>
        have HRR := Lib.hid (HAL.out rfl)
        go_wp2_with fail
        go_ret
        exact ⟨_, rfl, by rw [HRR.out]; simp, HB2.out⟩
      | false =>
        have HAA := Lib.hid (HAN.out rfl)
        go_wp2_with fail
        go_roundg (l.length - (k + 1))
        case measure => omega
        case rel => exact ⟨k + 1, by omega, by go_num, HAA, HB2⟩
    · have t1 : ¬ ((k : Int) < l.length) := by omega
      have HRR := Lib.hid (show R = false by rw [← HR.out, ← HA.out, List.take_of_length_le (by omega)])
      go_wp2_with fail
      go_ret
      exact ⟨_, rfl, by rw [HRR.out]; simp, HB.out⟩

set_option maxHeartbeats 1000000 in
theorem containsF_any {w : World} {hi : Nat} {u : Value} (l : List Fd) (q g : Nat) (h : SF w hi u l) (h1 : hi ≤ w.heap.size) (hm : ∀ x ∈ l, x.1.length ≤ 140737488351232 ∧ x.2.length ≤ 140737488351232) (hp : Pl w g) (hq : w.cell? ⟨q, 0, none⟩ = some (.pointer (some ⟨g, 0, none⟩))) :
    Calls Tryz.prog 69 #[u, .func (.func 66) #[] #[.pointer (some ⟨q, 0, none⟩)]] w (Tells w (.bool (l.any noF))) := by
  have HI := Lib.hid (indexF_any l q g h h1 hm hp hq)
  unfold IfPost at HI
  obtain ⟨R, hR⟩ : ∃ R, l.any noF = R := ⟨_, rfl⟩
  rw [hR] at HI ⊢
  obtain ⟨a, c, rfl⟩ := Lst.shape h
  clear h h1 hm hp hq hR
  go_enter Tryz.func69, Tryz.ntmps69
  go_wp2_with fail
  refine (HI.out).mono ?_; rintro e w1 ⟨i, rfl, hi, hb⟩
  have HB := Lib.hid hb
  have HQ := Lib.hid hi
  clear hb hi
  go_wp2_with fail
  go_ret
  refine ⟨congrArg (fun b => Ending.returned (Value.bool b)) ?_, HB.out⟩
  rw [Bool.eq_iff_iff]
  simpa using HQ.out
end Go.Proofs.YtkoohdacneflfaaGreatDoor

/-
  What a head's bytes are put together of.
-/
namespace Go.Proofs.YtkoohdacneflfaaGreatDoor
open Go.RowKit Go.Shelf
set_option linter.unusedVariables false
set_option linter.unusedSimpArgs false
set_option maxRecDepth 100000

/-- Texts just laid, in a row of their own. -/
theorem ownT_made (w : World) (B : Nat) (l : List (List UInt8)) (hB : B ≤ w.heap.size) (hl : l.length ≤ 1000000) : OwnT (w.alloc (.cells (l.map tv).toArray 9)) B (.slice (some ⟨w.heap.size, 0, none⟩) l.length l.length) l := by
  refine .inr ⟨w.heap.size, l.length, by rw [List.length_map], hB, by rw [List.length_map]; exact Nat.le_refl _, by unfold maxLen; omega, ?_⟩
  rw [World.alloc_heap_new, List.length_map, Nat.sub_self, List.replicate_zero, List.append_nil]
theorem st_made (w : World) (l : List (List UInt8)) (hl : l.length ≤ 1000000) : St (w.alloc (.cells (l.map tv).toArray 9)) w.heap.size (w.heap.size + 1) (.slice (some ⟨w.heap.size, 0, none⟩) l.length l.length) l := by
  have := (ownT_made w w.heap.size l (Nat.le_refl _) hl).st
  rwa [World.size_alloc] at this
theorem dec0 : Lib.decDigits 0 = [48] := by rw [Lib.decDigits]; rfl
theorem dec1 : Lib.decDigits 1 = [49] := by rw [Lib.decDigits]; rfl
theorem itoa_any (v : Int) (hv : v = 0 ∨ v = 1) (w : World) : Calls Tryz.prog 75 #[.int .i64 v] w fun e w' => e = .returned (.string (bs (dgt v))) ∧ w' = w := by
  rcases hv with rfl | rfl
  · refine (Tryz.strconv_Itoa_small 0 (by omega) w).mono ?_
    rintro e w' ⟨rfl, rfl⟩
    exact ⟨by rw [dec0]; rfl, rfl⟩
  · refine (Tryz.strconv_Itoa_small 1 (by omega) w).mono ?_
    rintro e w' ⟨rfl, rfl⟩
    exact ⟨by rw [dec1]; rfl, rfl⟩

def PcPost (w : World) (L : List (List UInt8)) (e : Ending) (w' : World) : Prop := ∃ v, e = .returned v ∧ OwnT w' w.heap.size v L ∧ Below w.heap.size w w'
def pc0 (h : Hd) : List (List UInt8) := [h.m, [32], h.t, htp, dgt h.v, crlf]
theorem pcs_eq (h : Hd) : pcs h = pc0 h ++ h.fs.flatMap pcF ++ [crlf] := rfl
theorem pcF_step (l : List Fd) (k : Nat) (hk : k < l.length) : (l.take (k + 1)).flatMap pcF = (l.take k).flatMap pcF ++ pcF l[k] := by
  rw [List.take_add_one, List.getElem?_eq_getElem hk, List.flatMap_append]
  simp
theorem pcF_len (l : List Fd) : (l.flatMap pcF).length = 4 * l.length := by
  induction l with
  | nil => rfl
  | cons x r ih => rw [List.flatMap_cons, List.length_append, ih]; simp [pcF]; omega

set_option maxHeartbeats 8000000 in
theorem pieces_any {w : World} {hi : Nat} {u : Value} {h : Hd} (hh : Hv w hi u h) (h1 : hi ≤ w.heap.size) (hv : h.v = 0 ∨ h.v = 1) (hl : h.fs.length ≤ 100000) :
    Calls Tryz.prog 44 #[u] w (PcPost w (pcs h)) := by
  rw [pcs_eq]
  unfold pc0
  obtain ⟨m, t, v, l⟩ := h
  obtain ⟨sl, rfl, hs0⟩ := hh
  simp only at hs0 hv hl ⊢
  have HIT := Lib.hid (itoa_any v hv)
  have HN := Lib.hid hl
  obtain ⟨a, c, rfl⟩ := Lst.shape hs0
  obtain ⟨N, hN⟩ : ∃ N, w.heap.size = N := ⟨_, rfl⟩
  have hb0 : Below w.heap.size w (w.alloc (.cells #[.string (bs m), .string (bs t), .int .i64 v, .slice a l.length c] 42)) := (Below.refl _ _).alloc (Nat.le_refl _) _
  have hx := cel_new4 w (.string (bs m)) (.string (bs t)) (.int .i64 v) (.slice a l.length c) 42
  have HS := Lib.hid (show SF _ hi _ l from Lst.below hs0 hb0 h1)
  rw [hN] at hx hb0 h1
  have HB0 := Lib.hid hb0
  have HX := Lib.hid hx
  have hsz : (w.alloc (.cells #[.string (bs m), .string (bs t), .int .i64 v, .slice a l.length c] 42)).heap.size = N + 1 := by simp [hN]
  obtain ⟨W, hW⟩ : ∃ W, w.alloc (.cells #[.string (bs m), .string (bs t), .int .i64 v, .slice a l.length c] 42) = W := ⟨_, rfl⟩
  rw [hW] at HB0 HX HS hsz
  have HSZ := Lib.hid hsz
  have HH := Lib.hid h1
  obtain ⟨c0, c1, c2, c3⟩ := HX.out.four
  clear hs0 hb0 hx hsz h1 hl hv
  go_enter Tryz.func44, Tryz.ntmps44
  go_wp2_with fail
  have hq : ∀ w2, Below W.heap.size W w2 → w2.cell? ⟨N, 0, none⟩ = some (.string (bs m)) ∧ w2.cell? ⟨N, 1, none⟩ = some (.string (bs t)) ∧ w2.cell? ⟨N, 2, none⟩ = some (.int .i64 v) := fun w2 hb => by
    obtain ⟨d0, d1, d2, _⟩ := (HX.out.below (by simp) hb).four
    exact ⟨d0, d1, d2⟩
  have HQ := Lib.hid hq
  clear hq
  go_region_held3 (fun wx => wx.cell? ⟨N, 0, none⟩ = some (.string (bs m)) ∧ wx.cell? ⟨N, 1, none⟩ = some (.string (bs t)) ∧ wx.cell? ⟨N, 2, none⟩ = some (.int .i64 v)) (first | exact HQ.out _ (Below.refl _ W).drew | exact HQ.out _ ((Below.refl _ W).alloc (Nat.le_refl _) _).drew | exact HQ.out _ ((Below.refl _ W).drew.alloc (Nat.le_refl _) _) | exact HQ.out _ (Below.refl _ W)) (first
    | (go_at_call 75; refine (HIT.out _).mono ?_; rintro e w2 ⟨rfl, rfl⟩))
  obtain ⟨X, hX⟩ : ∃ X, (W.alloc (.cells ([m, [32], t, htp, dgt v, crlf].map tv).toArray 9)).drew = X := ⟨_, rfl⟩
  have HXX := Lib.hid hX
  have hbX : Below W.heap.size W X := by rw [← hX]; exact ((Below.refl _ W).alloc (Nat.le_refl _) _).drew
  have hoX : OwnT X W.heap.size (.slice (some ⟨W.heap.size, 0, none⟩) 6 6) [m, [32], t, htp, dgt v, crlf] := by
    rw [← hX]
    have h6 := ownT_made W W.heap.size [m, [32], t, htp, dgt v, crlf] (Nat.le_refl _) (by simp)
    exact h6.below (Below.refl _ _).drew
  have HOX := Lib.hid hoX
  have HBX := Lib.hid hbX
  have HXc := Lib.hid (HX.out.below (by simp) hbX)
  clear hX hbX hoX c0 c1 c2 c3
  rw [show (W.alloc (.cells #[.string (bs m), .string ⟨#[32]⟩, .string (bs t), .string ⟨#[32, 72, 84, 84, 80, 47, 49, 46]⟩, .string (bs (dgt v)), .string ⟨#[13, 10]⟩] 9)).drew = X from HXX.out]
  obtain ⟨c0, c1, c2, c3⟩ := HXc.out.four
  clear HXX
  obtain ⟨P0, hP0⟩ : ∃ P, [m, [32], t, htp, dgt v, crlf] = P := ⟨_, rfl⟩
  have hPl : P0.length = 6 := by rw [← hP0]; rfl
  have hgo : (m :: [32] :: t :: htp :: dgt v :: crlf :: (List.flatMap pcF l ++ [crlf])) = P0 ++ l.flatMap pcF ++ [crlf] := by rw [← hP0]; simp
  have HGO := Lib.hid hgo
  rw [hP0] at HOX
  have HPL := Lib.hid hPl
  clear hP0 hgo hPl
  go_wp2_with fail
  clear c0 c1 c2 c3
  go_loopg [3, 17] l.length (fun n v3 v17 wr => ∃ (k : Nat) (Q : List (List UInt8)), k + n = l.length ∧ v17 = .int .i64 k ∧ Hid (P0 ++ (l.take k).flatMap pcF = Q) ∧ Hid (OwnT wr W.heap.size v3 Q) ∧ Hid (Below W.heap.size W wr))
  case atStart => exact ⟨0, P0, by omega, rfl, Lib.hid (by simp), HOX, HBX⟩
  case round =>
    clear HOX
    obtain ⟨k, Q, hk, rfl, HQ1, HO, HB⟩ := hrel
    have hkb : k ≤ 100000 := by have := HN.out; omega
    obtain ⟨a3, c3, rfl⟩ := HO.out.shape
    have hll : Q.length = 6 + 4 * k := by rw [← HQ1.out, List.length_append, HPL.out, pcF_len, List.length_take]; omega
    have hBk : Below W.heap.size W wr := HB.out
    by_cases hlt : k < l.length
    · obtain ⟨b, off, c2, he, hb, hc⟩ := HS.out.at_ k hlt
      injection he with he hn3 hc3
      clear hn3 hc3
      subst he
      obtain ⟨p0, p1⟩ := hc.keep fun o => hBk.cell (p := ⟨b, o, none⟩) (by have := HSZ.out; have := HH.out; show b < W.heap.size; omega)
      have hvs := pcF_step l k hlt
      obtain ⟨x, hx⟩ : ∃ x, l[k] = x := ⟨_, rfl⟩
      rw [hx] at p0 p1 hvs
      have HVS := Lib.hid (show P0 ++ (l.take (k + 1)).flatMap pcF = Q ++ pcF x by rw [hvs, ← HQ1.out, List.append_assoc])
      obtain ⟨W1, hW1⟩ : ∃ W1, wr.alloc (.cells #[.string (bs x.1), .string (bs x.2)] 71) = W1 := ⟨_, rfl⟩
      have hbw : Below wr.heap.size wr W1 := by rw [← hW1]; exact (Below.refl _ _).alloc (Nat.le_refl _) _
      have HX1 := Lib.hid (show Cel W1 wr.heap.size [.string (bs x.1), .string (bs x.2)] by rw [← hW1]; exact cel_new2 wr _ _ _)
      have HO1 := Lib.hid (HO.out.below hbw)
      have HB1 := Lib.hid (bel_call hBk hbw)
      have HW1 := Lib.hid hW1
      have HLL := Lib.hid hll
      clear hvs hc hx hb hBk hbw HB HO hW1 hll
      go_wp2_with (at_builtin; refine wpList_appT rfl (.tmp 21) (.tmp 26) rfl rfl W.heap.size ?l1 ?h1 _ _ Q (pcF x) rfl rfl ?a1 ?b1 ?c1 ?d1 ?_)
      case l1 => exact W1.heap.size
      case h1 => exact W1.heap.size + 1
      case a1 => rw [HW1.out]; exact HO1.out.below ((Below.refl _ _).alloc (Nat.le_refl _) _)
      case b1 =>
        have h4 := st_made W1 (pcF x) (by simp [pcF])
        have hs : W1.heap.size = wr.heap.size + 1 := by rw [← HW1.out, World.size_alloc]
        rw [HW1.out]
        rw [hs] at h4 ⊢
        exact h4
      case c1 => have := HLL.out; simp [pcF]; omega
      case d1 => rw [HW1.out]; have := HB1.out.size; simp; omega
      intro a' c' w' HO3 hb3
      rw [HW1.out] at hb3
      have HB3 := Lib.hid (show Below W.heap.size W w' from (HB1.out.alloc HB1.out.size _).trans hb3.out)
      have HQ3 := Lib.hid HVS.out
      have hlen : (pcF x).length = 4 := rfl
      clear hb3
      go_wp2_with fail
      go_roundg (l.length - (k + 1))
      case measure => omega
      case rel => exact ⟨k + 1, Q ++ pcF x, by omega, by go_num, HQ3, HO3, HB3⟩
    · have t1 : ¬ ((k : Int) < l.length) := by omega
      have HQ4 := Lib.hid (show (m :: [32] :: t :: htp :: dgt v :: crlf :: (List.flatMap pcF l ++ [crlf])) = Q ++ [crlf] by
        rw [HGO.out, ← HQ1.out, List.take_of_length_le (by omega)])
      have HBk := Lib.hid hBk
      have HLL := Lib.hid hll
      clear hBk hll
      go_wp2_with (at_builtin; refine wpList_appT rfl (.tmp 29) (.tmp 30) rfl rfl W.heap.size ?l1 ?h1 _ _ Q [crlf] rfl rfl ?a1 ?b1 ?c1 ?d1 ?_)
      case l1 => exact wr.heap.size
      case h1 => exact wr.heap.size + 1
      case a1 => exact HO.out.below ((Below.refl _ _).alloc (Nat.le_refl _) _)
      case b1 => exact st_one wr crlf
      case c1 => have := HLL.out; omega
      case d1 => have := HBk.out.size; simp; omega
      intro a' c' w' HO3 hb3
      have HB3 := Lib.hid (show Below W.heap.size W w' from (HBk.out.alloc HBk.out.size _).trans hb3.out)
      clear hb3
      go_wp2_with fail
      go_ret
      refine ⟨_, rfl, ?_, ?_⟩
      · rw [HQ4.out]
        exact HO3.out.mono (by rw [hN, HSZ.out]; omega)
      · rw [hN]
        exact HB0.out.trans (HB3.out.mono (by rw [HSZ.out]; omega))

theorem sum_le (L : List (List UInt8)) (k : Nat) : ((L.take k).map List.length).sum ≤ (L.map List.length).sum := by
  conv => rhs; rw [← List.take_append_drop k L, List.map_append, List.sum_append]
  omega
theorem sum_step (L : List (List UInt8)) (k : Nat) (hk : k < L.length) : ((L.take (k + 1)).map List.length).sum = ((L.take k).map List.length).sum + L[k].length := by
  rw [List.take_add_one, List.getElem?_eq_getElem hk, List.map_append, List.sum_append]
  simp

set_option maxHeartbeats 1000000 in
theorem size_any {w : World} {lo hi c : Nat} {a : Option Addr} (L : List (List UInt8)) (hs : St w lo hi (.slice a L.length c) L) (hm : (L.map List.length).sum ≤ 9000000000000000000) (hL : L.length ≤ 1000000) :
    Calls Tryz.prog 71 #[.slice a L.length c] w (Tells w (.int .i64 (L.flatten.length : Nat))) := by
  rw [List.length_flatten]
  have HM := Lib.hid hm
  have HS := Lib.hid (st_at hs)
  obtain ⟨T, hT⟩ : ∃ T, (L.map List.length).sum = T := ⟨_, rfl⟩
  rw [hT] at HM ⊢
  have HT := Lib.hid hT
  have HB := Lib.hid (Below.refl w.heap.size w)
  clear hs hT hm
  go_enter Tryz.func71, Tryz.ntmps71
  go_wp2_with fail
  go_loopg [3, 8] L.length (fun g v3 v8 wr => ∃ k n : Nat, k + g = L.length ∧ v8 = .int .i64 k ∧ v3 = .int .i64 n ∧ Hid (((L.take k).map List.length).sum = n) ∧ w = wr)
  case atStart => exact ⟨0, 0, by omega, rfl, rfl, Lib.hid rfl, rfl⟩
  case round =>
    obtain ⟨k, n, hk, rfl, rfl, HN, rfl⟩ := hrel
    by_cases hlt : k < L.length
    · obtain ⟨b, off, rfl, _, _, hc⟩ := HS.out (by omega)
      have p0 := hc k hlt
      have hst := sum_step L k hlt
      rw [HN.out] at hst
      have hle := sum_le L (k + 1)
      rw [hst, HT.out] at hle
      have hM := HM.out
      obtain ⟨x, hx⟩ : ∃ x, L[k] = x := ⟨_, rfl⟩
      rw [hx] at p0 hst hle
      have HST := Lib.hid hst
      have hbd : n + x.length ≤ 9000000000000000000 := by omega
      clear hc hx hst hle hM
      go_wp2_with fail
      go_roundg (L.length - (k + 1))
      case measure => omega
      case rel => exact ⟨k + 1, n + x.length, by omega, by go_num, by go_num, HST, rfl⟩
    · have t1 : ¬ ((k : Int) < L.length) := by omega
      have HE := Lib.hid (show n = T by rw [← HN.out, ← HT.out, List.take_of_length_le (by omega)])
      go_wp2_with fail
      go_ret
      exact ⟨by rw [HE.out]; rfl, HB.out⟩
end Go.Proofs.YtkoohdacneflfaaGreatDoor
