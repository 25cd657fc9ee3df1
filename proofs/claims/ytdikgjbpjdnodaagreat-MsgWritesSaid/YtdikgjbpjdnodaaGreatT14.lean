/-
  Numbers as bytes; whether a packer was made; a question's bytes.
-/
import Derived.Test.YtdikgjbpjdnodaaGreatT13
import Derived.Test.YtdikgjbpjdnodaaGreatT10
import Derived.Test.YtdikgjbpjdnodaaGreatT03
import Derived.Test.YtdikgjbpjdnodaaGreatT11
import Derived.Deep.Slices
import Derived.Deep.LoopGhost
import Derived.ChangeArms
import Derived.Outline
import Derived.Maps.AppendAt
namespace Go.Proofs.YtdikgjbpjdnodaaGreat
open Go.RowKit Go.Shelf
set_option linter.unusedVariables false
set_option linter.unusedSimpArgs false
set_option maxRecDepth 100000

def two (n : Int) : List UInt8 := [UInt8.ofNat (n.toNat / 256), UInt8.ofNat (n.toNat % 256)]
def four (n : Int) : List UInt8 := [UInt8.ofNat (n.toNat / 16777216), UInt8.ofNat (n.toNat / 65536 % 256), UInt8.ofNat (n.toNat / 256 % 256), UInt8.ofNat (n.toNat % 256)]

theorem iz_two (n : Int) (h0 : 0 ≤ n) (h1 : n ≤ 65535) : iz (two n) = putL2 n := by
  unfold putL2 two iz
  rw [if_pos ⟨h0, h1⟩]
  simp only [List.map_cons, List.map_nil, UInt8.toNat_ofNat']
  congr 1
  · omega
  · congr 1; omega

theorem iz_four (n : Int) (h0 : 0 ≤ n) (h1 : n ≤ 4294967295) : iz (four n) = putL4 n := by
  unfold putL4 four iz
  rw [if_pos ⟨h0, h1⟩]
  simp only [List.map_cons, List.map_nil, UInt8.toNat_ofNat']
  congr 1
  · omega
  · congr 1
    · omega
    · congr 1
      · omega
      · congr 1; omega

theorem sl_keep {w w' : World} {v : Value} {l : List Int} (h : Sl w 0 w.heap.size v l) (hb : Below w.heap.size w w') : Sl w' 0 w'.heap.size v l := (h.below hb (Nat.le_refl _)).wide (Nat.le_refl _) hb.size

theorem two_any (n : Int) (h0 : 0 ≤ n) (h1 : n ≤ 65535) (w : World) : Calls Tryz.prog 105 #[.int .i64 n] w fun e w' => ∃ a c, e = .returned (.slice a 2 c) ∧ Sl w' 0 w'.heap.size (.slice a 2 c) (iz (two n)) ∧ Below w.heap.size w w' := by
  have HP : Hid (Calls Tryz.prog 54 #[.int .i64 n] w fun e w' => ∃ a c, e = .returned (.tuple #[.slice a 2 c, .int .i64 (putE 65535 n)]) ∧ Sl w' 0 w'.heap.size (.slice a 2 c) (iz (two n)) ∧ Below w.heap.size w w') := by
    refine (put16_any n w).mono ?_
    rintro e w' ⟨v, g, rfl, ho, _, _, hb⟩
    rw [← iz_two n h0 h1] at ho
    have hs := ho.sl.top
    obtain ⟨a, c, rfl, _⟩ := id hs
    exact ⟨a, c, rfl, hs, hb⟩
  obtain ⟨E, hE⟩ : ∃ E, putE 65535 n = E := ⟨_, rfl⟩
  rw [hE] at HP
  clear hE
  go_enter Tryz.func105, Tryz.ntmps105
  go_wp2_with fail
  refine HP.out.mono ?_; rintro e w1 ⟨a, c, rfl, hs, hb⟩
  have HQ := Lib.hid (And.intro hs hb)
  clear hs hb
  go_wp2_with fail
  go_ret
  exact ⟨a, c, rfl, HQ.out⟩

theorem four_any (n : Int) (h0 : 0 ≤ n) (h1 : n ≤ 4294967295) (w : World) : Calls Tryz.prog 135 #[.int .i64 n] w fun e w' => ∃ a c, e = .returned (.slice a 4 c) ∧ Sl w' 0 w'.heap.size (.slice a 4 c) (iz (four n)) ∧ Below w.heap.size w w' := by
  have HP : Hid (Calls Tryz.prog 141 #[.int .i64 n] w fun e w' => ∃ a c, e = .returned (.tuple #[.slice a 4 c, .int .i64 (putE 4294967295 n)]) ∧ Sl w' 0 w'.heap.size (.slice a 4 c) (iz (four n)) ∧ Below w.heap.size w w') := by
    refine (put32_any n w).mono ?_
    rintro e w' ⟨v, g, rfl, ho, _, _, hb⟩
    rw [← iz_four n h0 h1] at ho
    have hs := ho.sl.top
    obtain ⟨a, c, rfl, _⟩ := id hs
    exact ⟨a, c, rfl, hs, hb⟩
  obtain ⟨E, hE⟩ : ∃ E, putE 4294967295 n = E := ⟨_, rfl⟩
  rw [hE] at HP
  clear hE
  go_enter Tryz.func135, Tryz.ntmps135
  go_wp2_with fail
  refine HP.out.mono ?_; rintro e w1 ⟨a, c, rfl, hs, hb⟩
  have HQ := Lib.hid (And.intro hs hb)
  clear hs hb
  go_wp2_with fail
  go_ret
  exact ⟨a, c, rfl, HQ.out⟩

theorem made_any {w : World} {p bm e : Nat} {K : KK} (h : Pk w p bm K e) (hG : GoodK K) (hK : K.length ≤ 900000) (he : e ≤ 1000000) : Calls Tryz.prog 101 #[.pointer (some ⟨p, 0, none⟩)] w fun x w' => x = .returned (.bool true) ∧ Pk w' p bm K e ∧ Aside (fun b => b = p ∨ b = bm) w w' := by
  have hE : pkE e 0 [] = 4 := by unfold pkE; rw [if_pos (by rw [chk_nil]; decide), chk_nil]
  have HN : Hid (Calls Tryz.prog 103 #[.pointer (some ⟨p, 0, none⟩), .int .i64 0, .string ⟨#[]⟩] w fun x w' => ∃ v, x = .returned (.tuple #[v, .int .i64 4]) ∧ Pk w' p bm K e ∧ Aside (fun b => b = p ∨ b = bm) w w') := by
    refine (show Calls Tryz.prog _ #[.pointer (some ⟨p, 0, none⟩), .int .i64 0, .string ⟨#[]⟩] w _ from name_any h hG hK he 0 [] (by simp)).mono ?_
    rintro x w' ⟨v, rfl, _, hp, ha⟩
    unfold nameK nameE at hp
    rw [hE, if_neg (by decide), if_neg (by decide)] at hp
    exact ⟨v, by rw [hE], hp, ha⟩
  clear h hE
  go_enter Tryz.func101, Tryz.ntmps101
  go_wp2_with fail
  refine HN.out.mono ?_; rintro e w1 ⟨v, rfl, hp, ha⟩
  have HP := Lib.hid (And.intro hp ha)
  clear hp ha
  go_wp2_with fail
  go_ret
  exact ⟨rfl, HP.out⟩

/-- A question's bytes, or the error. -/
def askW (a : Int) (n : List UInt8) (t c : Int) (K : KK) (e : Nat) : WR :=
  if askE n t c ≠ 0 then ⟨[], askE n t c, K, e⟩ else if pkE e a n ≠ 0 then ⟨[], pkE e a n, K, e⟩ else ⟨nameB K e a n ++ (two t ++ two c), 0, nameK K e a n, nameE K e a n⟩

theorem askE_ok {n : List UInt8} {t c : Int} (h : askE n t c = 0) : chk n = 0 ∧ 0 ≤ t ∧ t ≤ 65535 ∧ 0 ≤ c ∧ c ≤ 65535 := by
  unfold askE at h
  split at h
  · rename_i h1; exact absurd h h1
  · rename_i h1
    split at h
    · exact absurd h (by decide)
    · exact ⟨by simpa using h1, by omega, by omega, by omega, by omega⟩

theorem cel_new3 (w : World) (a b c : Value) (T : TypeId) : Cel (w.alloc (.cells #[a, b, c] T)) w.heap.size [a, b, c] := ⟨fun j hj => by
    match j, hj with
    | 0, _ => simp [go_sem]
    | 1, _ => simp [go_sem]
    | 2, _ => simp [go_sem], fun j => by simp [go_sem]⟩

set_option maxHeartbeats 8000000 in
theorem askC_any {w : World} {p bm e : Nat} {K : KK} (h : Pk w p bm K e) (hG : GoodK K) (hK : K.length ≤ 800000) (he : e ≤ 900000) (a : Int) (n : List UInt8) (hn : n.length ≤ 1000000) (t c : Int) :
    Calls Tryz.prog 97 #[.pointer (some ⟨p, 0, none⟩), .int .i64 a, .agg #[.string (bs n), .int .i64 t, .int .i64 c]] w (WrPost w p bm (askW a n t c K e)) := by
  obtain ⟨W0, hW0⟩ : ∃ W0, w.alloc (.cells #[.string (bs n), .int .i64 t, .int .i64 c] 56) = W0 := ⟨_, rfl⟩
  have hb0 : Below w.heap.size w W0 := by rw [← hW0]; exact (Below.refl _ _).alloc (Nat.le_refl _) _
  have hx : Cel W0 w.heap.size [.string (bs n), .int .i64 t, .int .i64 c] := by rw [← hW0]; exact cel_new3 w _ _ _ _
  have HM := Lib.hid (made_any (h.later hb0) hG (by omega) (by omega))
  have hpl := h.lt
  have hml := h.map.lt
  have HA0 := Lib.hid (Aside.of_all hb0 : Aside (fun b => b = p ∨ b = bm) w W0)
  have HAk := Lib.hid (fun wx => ask_any n hn t c wx)
  obtain ⟨g, hg⟩ : ∃ g, w.heap.size = g := ⟨_, rfl⟩
  have HX := Lib.hid hx
  rw [hg] at HX
  have hgp : ¬ (g = p ∨ g = bm) := by omega
  clear h hx hb0
  obtain ⟨X, hX⟩ : ∃ X, askW a n t c K e = X := ⟨_, rfl⟩
  rw [hX]
  have HXv := Lib.hid hX
  clear hX
  by_cases hA : askE n t c = 0
  · obtain ⟨hch, ht0, ht1, hc0, hc1⟩ := askE_ok hA
    have hn255 := (chk_pos hch).2
    have HNm := Lib.hid (fun (wx : World) (hp : Pk wx p bm K e) => name_any hp hG (by omega) (by omega) a n (by omega))
    unfold NamePost at HNm
    rw [hA] at HAk
    unfold askW at HXv
    rw [if_neg (by simpa using hA)] at HXv
    have hnb := (nameB_len (e := e) (a := a) (n := n) hG).1
    obtain ⟨E, hE⟩ : ∃ E, pkE e a n = E := ⟨_, rfl⟩
    obtain ⟨T, hT⟩ : ∃ T, nameB K e a n = T := ⟨_, rfl⟩
    obtain ⟨K2, hK2⟩ : ∃ K2, nameK K e a n = K2 := ⟨_, rfl⟩
    obtain ⟨e2, he2⟩ : ∃ e2, nameE K e a n = e2 := ⟨_, rfl⟩
    rw [hE, hT, hK2, he2] at HNm HXv
    rw [hT] at hnb
    have HT2 := Lib.hid (fun wx => two_any t ht0 ht1 wx)
    have HC2 := Lib.hid (fun wx => two_any c hc0 hc1 wx)
    have hKE : E ≠ 0 → K2 = K ∧ e2 = e := fun hne => by rw [← hK2, ← he2]; unfold nameK nameE; rw [hE, if_neg hne, if_neg hne]; exact ⟨rfl, rfl⟩
    clear hE hT hK2 he2 hA hch ht0 ht1 hc0 hc1 hG hn255
    go_enter Tryz.func97, Tryz.ntmps97
    go_wp2_with fail
    refine HM.out.mono ?_; rintro e0 w1 ⟨rfl, hp1, ha1⟩
    replace HX := Lib.hid (HX.out.aside (by simp) ha1 hgp)
    have HPk := Lib.hid hp1
    have HAs := Lib.hid (HA0.out.trans ha1)
    have c0 : w1.cell? ⟨g, 0, none⟩ = some (.string (bs n)) := HX.out.c 0 (by simp)
    have c1 : w1.cell? ⟨g, 1, none⟩ = some (.int .i64 t) := HX.out.c 1 (by simp)
    have c2 : w1.cell? ⟨g, 2, none⟩ = some (.int .i64 c) := HX.out.c 2 (by simp)
    clear hp1 ha1 HM HA0
    go_wp2_with fail
    refine (HAk.out _).mono ?_; rintro e0 w2 ⟨rfl, hb⟩
    replace HX := Lib.hid (HX.out.below (by simp) hb)
    replace HPk := Lib.hid (HPk.out.later hb)
    replace HAs := Lib.hid (HAs.out.trans (Aside.of_all hb))
    clear hb c0 c1 c2
    have c0 : w2.cell? ⟨g, 0, none⟩ = some (.string (bs n)) := HX.out.c 0 (by simp)
    go_wp2_with fail
    refine (HNm.out _ HPk.out).mono ?_; rintro e0 w3 ⟨v3, rfl, ho, hp3, ha3⟩
    replace HX := Lib.hid (HX.out.aside (by simp) ha3 hgp)
    replace HPk := Lib.hid hp3
    replace HAs := Lib.hid (HAs.out.trans ha3)
    have HS0 := Lib.hid ho.sl.top
    obtain ⟨a0, k0, rfl⟩ := ho.shape
    clear hp3 ha3 ho c0
    by_cases hE0 : E = 0
    · subst hE0
      rw [if_neg (by simp)] at HXv
      have HXD := Lib.hid (Below.refl w3.heap.size w3).drew
      replace HX := Lib.hid (HX.out.below (by simp) HXD.out)
      replace HPk := Lib.hid (HPk.out.later HXD.out)
      replace HAs := Lib.hid (HAs.out.trans (Aside.of_all HXD.out))
      replace HS0 := Lib.hid (sl_keep HS0.out HXD.out)
      clear HXD hKE
      go_wp2_with fail
      refine wp_region_held_drew (S := (fun wx => wx.cell? ⟨g, 1, none⟩ = some (.int .i64 t) ∧ wx.cell? ⟨g, 2, none⟩ = some (.int .i64 c))) (by kernel_rfl) ⟨HX.out.c 1 (by simp), HX.out.c 2 (by simp)⟩ (fun hHeld => ?_)
      refine wpAnyH_take (i := 0) (oi := { dst := some 35, op := Op.move (Operand.tmp 9), type := 28, pos := "rec.go:100", after := #[], guard := none }) (v := ?_) rfl (by kernel_rfl) (by kernel_rfl) (by kernel_rfl) (fun _ _ _ h => h) (Or.inl ⟨by rfl, ?_⟩) (by assumption) ?_
      rotate_left 1
      · intro w hSw; (try dsimp only at hSw); go_simp; try (with_reducible rfl)
      try simp only [Act.put, List.setIfInBounds_toArray, List.set_cons_zero, List.set_cons_succ]
      refine wpAnyH_take (i := 1) (oi := { dst := some 36, op := Op.fieldAddr 56 (Operand.tmp 5) 1, type := 0, pos := "rec.go:100", after := #[], guard := none }) (v := ?_) rfl (by kernel_rfl) (by kernel_rfl) (by kernel_rfl) (fun _ _ _ h => h) (Or.inl ⟨by rfl, ?_⟩) (by assumption) ?_
      rotate_left 1
      · intro w hSw; (try dsimp only at hSw); go_simp; try (with_reducible rfl)
      try simp only [Act.put, List.setIfInBounds_toArray, List.set_cons_zero, List.set_cons_succ]
      refine wpAnyH_take (i := 2) (oi := { dst := some 37, op := Op.load 3 (Operand.tmp 36), type := 3, pos := "rec.go:100", after := #[{ on := 1, ground := Ground.data }], guard := none }) (v := ?_) rfl (by kernel_rfl) (by kernel_rfl) (by kernel_rfl) (fun _ _ _ h => h) (Or.inl ⟨by rfl, ?_⟩) (by assumption) ?_
      rotate_left 1
      · intro w hSw; (try dsimp only at hSw); go_simp; try (with_reducible rfl)
      try simp only [Act.put, List.setIfInBounds_toArray, List.set_cons_zero, List.set_cons_succ]
      refine wpAnyH_take (i := 4) (oi := { dst := some 39, op := Op.fieldAddr 56 (Operand.tmp 5) 2, type := 0, pos := "rec.go:100", after := #[], guard := none }) (v := ?_) rfl (by kernel_rfl) (by kernel_rfl) (by kernel_rfl) (fun _ _ _ h => h) (Or.inl ⟨by rfl, ?_⟩) (by assumption) ?_
      rotate_left 1
      · intro w hSw; (try dsimp only at hSw); go_simp; try (with_reducible rfl)
      try simp only [Act.put, List.setIfInBounds_toArray, List.set_cons_zero, List.set_cons_succ]
      refine wpAnyH_take (i := 5) (oi := { dst := some 40, op := Op.load 3 (Operand.tmp 39), type := 3, pos := "rec.go:100", after := #[{ on := 4, ground := Ground.data }], guard := none }) (v := ?_) rfl (by kernel_rfl) (by kernel_rfl) (by kernel_rfl) (fun _ _ _ h => h) (Or.inl ⟨by rfl, ?_⟩) (by assumption) ?_
      rotate_left 1
      · intro w hSw; (try dsimp only at hSw); go_simp; try (with_reducible rfl)
      try simp only [Act.put, List.setIfInBounds_toArray, List.set_cons_zero, List.set_cons_succ]
      refine wpAnyH_ready (rs := [3]) (by kernel_rfl) (by simp) ?_
      refine AllReadyH.cons (o := { dst := some 38, op := Op.call { callee := Callee.value (Operand.func 105), args := #[Operand.tmp 37], argTypes := #[3] }, type := 28, pos := "rec.go:100", after := #[{ on := 2, ground := Ground.data }], guard := none }) rfl (fun K hK => ?_) (AllReadyH.nil)
      go_simp
      refine (HT2.out _).mono ?_; rintro e0 w4 ⟨a1, k1, rfl, hs1, hb⟩
      have HS1 := Lib.hid hs1
      clear hs1
      replace HX := Lib.hid (HX.out.below (by simp) hb)
      replace HPk := Lib.hid (HPk.out.later hb)
      replace HAs := Lib.hid (HAs.out.trans (Aside.of_all hb))
      replace HS0 := Lib.hid (sl_keep HS0.out hb)
      clear hb
      try go_wp2_with fail
      refine hK.out _ _ ⟨HX.out.c 1 (by simp), HX.out.c 2 (by simp)⟩ (fun hHeld => ?_)
      clear hK K
      try simp only [Act.put, List.setIfInBounds_toArray, List.set_cons_zero, List.set_cons_succ]
      refine wpAnyH_ready (rs := [6]) (by kernel_rfl) (by simp) ?_
      refine AllReadyH.cons (o := { dst := some 41, op := Op.call { callee := Callee.value (Operand.func 105), args := #[Operand.tmp 40], argTypes := #[3] }, type := 28, pos := "rec.go:100", after := #[{ on := 5, ground := Ground.data }, { on := 3, ground := Ground.chain }], guard := none }) rfl (fun K hK => ?_) (AllReadyH.nil)
      go_simp
      refine (HC2.out _).mono ?_; rintro e0 w5 ⟨a2, k2, rfl, hs2, hb⟩
      have HS2 := Lib.hid hs2
      clear hs2
      replace HX := Lib.hid (HX.out.below (by simp) hb)
      replace HPk := Lib.hid (HPk.out.later hb)
      replace HAs := Lib.hid (HAs.out.trans (Aside.of_all hb))
      replace HS0 := Lib.hid (sl_keep HS0.out hb)
      replace HS1 := Lib.hid (sl_keep HS1.out hb)
      clear hb
      try go_wp2_with fail
      refine hK.out _ _ ⟨HX.out.c 1 (by simp), HX.out.c 2 (by simp)⟩ (fun hHeld => ?_)
      clear hK K
      try simp only [Act.put, List.setIfInBounds_toArray, List.set_cons_zero, List.set_cons_succ]
      refine wpAnyH_ready (rs := [7]) (by kernel_rfl) (by simp) ?_
      refine AllReadyH.cons (o := { dst := some 42, op := Op.buildSlice 161 3 #[(0, Operand.tmp 35), (1, Operand.tmp 38), (2, Operand.tmp 41)], type := 161, pos := "rec.go:100", after := #[{ on := 0, ground := Ground.data }, { on := 3, ground := Ground.data }, { on := 6, ground := Ground.data }], guard := none }) rfl (fun K hK => ?_) (AllReadyH.nil)
      go_simp
      have hb : Below w5.heap.size w5 (w5.alloc (.cells #[.slice a0 T.length k0, .slice a1 2 k1, .slice a2 2 k2] 28)) := (Below.refl _ _).alloc (Nat.le_refl _) _
      replace HX := Lib.hid (HX.out.below (by simp) hb)
      replace HPk := Lib.hid (HPk.out.later hb)
      replace HAs := Lib.hid (HAs.out.trans (Aside.of_all hb))
      replace HS0 := Lib.hid (sl_keep HS0.out hb)
      replace HS1 := Lib.hid (sl_keep HS1.out hb)
      replace HS2 := Lib.hid (sl_keep HS2.out hb)
      clear hb
      have HCc := Lib.hid (concat_any (w := (w5.alloc (.cells #[.slice a0 T.length k0, .slice a1 2 k1, .slice a2 2 k2] 28))) (g := w5.heap.size) (lo := 0) (hi := (w5.alloc (.cells #[.slice a0 T.length k0, .slice a1 2 k1, .slice a2 2 k2] 28)).heap.size) (n := 3) (c0 := 3) (ls := [T, two t, two c]) rfl (by decide) (by simp) (Nat.le_refl _) (by simp [two]; omega) (fun j hj => by
        match j, hj with
        | 0, _ => exact ⟨a0, k0, by simp [go_sem], HS0.out⟩
        | 1, _ => exact ⟨a1, k1, by simp [go_sem, two], HS1.out⟩
        | 2, _ => exact ⟨a2, k2, by simp [go_sem, two], HS2.out⟩))
      refine hK.out _ _ ⟨HX.out.c 1 (by simp), HX.out.c 2 (by simp)⟩ (fun hHeld => ?_)
      clear hK K
      try simp only [Act.put, List.setIfInBounds_toArray, List.set_cons_zero, List.set_cons_succ]
      refine wpAnyH_ready (rs := [8]) (by kernel_rfl) (by simp) ?_
      refine AllReadyH.cons (o := { dst := some 43, op := Op.call { callee := Callee.value (Operand.func 104), args := #[Operand.tmp 42], argTypes := #[161] }, type := 28, pos := "rec.go:100", after := #[{ on := 7, ground := Ground.data }, { on := 6, ground := Ground.chain }], guard := none }) rfl (fun K hK => ?_) (AllReadyH.nil)
      go_simp
      refine HCc.out.mono ?_; rintro e0 w6 ⟨v6, rfl, ho, hb⟩
      have HO := Lib.hid ho
      have HAs0 := Lib.hid HAs.out
      clear ho HCc HS0 HS1 HS2
      replace HX := Lib.hid (HX.out.below (by simp) hb)
      replace HPk := Lib.hid (HPk.out.later hb)
      replace HAs := Lib.hid (HAs.out.trans (Aside.of_all hb))
      clear hb
      try go_wp2_with fail
      refine hK.out _ _ ⟨HX.out.c 1 (by simp), HX.out.c 2 (by simp)⟩ (fun hHeld => ?_)
      clear hK K
      try simp only [Act.put, List.setIfInBounds_toArray, List.set_cons_zero, List.set_cons_succ]
      refine wpAnyH_take (i := 9) (oi := { dst := some 6, op := Op.assign (Operand.tmp 43), type := 28, pos := "rec.go:100", after := #[{ on := 8, ground := Ground.data }, { on := 8, ground := Ground.chain }, { on := 0, ground := Ground.phase }, { on := 1, ground := Ground.phase }, { on := 2, ground := Ground.phase }, { on := 3, ground := Ground.phase }, { on := 4, ground := Ground.phase }, { on := 5, ground := Ground.phase }, { on := 6, ground := Ground.phase }, { on := 7, ground := Ground.phase }, { on := 8, ground := Ground.phase }], guard := none }) (v := ?_) rfl (by kernel_rfl) (by kernel_rfl) (by kernel_rfl) (fun _ _ _ h => h) (Or.inl ⟨by rfl, ?_⟩) (by assumption) ?_
      rotate_left 1
      · intro w hSw; (try dsimp only at hSw); go_simp; try (with_reducible rfl)
      try simp only [Act.put, List.setIfInBounds_toArray, List.set_cons_zero, List.set_cons_succ]
      refine wpAnyH_take (i := 10) (oi := { dst := some 7, op := Op.assign (Operand.const (Value.int IntKind.i64 0)), type := 29, pos := "rec.go:100", after := #[{ on := 9, ground := Ground.chain }, { on := 0, ground := Ground.phase }, { on := 1, ground := Ground.phase }, { on := 2, ground := Ground.phase }, { on := 3, ground := Ground.phase }, { on := 4, ground := Ground.phase }, { on := 5, ground := Ground.phase }, { on := 6, ground := Ground.phase }, { on := 7, ground := Ground.phase }, { on := 8, ground := Ground.phase }, { on := 9, ground := Ground.phase }], guard := none }) (v := ?_) rfl (by kernel_rfl) (by kernel_rfl) (by kernel_rfl) (fun _ _ _ h => h) (Or.inl ⟨by rfl, ?_⟩) (by assumption) ?_
      rotate_left 1
      · intro w hSw; (try dsimp only at hSw); go_simp; try (with_reducible rfl)
      try simp only [Act.put, List.setIfInBounds_toArray, List.set_cons_zero, List.set_cons_succ]
      refine wpAnyH_done (by kernel_rfl) ?_ _
      clear hHeld
      go_wp2_with fail
      go_ret2
      rw [← HXv.out]
      exact ⟨_, rfl, HO.out.mono HAs0.out.size, HPk.out, HAs.out⟩
    · have tE : (E != 0) = true := by simpa using hE0
      rw [if_pos hE0] at HXv
      obtain ⟨rfl, rfl⟩ := hKE hE0
      go_wp2_with fail
      go_ret2
      rw [← HXv.out]
      exact ⟨_, rfl, OwnB.nil _ _, HPk.out, HAs.out⟩
  · obtain ⟨E, hE⟩ : ∃ E, askE n t c = E := ⟨_, rfl⟩
    unfold askW at HXv
    rw [hE] at HAk HXv hA
    rw [if_pos hA] at HXv
    have tE : (E != 0) = true := by simpa using hA
    clear hE hA
    go_enter Tryz.func97, Tryz.ntmps97
    go_wp2_with fail
    refine HM.out.mono ?_; rintro e0 w1 ⟨rfl, hp1, ha1⟩
    replace HX := Lib.hid (HX.out.aside (by simp) ha1 hgp)
    have HPk := Lib.hid hp1
    have HAs := Lib.hid (HA0.out.trans ha1)
    have c0 : w1.cell? ⟨g, 0, none⟩ = some (.string (bs n)) := HX.out.c 0 (by simp)
    have c1 : w1.cell? ⟨g, 1, none⟩ = some (.int .i64 t) := HX.out.c 1 (by simp)
    have c2 : w1.cell? ⟨g, 2, none⟩ = some (.int .i64 c) := HX.out.c 2 (by simp)
    clear hp1 ha1 HM HA0
    go_wp2_with fail
    refine (HAk.out _).mono ?_; rintro e0 w2 ⟨rfl, hb⟩
    replace HPk := Lib.hid (HPk.out.later hb)
    replace HAs := Lib.hid (HAs.out.trans (Aside.of_all hb))
    clear hb c0 c1 c2
    go_wp2_with fail
    go_ret2
    rw [← HXv.out]
    exact ⟨_, rfl, OwnB.nil _ _, HPk.out, HAs.out⟩
end Go.Proofs.YtdikgjbpjdnodaaGreat

/-
  Acts that came in: types, places, whether these are places as they are, data.
-/
namespace Go.Proofs.YtdikgjbpjdnodaaGreat
open Go.RowKit Go.Shelf
set_option linter.unusedVariables false
set_option maxRecDepth 100000

/-- A type, a number, whether it is a place as it is, data. -/
structure AQ where
  t : Int
  a : Int
  r : Bool
  d : List UInt8

/-- The cells of an act. -/
def AtQ (w : World) (b o : Nat) (x : AQ) : Prop :=
  w.cell? ⟨b, o, none⟩ = some (.int .i64 x.t) ∧ w.cell? ⟨b, o + 1, none⟩ = some (.int .i64 x.a) ∧ w.cell? ⟨b, o + 2, none⟩ = some (.bool x.r) ∧ w.cell? ⟨b, o + 3, none⟩ = some (.string (bs x.d))

/-- The slice v reads as these acts; what it leads to lies in blocks below hi. -/
def Aq (w : World) (hi : Nat) (v : Value) (l : List AQ) : Prop :=
  ∃ a c, v = .slice a l.length c ∧ (0 < l.length → ∃ b off, a = some ⟨b, off, none⟩ ∧ b < hi ∧ ∀ j (h : j < l.length), AtQ w b (off + j * 4) l[j] ∧ (Lit.int .i64 l[j].t).wf = true ∧ (Lit.int .i64 l[j].a).wf = true)

theorem AtQ.keep {w w' : World} {b o : Nat} {x : AQ} (h : AtQ w b o x) (hk : ∀ o, w'.cell? ⟨b, o, none⟩ = w.cell? ⟨b, o, none⟩) : AtQ w' b o x :=
  ⟨(hk _).trans h.1, (hk _).trans h.2.1, (hk _).trans h.2.2.1, (hk _).trans h.2.2.2⟩

theorem Aq.below {w w' : World} {hi B : Nat} {v : Value} {l : List AQ} (h : Aq w hi v l) (hb : Below B w w') (hB : hi ≤ B) : Aq w' hi v l := by
  obtain ⟨a, c, rfl, hx⟩ := h
  refine ⟨a, c, rfl, fun h0 => ?_⟩
  obtain ⟨b, off, rfl, h1, h2⟩ := hx h0
  refine ⟨b, off, rfl, h1, fun j hj => ?_⟩
  obtain ⟨c0, c1⟩ := h2 j hj
  exact ⟨c0.keep fun o => hb.cell (p := ⟨b, o, none⟩) (Nat.lt_of_lt_of_le h1 hB), c1⟩

end Go.Proofs.YtdikgjbpjdnodaaGreat

/-
  What is written is read as it was; plainly.
-/
namespace Go.Proofs.YtdikgjbpjdnodaaGreat
open Go.RowKit Go.Shelf
set_option linter.unusedVariables false
set_option maxRecDepth 100000

theorem toldE_rd {b : List UInt8} {K : KK} {e : Nat} {P : KK} (h : Inv b K e P) {ls : List (List UInt8)} (hs : Shorts ls) :
    ∀ d k, k + d = hdn K ls → ∀ part, b.length ≤ part → StandE (b ++ told K ls) part (b.length + pos ls k) (ls.drop k) (b.length + (told K ls).length) := by
  have hll := hdn_le K ls
  intro d
  induction d with
  | zero =>
    intro k hk part hp
    have hkh : k = hdn K ls := by omega
    subst hkh
    rcases Nat.lt_or_ge (hdn K ls) ls.length with hlt | hge
    · obtain ⟨x, hx⟩ := hdn_stop hlt
      have hx2 := good_lt h.good hx
      have hxe := h.ahead _ (plc_mem hx)
      obtain ⟨p1, p2⟩ := ptr_pb hx2
      have htd : told K ls = wire (ls.take (hdn K ls)) ++ [UInt8.ofNat (192 + x / 256), UInt8.ofNat (x % 256)] := by unfold told restb; rw [hx]; rfl
      have hpl : pos ls (hdn K ls) = (wire (ls.take (hdn K ls))).length := rfl
      have g0 : (b ++ told K ls)[b.length + pos ls (hdn K ls)]? = some (UInt8.ofNat (192 + x / 256)) := by
        rw [htd, List.getElem?_append_right (by omega), Nat.add_sub_cancel_left, hpl, List.getElem?_append_right (Nat.le_refl _), Nat.sub_self]; rfl
      have g1 : (b ++ told K ls)[b.length + pos ls (hdn K ls) + 1]? = some (UInt8.ofNat (x % 256)) := by
        rw [htd, List.getElem?_append_right (by omega), show b.length + pos ls (hdn K ls) + 1 - b.length = pos ls (hdn K ls) + 1 by omega, hpl, List.getElem?_append_right (by omega), show (wire (ls.take (hdn K ls))).length + 1 - (wire (ls.take (hdn K ls))).length = 1 by omega]; rfl
      obtain ⟨i0, g0⟩ := List.getElem?_eq_some_iff.mp g0
      obtain ⟨i1, g1⟩ := List.getElem?_eq_some_iff.mp g1
      have hen : b.length + (told K ls).length = b.length + pos ls (hdn K ls) + 2 := by rw [htd, List.length_append, hpl]; simp; omega
      rw [hen]
      exact .lead (to := x) i1 (by rw [g0]; exact p2) (by rw [g0, g1]; exact p1) (by have := h.last; have : x < e := hxe; omega) ((h.tails _ x (shorts_drop hs _) (plc_mem hx)).more _)
    · have hke : hdn K ls = ls.length := by omega
      have htd : told K ls = wire ls ++ [0] := by
        unfold told restb
        rw [hke, List.take_length, List.drop_length]
        show wire ls ++ (match plc K [0] with | some x => pb x | none => [0]) = _
        rw [good_root h.good]
      rw [hke, List.drop_length]
      have hpl : pos ls ls.length = (wire ls).length := by unfold pos; rw [List.take_length]
      have g0 : (b ++ told K ls)[b.length + pos ls ls.length]? = some 0 := by
        rw [htd, List.getElem?_append_right (by omega), Nat.add_sub_cancel_left, hpl, List.getElem?_append_right (Nat.le_refl _), Nat.sub_self]; rfl
      obtain ⟨i0, g0⟩ := List.getElem?_eq_some_iff.mp g0
      have hen : b.length + (told K ls).length = b.length + pos ls ls.length + 1 := by rw [htd, List.length_append, hpl]; simp; omega
      rw [hen]
      exact .zero i0 (by rw [g0]; rfl)
  | succ d ih =>
    intro k hk part hp
    have hkl : k < ls.length := by omega
    have e : ls.drop k = ls[k] :: ls.drop (k + 1) := List.drop_eq_getElem_cons hkl
    have h63 := hs.1 ls[k] (List.getElem_mem hkl)
    rw [e]
    have hcut : ((b ++ told K ls).drop (b.length + pos ls k)).take (1 + ls[k].length) = wire [ls[k]] := by
      have h1 : ls.take (hdn K ls) = ls.take k ++ (ls[k] :: (ls.drop (k + 1)).take d) := by
        rw [← hk, List.take_add, e, List.take_succ_cons]
      unfold told
      rw [h1, wire_app, List.append_assoc]
      rw [show b.length + pos ls k = b.length + (wire (ls.take k)).length from rfl, List.drop_append, List.drop_eq_nil_of_le (by omega), List.nil_append, Nat.add_sub_cancel_left, List.drop_left]
      rw [show ls[k] :: (ls.drop (k + 1)).take d = [ls[k]] ++ (ls.drop (k + 1)).take d from rfl, wire_app, List.append_assoc]
      rw [List.take_left' (by simp [wire]; omega)]
    have hpe : b.length + pos ls k + (1 + ls[k].length) = b.length + pos ls (k + 1) := by rw [pos_succ hkl]; omega
    refine .label h63.1 h63.2 ?_ hcut (by rw [hpe]; exact ih (k + 1) (by omega) part hp)
    have := congrArg List.length hcut
    rw [List.length_take, List.length_drop, List.length_append] at this
    rw [List.length_append]
    simp only [wire, List.length_append, List.length_cons, List.length_nil] at this
    omega

/-- From p up to q these pieces stand. -/
inductive Lies (b : List UInt8) : Nat → List Pc → Nat → Prop
  | nil {p : Nat} (h : p ≤ b.length) : Lies b p [] p
  | byt {p q : Nat} {x : List UInt8} {L : List Pc} (h : (b.drop p).take x.length = x) (h2 : p + x.length ≤ b.length) (r : Lies b (p + x.length) L q) : Lies b p ((x, false) :: L) q
  | nam {p q en : Nat} {ls : List (List UInt8)} {L : List Pc} (hs : Shorts ls) (h : StandE b p p ls en) (r : Lies b en L q) : Lies b p ((nm ls, true) :: L) q

theorem Lies.more {b : List UInt8} {p q : Nat} {L : List Pc} (h : Lies b p L q) (c : List UInt8) : Lies (b ++ c) p L q := by
  induction h with
  | nil h => exact .nil (by rw [List.length_append]; omega)
  | byt h h2 _ ih =>
    refine .byt ?_ (by rw [List.length_append]; omega) ih
    rw [List.drop_append_of_le_length (by omega), List.take_append_of_le_length (by rw [List.length_drop]; omega)]
    exact h
  | nam hs h _ ih => exact .nam hs (h.more c) ih

theorem Lies.le {b : List UInt8} {p q : Nat} {L : List Pc} (h : Lies b p L q) : p ≤ q ∧ q ≤ b.length := by
  induction h with
  | nil h => exact ⟨Nat.le_refl _, h⟩
  | byt h h2 _ ih => omega
  | nam hs h _ ih => have := h.lt; omega

/-- What stands is read. -/
theorem lies_go {b : List UInt8} {s : Nat} : ∀ (L : List Pc) (ks : List PK) (p q : Nat) (acc : List Pc), Lies b p L q → Fits ks L → goP (fun p => rda b p) b s q ks p acc = .ok (acc ++ L)
  | [], ks, p, q, acc, h, hf => by
    cases hf
    cases h
    rw [goP, if_neg (by omega), List.append_nil]
  | x :: L, ks, p, q, acc, h, hf => by
    have hle := h.le
    cases hf with
    | @fix n y ks' L' hn h2 =>
      cases h with
      | byt h3 h4 r =>
        have hr := r.le
        have e : stepP (fun p => rda b p) b s q p (.fix n) = .ok (y, false) (p + y.length) := by
          simp only [stepP, cutP]
          rw [← hn, if_neg (by omega), Nat.add_sub_cancel_left, h3]
        rw [goP, e]
        simp only
        rw [lies_go L ks' _ q _ r h2, List.append_assoc]
        rfl
    | @nam y ks' L' hn h2 =>
      cases h with
      | @nam _ _ en ls _ hs h3 r =>
        have hr := r.le
        have hl := h3.lt
        have e : stepP (fun p => rda b p) b s q p .nam = .ok (nm ls, true) en := by
          simp only [stepP]
          rw [rdaE h3 hs, if_neg (by omega), if_neg (by simp), if_neg (show ¬ q < en by omega)]
        rw [goP, e]
        simp only
        rw [lies_go L ks' _ q _ r h2, List.append_assoc]
        rfl
    | @txt y hn =>
      cases h with
      | byt h3 h4 r =>
        cases r with
        | nil h5 =>
          have e := tx_step (fun p => rda b p) b s p (p + y.length) (by omega) (by omega)
          rw [Nat.add_sub_cancel_left, h3, if_pos hn] at e
          rw [goP, e]
          simp only
          rw [goP, if_neg (by omega)]
    | @rst y =>
      cases h with
      | byt h3 h4 r =>
        cases r with
        | nil h5 =>
          have e : stepP (fun p => rda b p) b s (p + y.length) p .rst = .ok (y, false) (p + y.length) := by
            simp only [stepP, cutP]
            rw [if_neg (by omega), Nat.add_sub_cancel_left, h3]
          rw [goP, e]
          simp only
          rw [goP, if_neg (by omega)]

/-- Data that stand are read as they were. -/
theorem lies_rdR {b : List UInt8} {t : Int} {d : List UInt8} {L : List Pc} {a m : Nat} (hs : spl t d = .ok L) (h : Lies b a L (a + m)) (hm : m ≤ 65535) : rdR b a m t = .ok L ∧ joined L = d := by
  obtain ⟨h0, h1, _, hf, hj⟩ := spl_ok hs
  have hle := h.le
  refine ⟨?_, hj⟩
  unfold rdR
  rw [if_neg (by omega), if_neg (by omega), if_neg (by omega), Int.toNat_natCast, Int.toNat_natCast, lies_go L (kinds t) a (a + m) [] h hf, List.nil_append]

end Go.Proofs.YtdikgjbpjdnodaaGreat

/-
  What was written and its reading: rows, round for round.
-/
namespace Go.Proofs.YtdikgjbpjdnodaaGreat
open Go.RowKit Go.Shelf
set_option linter.unusedVariables false
set_option linter.unusedSimpArgs false
set_option maxRecDepth 100000

section
variable {w w' : World} {B B' : Nat} {e e' : TypeId} {k k' n n' : Nat} {v v' : Value} {xs ys : List Value} {G : Nat → Prop}
theorem row_aside (h : w.ownsRow B e k v n xs) (ha : Aside G w w') (hG : ∀ b, v.ownBlock = some b → ¬ G b) : w'.ownsRow B e k v n xs := by
  have hlt := World.ownsRow.lt h
  refine ⟨h.1, ?_⟩
  rcases h.2 with h2 | ⟨g, cap, cur, hv, hg, hh, r⟩
  · exact .inl h2
  · exact .inr ⟨g, cap, cur, hv, hg, (ha.block g (by subst hv; exact (hlt g rfl).2) (hG g (by rw [hv]; rfl))).trans hh, r⟩
theorem row_below (h : w.ownsRow B e k v n xs) (hb : Below w.heap.size w w') : w'.ownsRow B e k v n xs := row_aside (G := fun _ => False) h (Aside.of_all hb) fun _ _ h => h
theorem row_shape (h : w.ownsRow B e k v n xs) : ∃ a c, v = .slice a n c := by
  rcases h.2 with ⟨rfl, h0⟩ | ⟨g, cap, cur, rfl, _⟩
  · exact ⟨none, 0, by rw [h0]⟩
  · exact ⟨_, cap, rfl⟩
theorem row_apart (h : w.ownsRow B e k v n xs) (h' : w.ownsRow B' e' k' v' n' ys) (he : e ≠ e') (b : Nat) (h1 : v.ownBlock = some b) (h2 : v'.ownBlock = some b) : False := by
  rcases h.2 with ⟨rfl, _⟩ | ⟨g, cap, cur, rfl, _, hg, _⟩
  · simp [Value.ownBlock] at h1
  · rcases h'.2 with ⟨rfl, _⟩ | ⟨g', cap', cur', rfl, _, hg', _⟩
    · simp [Value.ownBlock] at h2
    · simp [Value.ownBlock] at h1 h2
      subst h1; subst h2
      rw [hg] at hg'
      injection hg' with hg'
      injection hg' with _ h3
      exact he h3
theorem row_apartB {l : List UInt8} (h : OwnB w B v l) (h' : w.ownsRow B' e' k' v' n' ys) (he : e' ≠ 5) (b : Nat) (h1 : v.ownBlock = some b) (h2 : v'.ownBlock = some b) : False := by
  rcases h with ⟨rfl, _⟩ | ⟨g, cap, fz, rfl, _, _, _, _, hg⟩
  · simp [Value.ownBlock] at h1
  · rcases h'.2 with ⟨rfl, _⟩ | ⟨g', cap', cur', rfl, _, hg', _⟩
    · simp [Value.ownBlock] at h2
    · simp [Value.ownBlock] at h1 h2
      subst h1; subst h2
      rw [hg] at hg'
      injection hg' with hg'
      injection hg' with _ h3
      exact he h3.symm
end

/-- v is a row of numbers of the call's own. -/
def OwnJ (w : World) (B : Nat) (v : Value) (l : List Nat) : Prop := w.ownsRow B 3 1 v l.length (iv l)
theorem OwnJ.at_ {w : World} {B : Nat} {v : Value} {l : List Nat} (h : OwnJ w B v l) (j : Nat) (hj : j < l.length) : ∃ g c, v = .slice (some ⟨g, 0, none⟩) l.length c ∧ w.cell? ⟨g, j, none⟩ = some (.int .i64 (l[j] : Int)) := by
  have hc := fun g hg => World.ownsRow.cells h (g := g) hg
  rcases h.2 with ⟨rfl, h0⟩ | ⟨g, cap, cur, rfl, _⟩
  · omega
  · have e1 := hc g rfl j (.int .i64 (l[j] : Int)) (by unfold iv; rw [List.getElem?_map, List.getElem?_eq_getElem hj]; rfl)
    rw [WideShapes.add_plain, Nat.zero_add] at e1
    exact ⟨g, cap, rfl, e1⟩
section
variable {w wr w' : World} {p bm B0 e : Nat} {v7 v8 v9 v10 : Value} {b : List UInt8} {q s : List Nat} {n : List AQ} {K : KK}

end

end Go.Proofs.YtdikgjbpjdnodaaGreat
