/-
  Digits; the three arrays made.
-/
import Derived.Test.YtkoohdacneflfaaGreatDoorZ03
import Derived.Deep.WholeRow
import Derived.Laws.Tables
import Derived.Lib.IndexEntry
import Derived.Laws.Runes
import Derived.Laws.Externs
import Derived.Lib.SlBytesConst
namespace Go.Proofs.YtkoohdacneflfaaGreatDoor
open Go.RowKit Go.Shelf
set_option linter.unusedVariables false
set_option linter.unusedSimpArgs false
set_option maxRecDepth 100000

set_option maxHeartbeats 1000000 in
theorem digits_any (s : List UInt8) (hs : s.length ≤ 140737488351232) (w : World) : Calls Tryz.prog 83 #[.string (bs s)] w (Tells w (.bool (onlyR dR s))) := by
  have HA := Lib.hid (fun wx => allOf_any dR (by decide) (by decide) wx)
  have HO := Lib.hid (fun g wx (ht : TbR wx g 0 dR) => only_any s dR g 0 (by omega) hs wx ht)
  have hsc : ∀ w1 : World, (storeCells ⟨w1.heap.size, 0, none⟩ (tabP (inR dR)).toList 0).run Tryz.prog (w1.alloc (.cells (tabP fun _ => false) 129)) = .ok () (w1.alloc (.cells (tabP (inR dR)) 129)) :=
    fun w1 => run_storeCells_new (P := Tryz.prog) w1 129 _ _ (tab_siz _) (by rw [tab_size, tab_size]) (tab_one _)
  have HT := Lib.hid (fun (w1 : World) c (hc : c < 256) => (ArB.cell (w := w1.alloc (.cells (tabP (inR dR)) 129)) (g := w1.heap.size) (p := inR dR) (heap_alloc_new w1 _) c hc).1)
  have hsz := tab_size (inR dR)
  obtain ⟨D, hD⟩ : ∃ D, tabP (inR dR) = D := ⟨_, rfl⟩
  have hz := tab_zero
  obtain ⟨Z, hZ⟩ : ∃ Z, tabP (fun _ => false) = Z := ⟨_, rfl⟩
  rw [hD] at HA HT hsz
  simp only [hD, hZ] at hsc
  rw [hZ] at hz
  have e : bs dR = ⟨#[48, 57]⟩ := rfl
  rw [e] at HA
  clear hD hZ e
  go_enter Tryz.func83, Tryz.ntmps83
  go_wp2_with fail
  refine (HA.out _).mono ?_; rintro e w1 ⟨rfl, hb⟩
  have hsc := hsc w1
  have HB := Lib.hid (bel_alloc hb (.cells D 129))
  clear hb
  go_wp2_with fail
  refine (HO.out w1.heap.size _ (fun c hc => by rw [Nat.zero_add]; exact HT.out w1 c hc)).mono ?_; rintro e w2 ⟨rfl, hb⟩
  replace HB := Lib.hid (bel_call HB.out hb)
  clear hb
  go_wp2_with fail
  go_ret
  exact ⟨rfl, HB.out⟩

/-- The three arrays, one behind the other. -/
def plD : Array Value := tabP (inR wR) ++ tabP (inR tR) ++ tabP (inR vR)
theorem pl_new (w : World) : Pl (w.alloc (.cells plD 132)) w.heap.size := by
  have hc : ∀ o v, plD[o]? = some v → (w.alloc (.cells plD 132)).cell? ⟨w.heap.size, o, none⟩ = some v := fun o v h => by
    rw [World.cell?, heap_alloc_new]; exact h
  refine ⟨fun c h => hc _ _ ?_, fun c h => hc _ _ ?_, fun c h => hc _ _ ?_⟩
  · unfold plD
    rw [Nat.zero_add, Array.getElem?_append_left (by rw [Array.size_append, tab_size, tab_size]; omega), Array.getElem?_append_left (by rw [tab_size]; exact h), tab_get _ _ h]
  · unfold plD
    rw [Array.getElem?_append_left (by rw [Array.size_append, tab_size, tab_size]; omega), Array.getElem?_append_right (by rw [tab_size]; omega), tab_size, Nat.add_sub_cancel_left, tab_get _ _ h]
  · unfold plD
    rw [Array.getElem?_append_right (by rw [Array.size_append, tab_size, tab_size]; omega), Array.size_append, tab_size, tab_size, show 512 + c - (256 + 256) = c by omega, tab_get _ _ h]
theorem fill_at (off : Nat) : ∀ (L : List Value) (k : Nat) (cs : Array Value), off + k + L.length ≤ cs.size →
    ((L.zipIdx k).foldl (fun cs (p : Value × Nat) => cs.setIfInBounds (off + p.2) p.1) cs).size = cs.size ∧
    ∀ i, ((L.zipIdx k).foldl (fun cs (p : Value × Nat) => cs.setIfInBounds (off + p.2) p.1) cs)[i]? = if off + k ≤ i ∧ i < off + k + L.length then L[i - (off + k)]? else cs[i]?
  | [], k, cs, _ => ⟨rfl, fun i => by rw [if_neg (by simp)]; rfl⟩
  | x :: L, k, cs, h => by
    simp only [List.zipIdx_cons, List.foldl_cons]
    obtain ⟨h1, h2⟩ := fill_at off L (k + 1) (cs.setIfInBounds (off + k) x) (by simp at h ⊢; omega)
    refine ⟨by rw [h1]; simp, fun i => ?_⟩
    rw [h2 i]
    simp only [List.length_cons] at h ⊢
    by_cases e : i = off + k
    · subst e
      rw [if_neg (by omega), if_pos (by omega), Nat.sub_self, Array.getElem?_setIfInBounds, if_pos rfl, if_pos (by omega)]
      rfl
    · by_cases e2 : off + (k + 1) ≤ i ∧ i < off + (k + 1) + L.length
      · rw [if_pos e2, if_pos (by omega), show i - (off + k) = (i - (off + (k + 1))) + 1 by omega, List.getElem?_cons_succ]
      · rw [if_neg e2, Array.getElem?_setIfInBounds, if_neg (fun h => e h.symm)]
        by_cases e3 : off + k ≤ i ∧ i < off + k + (L.length + 1)
        · omega
        · rw [if_neg e3]
def laid (off : Nat) (A cs : Array Value) : Array Value := A.zipIdx.foldl (fun cs (p : Value × Nat) => cs.setIfInBounds (off + p.2) p.1) cs
theorem laid_at (off : Nat) (A cs : Array Value) (h : off + A.size ≤ cs.size) : (laid off A cs).size = cs.size ∧ ∀ i, (laid off A cs)[i]? = if off ≤ i ∧ i < off + A.size then A[i - off]? else cs[i]? := by
  have := fill_at off A.toList 0 cs (by simpa using h)
  have e : laid off A cs = (A.toList.zipIdx 0).foldl (fun cs (p : Value × Nat) => cs.setIfInBounds (off + p.2) p.1) cs := by
    unfold laid
    rw [← Array.foldl_toList, Array.toList_zipIdx]
  rw [e]
  simpa using this
theorem pl_info : (Tryz.prog.info? 132).map (·.zero) = some (some (.agg (Array.replicate 768 (.bool false)))) := by kernel_rfl
theorem pl_und : Tryz.prog.underlying 132 = some (.struct (Tryz.prog.fieldsOf 132)) := by kernel_rfl
theorem pl_places : (Tryz.prog.fieldsOf 132).toList.mapM (fun f => (Tryz.prog.info? f.type).map fun i => (f.offset, i.size)) = some [(0, 256), (256, 256), (512, 256)] := by kernel_rfl
theorem pl_build (A B C : Array Value) (hA : A.size = 256) (hB : B.size = 256) (hC : C.size = 256) : Tryz.prog.built 132 [(0, .agg A), (1, .agg B), (2, .agg C)] = some (A ++ B ++ C) := by
  unfold Program.built
  obtain ⟨it, h1, h2⟩ := Option.map_eq_some_iff.mp pl_info
  simp only [h1, pl_und, h2, pl_places]
  have Z : (Array.replicate 768 (Value.bool false)).size = 768 := Array.size_replicate
  have c0 : (Value.agg (Array.replicate 768 (Value.bool false))).cells = Array.replicate 768 (Value.bool false) := rfl
  rw [c0]
  obtain ⟨a1, a2⟩ := laid_at 0 A (Array.replicate 768 (Value.bool false)) (by rw [hA, Z]; omega)
  obtain ⟨b1, b2⟩ := laid_at 256 B (laid 0 A (Array.replicate 768 (Value.bool false))) (by rw [hB, a1, Z]; omega)
  obtain ⟨d1, d2⟩ := laid_at 512 C (laid 256 B (laid 0 A (Array.replicate 768 (Value.bool false)))) (by rw [hC, b1, a1, Z]; omega)
  have e : laid 512 C (laid 256 B (laid 0 A (Array.replicate 768 (Value.bool false)))) = A ++ B ++ C := by
    apply Array.ext_getElem?
    intro i
    rw [d2, b2, a2, hA, hB, hC]
    by_cases i1 : i < 256
    · rw [if_neg (by omega), if_neg (by omega), if_pos (by omega), Array.getElem?_append_left (by rw [Array.size_append]; omega), Array.getElem?_append_left (by omega), Nat.sub_zero]
    · by_cases i2 : i < 512
      · rw [if_neg (by omega), if_pos (by omega), Array.getElem?_append_left (by rw [Array.size_append]; omega), Array.getElem?_append_right (by omega), hA]
      · by_cases i3 : i < 768
        · rw [if_pos (by omega), Array.getElem?_append_right (by rw [Array.size_append]; omega), Array.size_append, hA, hB]
        · rw [if_neg (by omega), if_neg (by omega), if_neg (by omega)]
          rw [Array.getElem?_eq_none (by rw [Z]; omega), Array.getElem?_eq_none (by rw [Array.size_append, Array.size_append, hA, hB, hC]; omega)]
  rw [← e]
  have s0 : ∀ (o : Nat) (X cs : Array Value), X.size = 256 → o + 256 ≤ cs.size → ((X.size ≠ 256 || o + X.size > cs.size) = true) = False := fun o X cs h1 h2 => by
    simp [h1]; omega
  show Instr.fill _ _ [(0, Value.agg A), (1, Value.agg B), (2, Value.agg C)] = _
  have f1 : (Value.agg A).cells = A := rfl
  have f2 : (Value.agg B).cells = B := rfl
  have f3 : (Value.agg C).cells = C := rfl
  simp only [Instr.fill, List.getElem?_toArray, List.getElem?_cons_zero, List.getElem?_cons_succ, f1, f2, f3]
  have q1 : (decide (A.size ≠ 256) || decide (0 + A.size > (Array.replicate 768 (Value.bool false)).size)) = false := by rw [hA, Z]; rfl
  rw [q1]
  simp only [Bool.false_eq_true, if_false]
  have q2 : (decide (B.size ≠ 256) || decide (256 + B.size > (laid 0 A (Array.replicate 768 (Value.bool false))).size)) = false := by rw [hB, a1, Z]; rfl
  have q3 : (decide (C.size ≠ 256) || decide (512 + C.size > (laid 256 B (laid 0 A (Array.replicate 768 (Value.bool false)))).size)) = false := by rw [hC, b1, a1, Z]; rfl
  unfold laid at q2 q3 ⊢
  rw [q2]
  simp only [Bool.false_eq_true, if_false]
  rw [q3]
  simp only [Bool.false_eq_true, if_false]

theorem wpList_buildD {ops : Array Oper} {rest : List Oper} {o : Oper} {a : Act} {w : World} {Q : Exit → Act → World → Prop} (hg : o.guard = none) (t : TypeId) (parts : Array (Nat × Operand)) (ho : o.op = .build t parts) (cells : Array Value)
    (hb : Tryz.prog.built t (parts.map fun (i, x) => (i, a.eval x)).toList = some cells) (h : wpList Tryz.prog ops Q rest (a.put o.dst (.agg cells)) w) : wpList Tryz.prog ops Q (o :: rest) a w := by
  refine wpList_build hg t parts ho (by rw [hb]; rfl) ?_
  rw [hb]
  exact h

/-- The arrays, told: a block of the call's own. -/
def PlPost (w : World) (e : Ending) (w' : World) : Prop := ∃ g, e = .returned (.pointer (some ⟨g, 0, none⟩)) ∧ w.heap.size ≤ g ∧ Pl w' g ∧ Below w.heap.size w w'
set_option maxHeartbeats 1000000 in
theorem allPlaces_any (w : World) : Calls Tryz.prog 63 #[] w (PlPost w) := by
  have HA1 := Lib.hid (fun wx => allOf_any wR (by decide) (by decide) wx)
  have HA2 := Lib.hid (fun wx => allOf_any tR (by decide) (by decide) wx)
  have HA3 := Lib.hid (fun wx => allOf_any vR (by decide) (by decide) wx)
  have hb := pl_build _ _ _ (tab_size (inR wR)) (tab_size (inR tR)) (tab_size (inR vR))
  have HP := Lib.hid pl_new
  obtain ⟨A, hA⟩ : ∃ D, tabP (inR wR) = D := ⟨_, rfl⟩
  obtain ⟨B, hB⟩ : ∃ D, tabP (inR tR) = D := ⟨_, rfl⟩
  obtain ⟨C, hC⟩ : ∃ D, tabP (inR vR) = D := ⟨_, rfl⟩
  obtain ⟨D, hD⟩ : ∃ D, plD = D := ⟨_, rfl⟩
  rw [hA] at HA1
  rw [hB] at HA2
  rw [hC] at HA3
  rw [hD] at HP
  have eD : tabP (inR wR) ++ tabP (inR tR) ++ tabP (inR vR) = D := hD
  simp only [eD] at hb
  simp only [hA, hB, hC] at hb
  clear eD
  have e1 : bs wR = ⟨#[33, 33, 35, 39, 42, 43, 45, 46, 48, 57, 65, 90, 94, 122, 124, 124, 126, 126]⟩ := rfl
  have e2 : bs tR = ⟨#[33, 126]⟩ := rfl
  have e3 : bs vR = ⟨#[9, 9, 32, 126, 128, 255]⟩ := rfl
  rw [e1] at HA1
  rw [e2] at HA2
  rw [e3] at HA3
  clear hA hB hC hD e1 e2 e3
  go_enter Tryz.func63, Tryz.ntmps63
  go_wp2_with fail
  refine (HA1.out _).mono ?_; rintro e w1 ⟨rfl, hq⟩
  have HB := Lib.hid hq
  clear hq
  go_wp2_with fail
  refine (HA2.out _).mono ?_; rintro e w2 ⟨rfl, hq⟩
  replace HB := Lib.hid (bel_call HB.out hq)
  clear hq
  go_wp2_with fail
  refine (HA3.out _).mono ?_; rintro e w3 ⟨rfl, hq⟩
  replace HB := Lib.hid (bel_call HB.out hq)
  clear hq
  have HBD := Lib.hid hb
  clear hb
  go_wp2_with (refine wpList_buildD (o := ⟨some 4, _, _, _, _, _⟩) rfl 132 _ rfl D ?_ ?_; · simpa [go_sem] using HBD.out)
  go_ret
  exact ⟨_, rfl, HB.out.size, HP.out _, bel_alloc HB.out _⟩
end Go.Proofs.YtkoohdacneflfaaGreatDoor

/-
  Bytes 13 and 10 looked for: what is decoded of bytes beyond 127.
-/
namespace Go.Proofs.YtkoohdacneflfaaGreatDoor
open Go.RowKit Go.Shelf
set_option linter.unusedVariables false
set_option linter.unusedSimpArgs false
set_option maxRecDepth 100000

theorem decN_facts (n b0 b1 b2 b3 : Nat) (hn : 1 ≤ n) (h0 : 128 ≤ b0) (k0 : b0 < 256) (k1 : b1 < 256) (k2 : b2 < 256) (k3 : b3 < 256) :
    ((Lib.decodeN n b0 b1 b2 b3).2 = 1 ∧ (Lib.decodeN n b0 b1 b2 b3).1 = 65533) ∨
    ((Lib.decodeN n b0 b1 b2 b3).2 = 2 ∧ 2 ≤ n ∧ 128 ≤ b1 ∧ 128 ≤ (Lib.decodeN n b0 b1 b2 b3).1 ∧ (Lib.decodeN n b0 b1 b2 b3).1 < 2048) ∨
    ((Lib.decodeN n b0 b1 b2 b3).2 = 3 ∧ 3 ≤ n ∧ 128 ≤ b1 ∧ 128 ≤ b2 ∧ 2048 ≤ (Lib.decodeN n b0 b1 b2 b3).1 ∧ (Lib.decodeN n b0 b1 b2 b3).1 < 65536 ∧ ((Lib.decodeN n b0 b1 b2 b3).1 < 55296 ∨ 57344 ≤ (Lib.decodeN n b0 b1 b2 b3).1)) ∨
    ((Lib.decodeN n b0 b1 b2 b3).2 = 4 ∧ 4 ≤ n ∧ 128 ≤ b1 ∧ 128 ≤ b2 ∧ 128 ≤ b3 ∧ 65536 ≤ (Lib.decodeN n b0 b1 b2 b3).1 ∧ (Lib.decodeN n b0 b1 b2 b3).1 ≤ 1114111) := by
  unfold Lib.decodeN
  rw [if_neg (by omega)]
  by_cases c2 : b0 / 32 = 6 ∧ (1 < n ∧ b1 / 64 = 2)
  · rw [if_pos c2]
    split
    · right; left; refine ⟨rfl, ?_, ?_, ?_, ?_⟩ <;> (try simp only) <;> omega
    · left; exact ⟨rfl, rfl⟩
  · rw [if_neg c2]
    by_cases c3 : b0 / 16 = 14 ∧ (1 < n ∧ b1 / 64 = 2) ∧ (2 < n ∧ b2 / 64 = 2)
    · rw [if_pos c3]
      split
      · right; right; left; refine ⟨rfl, ?_, ?_, ?_, ?_, ?_, ?_⟩ <;> (try simp only) <;> omega
      · left; exact ⟨rfl, rfl⟩
    · rw [if_neg c3]
      by_cases c4 : b0 / 8 = 30 ∧ (1 < n ∧ b1 / 64 = 2) ∧ (2 < n ∧ b2 / 64 = 2) ∧ (3 < n ∧ b3 / 64 = 2)
      · rw [if_pos c4]
        split
        · right; right; right; refine ⟨rfl, ?_, ?_, ?_, ?_, ?_, ?_⟩ <;> (try simp only) <;> omega
        · left; exact ⟨rfl, rfl⟩
      · rw [if_neg c4]; left; exact ⟨rfl, rfl⟩

theorem get_bs (l : List UInt8) (k : Nat) : (bs l).get! k = l.getD k 0 := by
  show l.toArray[k]! = _
  by_cases h : k < l.length
  · rw [getElem!_pos _ _ (by simpa using h), getD_at l k h]; simp
  · rw [getElem!_neg _ _ (by simpa using h), List.getD, List.getElem?_eq_none (by omega)]; rfl

/-- What is decoded at a place where a byte beyond 127 stands: so many bytes, none of which is 13 or 10; a rune beyond 127. -/
structure DecF (l : List UInt8) (i r k : Nat) : Prop where
  one : 1 ≤ k
  in_ : i + k ≤ l.length
  all : ∀ j, i ≤ j → j < i + k → 128 ≤ (l.getD j 0).toNat
  rune : 128 ≤ r ∧ r ≤ 1114111
  two : r ≠ 65533 → k = 2 ∨ (3 ≤ k ∧ k ≤ 4 ∧ (Utf8.encode (r : Int)).size = k)

theorem enc3 (r : Nat) (h1 : 2048 ≤ r) (h2 : r < 65536) (h3 : r < 55296 ∨ 57344 ≤ r) : (Utf8.encode (r : Int)).size = 3 := by
  unfold Utf8.encode
  have hv : Utf8.valid (r : Int) = true := by
    unfold Utf8.valid
    simp only [Bool.or_eq_true, Bool.and_eq_true, decide_eq_true_eq]
    omega
  simp only [hv, if_true, Int.toNat_natCast]
  rw [if_neg (by omega), if_neg (by omega), if_pos (by omega)]
  rfl
theorem enc4 (r : Nat) (h1 : 65536 ≤ r) (h2 : r ≤ 1114111) : (Utf8.encode (r : Int)).size = 4 := by
  unfold Utf8.encode
  have hv : Utf8.valid (r : Int) = true := by
    unfold Utf8.valid
    simp only [Bool.or_eq_true, Bool.and_eq_true, decide_eq_true_eq]
    omega
  simp only [hv, if_true, Int.toNat_natCast]
  rw [if_neg (by omega), if_neg (by omega), if_neg (by omega)]
  rfl
theorem enc_first (r : Nat) (h : 128 ≤ r) : ∀ x, (Utf8.encode (r : Int)).toList.head? = some x → 128 ≤ x.toNat := by
  intro x hx
  unfold Utf8.encode at hx
  have hc : ∀ c : Nat, 128 ≤ c → c ≤ 1114111 → ∀ x, (if c < 128 then (⟨#[UInt8.ofNat c]⟩ : ByteArray) else if c < 2048 then ⟨#[UInt8.ofNat (192 + c / 64), UInt8.ofNat (128 + c % 64)]⟩ else if c < 65536 then ⟨#[UInt8.ofNat (224 + c / 4096), UInt8.ofNat (128 + c / 64 % 64), UInt8.ofNat (128 + c % 64)]⟩ else ⟨#[UInt8.ofNat (240 + c / 262144), UInt8.ofNat (128 + c / 4096 % 64), UInt8.ofNat (128 + c / 64 % 64), UInt8.ofNat (128 + c % 64)]⟩).toList.head? = some x → 128 ≤ x.toNat := by
    intro c h1 h2 x hx
    rw [if_neg (by omega)] at hx
    split at hx
    · rw [ByteArray.toList_mk] at hx
      simp only [List.head?_cons, Option.some.injEq] at hx
      subst hx
      rw [UInt8.toNat_ofNat']; omega
    · split at hx
      · rw [ByteArray.toList_mk] at hx
        simp only [List.head?_cons, Option.some.injEq] at hx
        subst hx
        rw [UInt8.toNat_ofNat']; omega
      · rw [ByteArray.toList_mk] at hx
        simp only [List.head?_cons, Option.some.injEq] at hx
        subst hx
        rw [UInt8.toNat_ofNat']; omega
  by_cases hv : Utf8.valid (r : Int) = true
  · simp only [hv, if_true, Int.toNat_natCast] at hx
    refine hc r h ?_ x hx
    unfold Utf8.valid at hv
    simp only [Bool.or_eq_true, Bool.and_eq_true, decide_eq_true_eq] at hv
    omega
  · simp only [hv, Utf8.runeError] at hx
    exact hc 65533 (by omega) (by omega) x hx

theorem dec_facts (l : List UInt8) (i : Nat) (hi : i < l.length) (h0 : 128 ≤ (l.getD i 0).toNat) : DecF l i (Lib.decodeGo (bs (l.drop i))).1 (Lib.decodeGo (bs (l.drop i))).2 := by
  have hsz : (bs (l.drop i)).size = l.length - i := by rw [bs_size, List.length_drop]
  have hg : ∀ j, ((bs (l.drop i)).get! j) = l.getD (i + j) 0 := fun j => by
    rw [get_bs, List.getD, List.getD, List.getElem?_drop]
  have hd : Lib.decodeGo (bs (l.drop i)) = Lib.decodeN (l.length - i) (l.getD i 0).toNat (l.getD (i + 1) 0).toNat (l.getD (i + 2) 0).toNat (l.getD (i + 3) 0).toNat := by
    unfold Lib.decodeGo
    rw [if_neg (by omega), Lib.decode_at, hsz]
    simp only [hg, Nat.sub_zero, Nat.add_zero, Nat.zero_add]
  rw [hd]
  have lt : ∀ j, (l.getD j 0).toNat < 256 := fun j => (l.getD j 0).toNat_lt
  rcases decN_facts (l.length - i) (l.getD i 0).toNat (l.getD (i + 1) 0).toNat (l.getD (i + 2) 0).toNat (l.getD (i + 3) 0).toNat (by omega) h0 (lt _) (lt _) (lt _) (lt _) with ⟨e1, e2⟩ | ⟨e1, e2, e3, e4, e5⟩ | ⟨e1, e2, e3, e4, e5, e6, e7⟩ | ⟨e1, e2, e3, e4, e5, e6, e7⟩
  all_goals
    generalize Lib.decodeN (l.length - i) (l.getD i 0).toNat (l.getD (i + 1) 0).toNat (l.getD (i + 2) 0).toNat (l.getD (i + 3) 0).toNat = d at *
    obtain ⟨r, k⟩ := d
    simp only at *
  · exact ⟨by omega, by omega, fun j h1 h2 => (by obtain rfl : j = i := (by omega); exact h0), by omega, fun h => absurd e2 h⟩
  · refine ⟨by omega, by omega, fun j h1 h2 => ?_, by omega, fun h => .inl e1⟩
    have : j = i ∨ j = i + 1 := by omega
    rcases this with rfl | rfl
    · exact h0
    · exact e3
  · refine ⟨by omega, by omega, fun j h1 h2 => ?_, by omega, fun h => .inr ⟨by omega, by omega, by rw [e1]; exact enc3 r e5 e6 e7⟩⟩
    have : j = i ∨ j = i + 1 ∨ j = i + 2 := by omega
    rcases this with rfl | rfl | rfl
    · exact h0
    · exact e3
    · exact e4
  · refine ⟨by omega, by omega, fun j h1 h2 => ?_, by omega, fun h => .inr ⟨by omega, by omega, by rw [e1]; exact enc4 r e6 e7⟩⟩
    have : j = i ∨ j = i + 1 ∨ j = i + 2 ∨ j = i + 3 := by omega
    rcases this with rfl | rfl | rfl | rfl
    · exact h0
    · exact e3
    · exact e4
    · exact e5

/-- No 13 and no 10 among the first ones. -/
def noB (l : List UInt8) (k : Nat) : Prop := ∀ j, j < k → (l.getD j 0).toNat ≠ 13 ∧ (l.getD j 0).toNat ≠ 10
theorem brk_at (l : List UInt8) (k : Nat) (hk : k < l.length) (h : (l.getD k 0).toNat = 13 ∨ (l.getD k 0).toNat = 10) : brk l = true := by
  unfold brk
  rw [List.any_eq_true]
  refine ⟨l.getD k 0, by rw [getD_at l k hk]; exact List.getElem_mem hk, ?_⟩
  simp only [Bool.or_eq_true, beq_iff_eq]
  rcases h with h | h
  · exact .inl (UInt8.toNat_inj.mp h)
  · exact .inr (UInt8.toNat_inj.mp h)
theorem brk_no (l : List UInt8) (h : noB l l.length) : brk l = false := by
  rw [brk_iff]
  intro x hx
  obtain ⟨k, hk, rfl⟩ := List.getElem_of_mem hx
  have := h k hk
  rw [getD_at l k hk] at this
  exact ⟨fun e => this.1 (by rw [e]; rfl), fun e => this.2 (by rw [e]; rfl)⟩
theorem noB_step {l : List UInt8} {k m : Nat} (h : noB l k) (h2 : ∀ j, k ≤ j → j < k + m → (l.getD j 0).toNat ≠ 13 ∧ (l.getD j 0).toNat ≠ 10) : noB l (k + m) := fun j hj => by
  by_cases e : j < k
  · exact h j e
  · exact h2 j (by omega) hj

/-- Where a byte stands in the two. -/
theorem crlf_at (x : UInt8) : (0 ≤ Lib.indexByte [13, 10] x ↔ x.toNat = 13 ∨ x.toNat = 10) := by
  unfold Lib.indexByte
  by_cases h1 : x = 13
  · subst h1; simp
  · by_cases h2 : x = 10
    · subst h2; decide
    · have n1 : x.toNat ≠ 13 := fun e => h1 (UInt8.toNat_inj.mp e)
      have n2 : x.toNat ≠ 10 := fun e => h2 (UInt8.toNat_inj.mp e)
      constructor
      · intro h
        exfalso
        revert h
        simp [Lib.indexByte, Ne.symm h1, Ne.symm h2]
      · intro h; omega
end Go.Proofs.YtkoohdacneflfaaGreatDoor

/-
  bytes.IndexAny at the two bytes of a line's end.
-/
namespace Go.Proofs.YtkoohdacneflfaaGreatDoor
open Go.RowKit Go.Shelf
set_option linter.unusedVariables false
set_option linter.unusedSimpArgs false
set_option maxRecDepth 100000

theorem bfrom_run (b off n c i : Nat) (hi : i < n) (hn : n ≤ c) (hc : n ≤ 1000000000) (wx : World) :
    (Instr.slice 28 (.slice (some ⟨b, off, none⟩) n c) (some (.int .i64 i)) none none).run Tryz.prog wx = .ok (.slice (some ⟨b, off + i, none⟩) (n - i) (c - i)) wx := by
  rw [run_slice_l (P := Tryz.prog) wx 28 (some ⟨b, off, none⟩) n c Tryz.underlying28 .i64 i (by omega) (by omega), size5]
  simp only [Result.andThen, Int.toNat_natCast]
  unfold sliced
  rw [if_neg (by omega)]
  simp only [Option.map_some, Nat.mul_one]
  rw [WideShapes.add_plain]

/-- A slice of bytes, opened. -/
theorem sl_bytes {w : World} {lo hi : Nat} {v : Value} {l : List UInt8} (h : Sl w lo hi v (iz l)) : ∃ a c, v = .slice a (iz l).length c ∧ l.length ≤ c ∧
    Hid (0 < l.length → ∃ b off, a = some ⟨b, off, none⟩ ∧ ∀ j, j < l.length → w.cell? ⟨b, off + j, none⟩ = some (.int .u8 ((l.getD j 0).toNat : Nat))) := by
  obtain ⟨a, c, rfl, hc, _, hp⟩ := h
  rw [iz_len] at hc hp
  refine ⟨a, c, rfl, hc, Lib.hid fun h0 => ?_⟩
  obtain ⟨b, off, rfl, _, _, h⟩ := hp h0
  refine ⟨b, off, rfl, fun j hj => ?_⟩
  rw [h j hj, iz_get l j hj, getD_at l j hj]

/-- A place, or none: told by its sign. -/
def IaPost (w : World) (l : List UInt8) (e : Ending) (w' : World) : Prop := ∃ i : Int, e = .returned (.int .i64 i) ∧ (0 ≤ i ↔ brk l = true) ∧ Below w.heap.size w w'

theorem ib_run (x : Nat) (w : World) : (callFunc 136 #[.string ⟨#[13, 10]⟩, .int .u8 x]).run Tryz.prog w = .ok (.value (.int .i64 (Lib.indexByte [13, 10] (x : Int).toNat.toUInt8))) w := by
  rw [run_callFunc_extern Tryz.func136 (by kernel_rfl) (by kernel_rfl) (by kernel_rfl) (e := Extern.BytealgIndexByte.indexByte) (by kernel_rfl), Lib.run_indexByteString]
  rfl

theorem should_any (n : Nat) (w : World) : Calls Tryz.prog 138 #[.int .i64 n] w fun e w' => e = .returned (.bool (decide (8 < n))) ∧ w' = w := by
  have e : decide (8 < n) = decide ((8 : Int) < n) := by rw [decide_eq_decide]; omega
  rw [e]
  go_enter Tryz.func138, Tryz.ntmps138
  go_wp2
  go_ret
  exact ⟨rfl, rfl⟩

theorem bel_iter {B : Nat} {w w' : World} (h : Below B w w') (hB : B ≤ w'.heap.size) (s : ByteArray) (k : Nat) : Below B w (w'.iter s k) := h.alloc hB _
theorem next_two {w : World} {g i : Nat} (h : w.heap[g]? = some (.stringIter ⟨#[13, 10]⟩ i)) (hi : i < 2) : ∃ ch : Nat, ch < 128 ∧ ∀ ty, (Instr.next (.pointer (some ⟨g, 0, none⟩)) true ty).run Tryz.prog w = .ok (.tuple #[.bool true, .int .i64 i, .int .i32 ch]) (w.iterAt g ⟨#[13, 10]⟩ (i + 1)) := by
  have e : ∀ i (hi : i < 2), ((⟨#[13, 10]⟩ : ByteArray)[i]'hi).toNat < 128 := by decide
  refine ⟨((⟨#[13, 10]⟩ : ByteArray)[i]'hi).toNat, e i hi, fun ty => ?_⟩
  exact Lib.run_next_ascii_at w g ⟨#[13, 10]⟩ i ty h hi (e i hi)

set_option maxHeartbeats 4000000 in
theorem indexAny_few {w : World} {lo hi : Nat} {v : Value} (l : List UInt8) (hs : Sl w lo hi v (iz l)) (hE : Env w) (h1 : l.length ≠ 1) (h8 : l.length ≤ 8) : Calls Tryz.prog 112 #[v, .string ⟨#[13, 10]⟩] w (IaPost w l) := by
  have HE := Lib.hid hE
  obtain ⟨a, c, rfl, hc, HC⟩ := sl_bytes hs
  rw [iz_len]
  have hsh := should_any l.length
  rw [decide_eq_false (by omega : ¬ 8 < l.length)] at hsh
  have HSH := Lib.hid hsh
  have t0 : ((l.length : Int) == 1) = false := by rw [beq_eq_false_iff_ne]; omega
  have hnb := Lib.hid (brk_no l)
  have hat := Lib.hid (brk_at l)
  have HB := Lib.hid (Below.refl w.heap.size w)
  obtain ⟨n, hn⟩ : ∃ n, l.length = n := ⟨_, rfl⟩
  rw [hn] at hc HSH t0 h1 h8 hnb hat HC ⊢
  have HN := Lib.hid hn
  clear hn hE hsh
  go_enter Tryz.func112, Tryz.ntmps112
  go_wp2_with fail
  refine (HSH.out _).mono ?_; rintro e w1 ⟨rfl, rfl⟩
  go_wp2_with fail
  go_loopg [11, 12, 13, 15] n (fun g v11 v12 v13 v15 wr => ∃ k : Nat, k + g = n ∧ v12 = .int .i64 k ∧ Hid (noB l k) ∧ Hid (Below w1.heap.size w1 wr))
  case atStart => exact ⟨0, by omega, rfl, Lib.hid fun j hj => by omega, HB⟩
  case round =>
    obtain ⟨k, hk, rfl, HD, HB⟩ := hrel
    by_cases hlt : k < n
    · obtain ⟨b, off, rfl, hcell⟩ := HC.out (by omega)
      have hc0 := cell_later HB.out (hcell k hlt)
      obtain ⟨x, hx⟩ : ∃ x, l.getD k 0 = x := ⟨_, rfl⟩
      have hx8 : x.toNat < 256 := x.toNat_lt
      rw [hx] at hc0
      have HX := Lib.hid hx
      clear hx
      obtain ⟨p, hpx⟩ : ∃ p, x.toNat = p := ⟨_, rfl⟩
      rw [hpx] at hc0 hx8
      have HP := Lib.hid (show (l.getD k 0).toNat = p by rw [HX.out, hpx])
      have HQ := Lib.hid (crlf_at x)
      have hib := ib_run p
      have ex : (p : Int).toNat.toUInt8 = x := by rw [Int.toNat_natCast, ← hpx]; simp
      rw [ex] at hib
      rw [hpx] at HQ
      clear hpx ex
      obtain ⟨q, hq⟩ : ∃ q, Lib.indexByte [13, 10] x = q := ⟨_, rfl⟩
      rw [hq] at HQ hib
      clear hq
      have hp256 : (p : Int) < 256 := by omega
      by_cases h128 : p < 128
      · have t1 : (p : Int) < 128 := by omega
        by_cases hbr : p = 13 ∨ p = 10
        · have t2 : 0 ≤ q := HQ.out.2 hbr
          have HA := Lib.hid (hat.out k hlt (by rw [HP.out]; exact hbr))
          clear hbr
          go_wp2_with fail
          go_ret
          exact ⟨_, rfl, ⟨fun _ => HA.out, fun _ => by omega⟩, HB.out⟩
        · have t2 : ¬ 0 ≤ q := fun h => hbr (HQ.out.1 h)
          have HD2 := Lib.hid (show noB l (k + 1) from noB_step HD.out fun j h1 h2 => by
            obtain rfl : j = k := by omega
            rw [HP.out]; omega)
          clear hbr
          go_wp2_with fail
          go_roundg (n - (k + 1))
          case measure => omega
          case rel => exact ⟨k + 1, by omega, by go_num, HD2, HB⟩
      · have t1 : ¬ (p : Int) < 128 := by omega
        have hsl := bfrom_run b off n c k hlt hc (by omega)
        have hz : (bs (l.drop k)).size = n - k := by rw [bs_size, List.length_drop, HN.out]
        have hcs : ∀ j, j < (bs (l.drop k)).size → wr.cell? ⟨b, off + k + j, none⟩ = some (.int .u8 ((bs (l.drop k)).get! j).toNat) := fun j hj => by
          rw [hz] at hj
          have := cell_later HB.out (hcell (k + j) (by omega))
          rw [get_bs, List.getD, List.getElem?_drop, Nat.add_assoc]
          exact this
        have DR := Any7.utf8_DecodeRune Tryz.lays7_32 (bs (l.drop k)) b (off + k) (c - k) wr (HE.out.later HB.out).tabs hcs
        have HF := Lib.hid (dec_facts l k (by rw [HN.out]; exact hlt) (by rw [HP.out]; omega))
        rw [hz] at DR
        obtain ⟨R, hR⟩ : ∃ R, (Lib.decodeGo (bs (l.drop k))).1 = R := ⟨_, rfl⟩
        obtain ⟨K, hK⟩ : ∃ K, (Lib.decodeGo (bs (l.drop k))).2 = K := ⟨_, rfl⟩
        rw [hR, hK] at DR HF
        have DR : Calls Tryz.prog 141 #[.slice (some ⟨b, off + k, none⟩) (n - k) (c - k)] wr fun e w' => e = .returned (.tuple #[.int .i32 R, .int .i64 K]) ∧ Below wr.heap.size wr w' := DR
        have HDR := Lib.hid DR
        have HD2 := Lib.hid (show noB l (k + K) from noB_step HD.out fun j h1 h2 => by
          have := HF.out.all j h1 h2
          omega)
        have hK1 := HF.out.one
        have hK2 : k + K ≤ n := by have := HF.out.in_; rw [HN.out] at this; exact this
        have hR1 := HF.out.rune.1
        have hR2 := HF.out.rune.2
        obtain ⟨m, hm⟩ := HE.out.mx
        have HM := Lib.hid hm
        clear hR hK DR hz hcs hcell hib hm
        by_cases hRE : R = 65533
        · have t3 : ((R : Int) != 65533) = false := by rw [hRE]; rfl
          clear hRE
          go_wp2_with fail
          refine (HDR.out).mono ?_; rintro e w2 ⟨rfl, hb⟩
          have HB2 := Lib.hid (bel_call HB.out hb)
          clear hb
          go_wp2_with fail
          go_loopg [15] 2 (fun g2 v15 wq => ∃ i : Nat, i + g2 = 2 ∧ Hid (wq.heap[w2.heap.size]? = some (.stringIter ⟨#[13, 10]⟩ i)) ∧ Hid (Below w1.heap.size w1 wq))
          case atStart => exact ⟨0, by omega, Lib.hid (World.iter_heap w2 ⟨#[13, 10]⟩ 0), Lib.hid (bel_iter HB2.out HB2.out.size _ _)⟩
          case round =>
            obtain ⟨i, hi, HIT, HBQ⟩ := hrel
            by_cases hi2 : i < 2
            · obtain ⟨ch, hch, hnx⟩ := next_two HIT.out hi2
              have t9 : ((R : Int) == (ch : Nat)) = false := by rw [beq_eq_false_iff_ne]; omega
              have HIT2 := Lib.hid (Lib.iterAt_heap wr w2.heap.size ⟨#[13, 10]⟩ _ (i + 1) HIT.out)
              have HBQ2 := Lib.hid (Lib.below_iterAt HBQ.out (by exact HB2.out.size) ⟨#[13, 10]⟩ (i + 1))
              clear hch
              go_wp2_with fail
              go_roundg (2 - (i + 1))
              case measure => omega
              case rel => exact ⟨i + 1, by omega, HIT2, HBQ2⟩
            · have hnx := fun ty => Lib.run_next_end_at (P := Tryz.prog) wr w2.heap.size ⟨#[13, 10]⟩ i ty HIT.out (by show ¬ i < 2; omega)
              go_wp2_with fail
              go_roundg (n - (k + K))
              case measure => have := HF.out.one; have := HF.out.in_; omega
              case rel => exact ⟨k + K, by omega, by go_num, HD2, HBQ⟩
        · have t3 : ((R : Int) != 65533) = true := by rw [bne_iff_ne]; omega
          have h2 := HF.out.two hRE
          clear hRE
          have hfirst := enc_first R hR1
          by_cases hK3 : K = 2
          · have t4 : ((2 : Int) == K) = true := by rw [hK3]; rfl
            have t5 : (([13, 10] : List UInt8) == (Utf8.encode (R : Int)).toList) = false := by
              rw [beq_eq_false_iff_ne]
              intro e
              have := hfirst 13 (by rw [← e]; rfl)
              simp at this
            have HK3 := Lib.hid hK3
            clear hfirst h2 hK3
            go_wp2_with fail
            refine (HDR.out).mono ?_; rintro e w2 ⟨rfl, hb⟩
            have HB2 := Lib.hid (bel_call HB.out hb)
            clear hb
            go_wp2_with fail
            go_roundg (n - (k + K))
            case measure => omega
            case rel => exact ⟨k + K, by omega, by go_num, HD2, HB2⟩
          · obtain ⟨h3, h4, hsz⟩ := h2.resolve_left hK3
            have t4 : ((2 : Int) == K) = false := by rw [beq_eq_false_iff_ne]; omega
            by_cases hmk : (K : Int) ≤ m
            · have hne : Lib.index [13, 10] (Utf8.encode (R : Int)).data.toList = -1 := by
                refine Lib.index_long ?_ ?_
                · rw [← Lib.size_eq, hsz]; simp; omega
                · intro e
                  have := congrArg List.length e
                  rw [← Lib.size_eq, hsz] at this
                  simp at this; omega
              have his : ∀ wx : World, wx.cell? ⟨Tryz.lays143_ren.g 1, 0, none⟩ = some (.int .i64 m) → (callFunc 142 #[.string ⟨#[13, 10]⟩, .string (Utf8.encode (R : Int))]).run Tryz.prog wx = .ok (.value (.int .i64 (-1))) wx := fun wx hmx => by
                rw [run_callFunc_extern Tryz.func142 (by kernel_rfl) (by kernel_rfl) (by kernel_rfl) (e := Extern.BytealgIndex.index) (by kernel_rfl),
                  Lib.run_indexString _ _ _ (Tryz.lays143_ren.g 1) m Tryz.lays143.g1 hmx (by rw [hsz]; omega) (by rw [hsz]; exact hmk) (by show 2 < 4294967281; omega)]
                have : Lib.index (⟨#[13, 10]⟩ : ByteArray).data.toList (Utf8.encode (R : Int)).data.toList = -1 := hne
                rw [this]
                rfl
              have HIS := Lib.hid his
              clear hfirst h2 hK3 hne his hsz
              go_wp2_with fail
              refine (HDR.out).mono ?_; rintro e w2 ⟨rfl, hb⟩
              have HB2 := Lib.hid (bel_call HB.out hb)
              clear hb
              have hm2 := cell_later HB2.out HM.out
              have his2 := HIS.out w2 hm2
              have hm2 : w2.cell? ⟨Tryz.lays143_ren.g 1, 0, none⟩ = some (.int .i64 m) := hm2
              simp only [Tryz.lays143_ren] at hm2
              go_wp2_with fail
              go_roundg (n - (k + K))
              case measure => omega
              case rel => exact ⟨k + K, by omega, by go_num, HD2, HB2⟩
            · clear hfirst h2 hK3 hsz
              go_wp2_with fail
              refine (HDR.out).mono ?_; rintro e w2 ⟨rfl, hb⟩
              have HB2 := Lib.hid (bel_call HB.out hb)
              clear hb
              have hm2 := cell_later HB2.out HM.out
              simp only [Tryz.lays143_ren] at hm2
              go_wp2_with fail
              go_loopg [15] 2 (fun g2 v15 wq => ∃ i : Nat, i + g2 = 2 ∧ Hid (wq.heap[w2.heap.size]? = some (.stringIter ⟨#[13, 10]⟩ i)) ∧ Hid (Below w1.heap.size w1 wq))
              case atStart => exact ⟨0, by omega, Lib.hid (World.iter_heap w2 ⟨#[13, 10]⟩ 0), Lib.hid (bel_iter HB2.out HB2.out.size _ _)⟩
              case round =>
                obtain ⟨i, hi, HIT, HBQ⟩ := hrel
                by_cases hi2 : i < 2
                · obtain ⟨ch, hch, hnx⟩ := next_two HIT.out hi2
                  have t9 : ((R : Int) == (ch : Nat)) = false := by rw [beq_eq_false_iff_ne]; omega
                  have HIT2 := Lib.hid (Lib.iterAt_heap wr w2.heap.size ⟨#[13, 10]⟩ _ (i + 1) HIT.out)
                  have HBQ2 := Lib.hid (Lib.below_iterAt HBQ.out (by exact HB2.out.size) ⟨#[13, 10]⟩ (i + 1))
                  clear hch
                  go_wp2_with fail
                  go_roundg (2 - (i + 1))
                  case measure => omega
                  case rel => exact ⟨i + 1, by omega, HIT2, HBQ2⟩
                · have hnx := fun ty => Lib.run_next_end_at (P := Tryz.prog) wr w2.heap.size ⟨#[13, 10]⟩ i ty HIT.out (by show ¬ i < 2; omega)
                  go_wp2_with fail
                  go_roundg (n - (k + K))
                  case measure => have := HF.out.one; have := HF.out.in_; omega
                  case rel => exact ⟨k + K, by omega, by go_num, HD2, HBQ⟩
    · have e : k = n := by omega
      subst e
      have hbr := hnb.out HD.out
      go_wp2_with fail
      go_ret
      exact ⟨_, rfl, ⟨fun h => by omega, fun h => by rw [hbr] at h; cases h⟩, HB.out⟩
end Go.Proofs.YtkoohdacneflfaaGreatDoor

/-
  bytes.IndexAny, of one byte, of many; bytes.ContainsAny.
-/
namespace Go.Proofs.YtkoohdacneflfaaGreatDoor
open Go.RowKit Go.Shelf
set_option linter.unusedVariables false
set_option linter.unusedSimpArgs false
set_option maxRecDepth 100000

set_option maxHeartbeats 2000000 in
theorem indexAny_one {w : World} {lo hi : Nat} {v : Value} (l : List UInt8) (hs : Sl w lo hi v (iz l)) (h1 : l.length = 1) : Calls Tryz.prog 112 #[v, .string ⟨#[13, 10]⟩] w (IaPost w l) := by
  obtain ⟨a, c, rfl, hc, HC⟩ := sl_bytes hs
  rw [iz_len]
  have hnb := Lib.hid (brk_no l)
  have hat := Lib.hid (brk_at l)
  rw [h1] at HC hnb hat hc ⊢
  clear h1
  obtain ⟨b, off, rfl, hcell⟩ := HC.out (by omega)
  have hc0 := hcell 0 (by omega)
  obtain ⟨x, hx⟩ : ∃ x, l.getD 0 0 = x := ⟨_, rfl⟩
  have hx8 : x.toNat < 256 := x.toNat_lt
  rw [hx] at hc0
  have HX := Lib.hid hx
  clear hx hcell hs
  obtain ⟨p, hpx⟩ : ∃ p, x.toNat = p := ⟨_, rfl⟩
  rw [hpx] at hc0 hx8
  have HP := Lib.hid (show (l.getD 0 0).toNat = p by rw [HX.out, hpx])
  have HQ := Lib.hid (crlf_at x)
  have hib := ib_run p
  have ex : (p : Int).toNat.toUInt8 = x := by rw [Int.toNat_natCast, ← hpx]; simp
  rw [ex] at hib
  rw [hpx] at HQ
  clear hpx ex
  obtain ⟨q, hq⟩ : ∃ q, Lib.indexByte [13, 10] x = q := ⟨_, rfl⟩
  rw [hq] at HQ hib
  clear hq
  have hp256 : (p : Int) < 256 := by omega
  have hc0 : w.cell? ⟨b, off, none⟩ = some (.int .u8 p) := hc0
  by_cases h128 : p < 128
  · have t1 : ¬ (128 : Int) ≤ p := by omega
    by_cases hbr : p = 13 ∨ p = 10
    · have t2 : 0 ≤ q := HQ.out.2 hbr
      have HA := Lib.hid (hat.out 0 (by omega) (by rw [HP.out]; exact hbr))
      clear hbr
      go_enter Tryz.func112, Tryz.ntmps112
      go_wp2_with fail
      go_ret
      exact ⟨_, rfl, ⟨fun _ => HA.out, fun _ => by omega⟩, Below.refl _ _⟩
    · have t2 : ¬ 0 ≤ q := fun h => hbr (HQ.out.1 h)
      have HA := Lib.hid (hnb.out fun j hj => by
        obtain rfl : j = 0 := by omega
        rw [HP.out]; omega)
      clear hbr
      go_enter Tryz.func112, Tryz.ntmps112
      go_wp2_with fail
      go_ret
      exact ⟨_, rfl, ⟨fun h => by omega, fun h => by rw [HA.out] at h; cases h⟩, Below.refl _ _⟩
  · have t1 : (128 : Int) ≤ p := by omega
    have HA := Lib.hid (hnb.out fun j hj => by
      obtain rfl : j = 0 := by omega
      rw [HP.out]; omega)
    have HIT0 := Lib.hid (World.iter_heap w ⟨#[13, 10]⟩ 0)
    have HB := Lib.hid (bel_iter (Below.refl w.heap.size w) (Nat.le_refl _) ⟨#[13, 10]⟩ 0)
    go_enter Tryz.func112, Tryz.ntmps112
    go_wp2_with fail
    go_loopg [5] 2 (fun g2 v5 wq => ∃ i : Nat, i + g2 = 2 ∧ Hid (wq.heap[w.heap.size]? = some (.stringIter ⟨#[13, 10]⟩ i)) ∧ Hid (Below w.heap.size w wq))
    case atStart => exact ⟨0, by omega, HIT0, HB⟩
    case round =>
      obtain ⟨i, hi, HIT, HBQ⟩ := hrel
      by_cases hi2 : i < 2
      · obtain ⟨ch, hch, hnx⟩ := next_two HIT.out hi2
        have t9 : ((ch : Int) == 65533) = false := by rw [beq_eq_false_iff_ne]; omega
        have HIT2 := Lib.hid (Lib.iterAt_heap wr w.heap.size ⟨#[13, 10]⟩ _ (i + 1) HIT.out)
        have HBQ2 := Lib.hid (Lib.below_iterAt HBQ.out (Nat.le_refl _) ⟨#[13, 10]⟩ (i + 1))
        clear hch
        go_wp2_with fail
        go_roundg (2 - (i + 1))
        case measure => omega
        case rel => exact ⟨i + 1, by omega, HIT2, HBQ2⟩
      · have hnx := fun ty => Lib.run_next_end_at (P := Tryz.prog) wr w.heap.size ⟨#[13, 10]⟩ i ty HIT.out (by show ¬ i < 2; omega)
        go_wp2_with fail
        go_ret
        exact ⟨_, rfl, ⟨fun h => by omega, fun h => by rw [HA.out] at h; cases h⟩, HBQ.out⟩

theorem set_has (x : UInt8) : (([13, 10] : List UInt8).contains x = true) ↔ x.toNat = 13 ∨ x.toNat = 10 := by
  simp only [List.contains_iff_mem, List.mem_cons, List.mem_nil_iff, or_false]
  rw [← UInt8.toNat_inj, ← UInt8.toNat_inj]
  exact Iff.rfl

set_option maxHeartbeats 4000000 in
theorem indexAny_many {w : World} {lo hi : Nat} {v : Value} (l : List UInt8) (hs : Sl w lo hi v (iz l)) (h8 : 8 < l.length) (hl : l.length ≤ 1000000) : Calls Tryz.prog 112 #[v, .string ⟨#[13, 10]⟩] w (IaPost w l) := by
  obtain ⟨a, c, rfl, hc, HC⟩ := sl_bytes hs
  rw [iz_len]
  have hsh := should_any l.length
  rw [decide_eq_true h8] at hsh
  have HSH := Lib.hid hsh
  have t0 : ((l.length : Int) == 1) = false := by rw [beq_eq_false_iff_ne]; omega
  have hnb := Lib.hid (brk_no l)
  have hat := Lib.hid (brk_at l)
  have hM := Any.bytes_makeASCIISet Tryz.laysV11 (fun _ => by kernel_rfl) (by kernel_rfl) ⟨#[13, 10]⟩ w (by decide) (ascii_of_all (by decide))
  obtain ⟨D, hD⟩ : ∃ D, Lib.setCells ([13, 10] : List UInt8) = D := ⟨_, rfl⟩
  have hM : Calls Tryz.prog 139 #[.string ⟨#[13, 10]⟩] w fun e w' => e = .returned (.tuple #[.agg (Lib.setCells [13, 10]), .bool true]) ∧ w' = w.alloc (.cells (Lib.setCells [13, 10]) 183) := hM
  have hDs : D.size = 256 := by rw [← hD]; exact Lib.setCells_size _
  have hDi : (Tryz.prog.info? 183).map (·.size) = some D.size := by rw [hDs]; kernel_rfl
  have hDo : D.all (·.oneCell') = true := by rw [← hD]; exact Lib.setCells_one _
  have hDx : ∀ x : UInt8, D[x.toNat]? = some (.bool (([13, 10] : List UInt8).contains x)) := fun x => by rw [← hD]; exact Lib.setCells_at _ x
  rw [hD] at hM
  have hz : ∀ wx, (zeroValue 183).run Tryz.prog wx = .ok (.agg (Array.replicate 256 (.bool false))) wx := fun wx => by kernel_rfl
  obtain ⟨Z, hZ⟩ : ∃ Z, Array.replicate 256 (Value.bool false) = Z := ⟨_, rfl⟩
  have hZs : Z.size = D.size := by rw [hDs, ← hZ]; exact Array.size_replicate
  rw [hZ] at hz
  have hsc : (storeCells ⟨w.heap.size + 1, 0, none⟩ D.toList 0).run Tryz.prog ((w.alloc (.cells D 183)).alloc (.cells Z 183)) = .ok () ((w.alloc (.cells D 183)).alloc (.cells D 183)) := by
    have := run_storeCells_new (P := Tryz.prog) (w.alloc (.cells D 183)) 183 Z D hDi hZs hDo
    simpa using this
  have HM := Lib.hid hM
  have HW := Lib.hid (fun x : UInt8 => (show ((w.alloc (.cells D 183)).alloc (.cells D 183)).cell? ⟨w.heap.size + 1, x.toNat, none⟩ = some (.bool (([13, 10] : List UInt8).contains x)) by
    rw [World.cell?, two_alloc]; exact hDx x))
  have HB := Lib.hid (show Below w.heap.size w ((w.alloc (.cells D 183)).alloc (.cells D 183)) from ((Below.refl _ _).alloc (Nat.le_refl _) _).alloc (by simp) _)
  obtain ⟨n, hn⟩ : ∃ n, l.length = n := ⟨_, rfl⟩
  rw [hn] at hc HSH t0 h8 hl hnb hat HC ⊢
  have HN := Lib.hid hn
  clear hn hs hsh hD hM hDi hDo hDx hZ hZs
  go_enter Tryz.func112, Tryz.ntmps112
  go_wp2_with fail
  refine (HSH.out _).mono ?_; rintro e w1 ⟨rfl, rfl⟩
  go_wp2_with fail
  refine (HM.out).mono ?_; rintro e w2 ⟨rfl, rfl⟩
  go_wp2_with fail
  clear hsc hz hDs
  obtain ⟨W, hW⟩ : ∃ W, (w1.alloc (.cells D 183)).alloc (.cells D 183) = W := ⟨_, rfl⟩
  rw [hW] at HW HB ⊢
  go_loopg [62, 9, 10] n (fun g v62 v9 v10 wr => ∃ k : Nat, k + g = n ∧ v62 = .int .i64 k ∧ Hid (noB l k) ∧ W = wr)
  case atStart => exact ⟨0, by omega, rfl, Lib.hid fun j hj => by omega, rfl⟩
  case round =>
    obtain ⟨k, hk, rfl, HD, rfl⟩ := hrel
    by_cases hlt : k < n
    · obtain ⟨b, off, rfl, hcell⟩ := HC.out (by omega)
      have hc0 := cell_later HB.out (hcell k hlt)
      obtain ⟨x, hx⟩ : ∃ x, l.getD k 0 = x := ⟨_, rfl⟩
      rw [hx] at hc0
      have HX := Lib.hid hx
      have hct := Any.bytes_asciiSet_contains Tryz.laysV16 (w1.heap.size + 1) x (([13, 10] : List UInt8).contains x) W (HW.out x)
      have HS := Lib.hid (set_has x)
      clear hx hcell
      obtain ⟨V, hV⟩ : ∃ V, ([13, 10] : List UInt8).contains x = V := ⟨_, rfl⟩
      rw [hV] at hct HS
      obtain ⟨p, hpx⟩ : ∃ p, x.toNat = p := ⟨_, rfl⟩
      rw [hpx] at hct HS hc0
      have HP := Lib.hid (show (l.getD k 0).toNat = p by rw [HX.out, hpx])
      have hct : Calls Tryz.prog 140 #[.pointer (some ⟨w1.heap.size + 1, 0, none⟩), .int .u8 p] W fun e w' => e = .returned (.bool V) ∧ w' = W := hct
      have HCT := Lib.hid hct
      clear hV hct hpx
      cases V with
      | true =>
        have HA := Lib.hid (hat.out k hlt (by rw [HP.out]; exact HS.out.1 rfl))
        go_wp2_with fail
        refine (HCT.out).mono ?_; rintro e w2 ⟨rfl, hw⟩
        subst hw
        go_wp2_with fail
        go_ret
        exact ⟨_, rfl, ⟨fun _ => HA.out, fun _ => by omega⟩, HB.out⟩
      | false =>
        have HD2 := Lib.hid (show noB l (k + 1) from noB_step HD.out fun j h1 h2 => by
          obtain rfl : j = k := by omega
          rw [HP.out]
          have := mt HS.out.2 (by simp)
          omega)
        go_wp2_with fail
        refine (HCT.out).mono ?_; rintro e w2 ⟨rfl, hw⟩
        subst hw
        go_wp2_with fail
        go_roundg (n - (k + 1))
        case measure => omega
        case rel => exact ⟨k + 1, by omega, by go_num, HD2, rfl⟩
    · have e : k = n := by omega
      subst e
      have hbr := hnb.out HD.out
      go_wp2_with fail
      go_ret
      exact ⟨_, rfl, ⟨fun h => by omega, fun h => by rw [hbr] at h; cases h⟩, HB.out⟩

theorem indexAny_any {w : World} {lo hi : Nat} {v : Value} (l : List UInt8) (hs : Sl w lo hi v (iz l)) (hE : Env w) (hl : l.length ≤ 1000000) : Calls Tryz.prog 112 #[v, .string ⟨#[13, 10]⟩] w (IaPost w l) := by
  by_cases h1 : l.length = 1
  · exact indexAny_one l hs h1
  · by_cases h8 : 8 < l.length
    · exact indexAny_many l hs h8 hl
    · exact indexAny_few l hs hE h1 (by omega)

theorem containsAny_any {w : World} {lo hi : Nat} {v : Value} (l : List UInt8) (hs : Sl w lo hi v (iz l)) (hE : Env w) (hl : l.length ≤ 1000000) : Calls Tryz.prog 98 #[v, .string ⟨#[13, 10]⟩] w (Tells w (.bool (brk l))) := by
  have HI := Lib.hid (indexAny_any l hs hE hl)
  obtain ⟨R, hR⟩ : ∃ R, brk l = R := ⟨_, rfl⟩
  rw [hR]
  have HR := Lib.hid hR
  obtain ⟨a, c, rfl, _⟩ := hs
  rw [iz_len] at HI ⊢
  clear hR hE
  go_enter Tryz.func98, Tryz.ntmps98
  go_wp2_with fail
  refine (HI.out).mono ?_; rintro e w1 ⟨i, rfl, hi, hb⟩
  have HB := Lib.hid hb
  have HQ := Lib.hid hi
  clear hb hi
  go_wp2_with fail
  go_ret
  refine ⟨congrArg (fun b => Ending.returned (Value.bool b)) ?_, HB.out⟩
  have := HQ.out
  rw [HR.out] at this
  rw [Bool.eq_iff_iff]
  simpa using this
end Go.Proofs.YtkoohdacneflfaaGreatDoor

/-
  Lines.
-/
namespace Go.Proofs.YtkoohdacneflfaaGreatDoor
open Go.RowKit Go.Shelf
set_option linter.unusedVariables false
set_option linter.unusedSimpArgs false
set_option maxRecDepth 100000

theorem strz (m : List UInt8) : strOfNums (iz m) = bs m := by
  unfold strOfNums iz bs
  rw [List.map_map]
  congr 2
  conv => rhs; rw [← List.map_id m]
  apply List.map_congr_left
  intro x _
  simp
theorem bytes_iz (m : List UInt8) : Lib.bytesOf (iz m) = m := by
  unfold Lib.bytesOf iz
  rw [List.map_map]
  conv => rhs; rw [← List.map_id m]
  apply List.map_congr_left
  intro x _
  simp

/-- What bytes.Cut tells, at a line's end. -/
def CutPost (w : World) (lo hi : Nat) (v : Value) (l : List UInt8) (e : Ending) (w' : World) : Prop :=
  (Lib.index l crlf = -1 ∧ e = .returned (.tuple #[v, .slice none 0 0, .bool false]) ∧ Below w.heap.size w w') ∨
  ∃ (i : Nat) (v1 v2 : Value), Lib.index l crlf = i ∧ i + 2 ≤ l.length ∧ e = .returned (.tuple #[v1, v2, .bool true]) ∧ Sl w lo hi v1 (iz (l.take i)) ∧ Sl w lo hi v2 (iz (l.drop (i + 2))) ∧ Below w.heap.size w w'

theorem cut_any {w : World} {lo hi lo' hi' : Nat} {v u : Value} (l : List UInt8) (hs : Sl w lo hi v (iz l)) (hu : Sl w lo' hi' u (iz crlf)) (hE : Env w) (hl : l.length ≤ 1000000) :
    Calls Tryz.prog 97 #[v, u] w (CutPost w lo hi v l) := by
  obtain ⟨m, hm⟩ := hE.mx
  have hs' := hs
  obtain ⟨a, c, rfl, hc, hn, hp⟩ := hs
  obtain ⟨a', c', rfl, hc', hn', hp'⟩ := hu
  have hb : ∀ x : List UInt8, ∀ n ∈ iz x, 0 ≤ n ∧ n < 256 := fun x n hn => by have := iz_byte x n hn; omega
  have h := Tryz.bytes_Cut_all a a' (iz l).length c (iz crlf).length c' (iz l) (iz crlf) m w rfl rfl (hb l) (hb crlf)
    (fun h0 => by obtain ⟨b, o, e, _, _, hx⟩ := hp h0; exact ⟨b, o, e, hx⟩) (fun h0 => by obtain ⟨b, o, e, _, _, hx⟩ := hp' h0; exact ⟨b, o, e, hx⟩) hn hc (by rw [iz_len]; omega) (by rw [iz_len]; decide) hm
  refine h.mono ?_
  rintro e w' ⟨rfl, q, rfl⟩
  rw [bytes_iz, bytes_iz]
  have hB : Below w.heap.size w (w.drewN q) := below_drewN (Below.refl _ w) q
  unfold Lib.cutV
  by_cases h0 : 0 ≤ Lib.index l crlf
  · right
    obtain ⟨i, hi⟩ : ∃ i : Nat, Lib.index l crlf = i := ⟨_, (Int.toNat_of_nonneg h0).symm⟩
    have hr := Lib.index_room l crlf h0
    rw [hi] at hr
    have hr : i + 2 ≤ l.length := by simp [crlf] at hr; omega
    rw [if_pos h0, hi, Int.toNat_natCast]
    refine ⟨i, _, _, rfl, hr, rfl, ?_, ?_, hB⟩
    · have e : (iz (l.take i)).length = i := by rw [iz_len, List.length_take]; omega
      refine ⟨a, c, by rw [e], by rw [iz_len, List.length_take]; rw [iz_len] at hc; omega, hn, fun h1 => ?_⟩
      rw [e] at h1 ⊢
      obtain ⟨b, o, rfl, h2, h3, hx⟩ := hp (by rw [iz_len]; omega)
      refine ⟨b, o, rfl, h2, h3, fun j hj => ?_⟩
      rw [hx j (by rw [iz_len]; omega), iz_get l j (by omega), iz_get (l.take i) j (by rw [List.length_take]; omega), List.getElem_take]
    · have e : (iz (l.drop (i + 2))).length = l.length - (i + 2) := by rw [iz_len, List.length_drop]
      unfold Lib.fromV
      have e2 : crlf.length = 2 := rfl
      rw [iz_len, iz_len, e2]
      rw [iz_len] at hc
      refine ⟨_, _, by rw [e], by omega, ?_, fun h1 => ?_⟩
      · intro hnone
        split at hnone
        · rename_i e; omega
        · have : a = none := by simpa using hnone
          have := hn this
          omega
      · obtain ⟨b, o, rfl, h2, h3, hx⟩ := hp (by rw [iz_len]; omega)
        rw [if_neg (by omega)]
        refine ⟨b, o + (i + 2), by simp only [Option.map_some]; rw [WideShapes.add_plain], h2, h3, fun j hj => ?_⟩
        rw [show o + (i + 2) + j = o + (i + 2 + j) by omega, hx (i + 2 + j) (by rw [iz_len]; omega), iz_get l _ (by omega), iz_get (l.drop (i + 2)) j (by rw [List.length_drop]; omega), List.getElem_drop]
  · left
    have hge := Lib.index_ge l crlf
    rw [if_neg h0]
    exact ⟨by omega, rfl, hB⟩

theorem sl_shape {w : World} {lo hi : Nat} {v : Value} {l : List UInt8} {n : Nat} (h : Sl w lo hi v (iz l)) (hn : l.length = n) : ∃ a c, v = .slice a n c := by
  obtain ⟨a, c, rfl, _⟩ := h
  exact ⟨a, c, by rw [iz_len, hn]⟩
theorem sl_sep (w : World) (fz : Nat × Nat) : Sl (w.alloc (.cells #[.int .u8 13, .int .u8 10] 5 fz)) w.heap.size (w.heap.size + 1) (.slice (some ⟨w.heap.size, 0, none⟩) 2 2) (iz crlf) := by
  refine ⟨_, 2, rfl, by rw [iz_len]; exact Nat.le_refl 2, fun h => by simp at h, fun _ => ⟨_, _, rfl, Nat.le_refl _, by omega, fun j hj => ?_⟩⟩
  have hj : j < 2 := hj
  rw [World.cell?, heap_alloc_new, Nat.zero_add]
  have : j = 0 ∨ j = 1 := by omega
  rcases this with rfl | rfl <;> rfl

/-- Lines, told. -/
def LinPost (w : World) (L : List (List UInt8)) (e : Ending) (w' : World) : Prop := ∃ v, e = .returned v ∧ OwnT w' w.heap.size v L ∧ Below w.heap.size w w'
set_option maxHeartbeats 4000000 in
theorem lines_any {w : World} {v : Value} (b : List UInt8) (hs : Sl w 0 w.heap.size v (iz b)) (hE : Env w) (hl : b.length ≤ 100000) : Calls Tryz.prog 78 #[v] w (LinPost w (linesB b)) := by
  obtain ⟨R, hR⟩ : ∃ R, linesB b = R := ⟨_, rfl⟩
  rw [hR]
  have HR := Lib.hid hR
  have HE := Lib.hid hE
  have HS := Lib.hid hs
  have HB := Lib.hid (Below.refl w.heap.size w)
  have HL0 := Lib.hid (show linA [] b = R by rw [linA_0]; exact hR)
  clear hR hE hs
  go_enter Tryz.func78, Tryz.ntmps78
  go_wp2_with fail
  go_loopg [0, 3] b.length (fun g v0 v3 wr => ∃ (c : List UInt8) (acc : List (List UInt8)), c.length = g ∧ acc.length + c.length ≤ 100000 ∧ Hid (Sl wr 0 w.heap.size v0 (iz c)) ∧ Hid (OwnT wr w.heap.size v3 acc) ∧ Hid (linA acc c = R) ∧ Hid (Below w.heap.size w wr))
  case atStart => exact ⟨b, [], rfl, by simpa using hl, HS, Lib.hid (OwnT.nil _ _), HL0, HB⟩
  case round =>
    clear HL0 HS HR
    obtain ⟨c, acc, hg, hb, HC, HO, HL, HB⟩ := hrel
    have HG := Lib.hid hg
    clear hg
    obtain ⟨a0, c0, rfl⟩ := sl_shape HC.out rfl
    obtain ⟨a3, c3, rfl⟩ := HO.out.shape
    have hcv := fun (w : World) (C : Array Value) (n c : Nat) => Lib.run_convert_bytes_const (P := Tryz.prog) w 28 5 C n c Tryz.underlying28 Tryz.underlying5
    have hbw : Below w.heap.size w (wr.alloc (.cells #[.int .u8 13, .int .u8 10] 5 (2, 3))) := HB.out.alloc HB.out.size _
    have HCW : Sl (wr.alloc (.cells #[.int .u8 13, .int .u8 10] 5 (2, 3))) 0 w.heap.size (.slice a0 c.length c0) (iz c) := HC.out.below ((Below.refl wr.heap.size wr).alloc (Nat.le_refl _) _) HB.out.size
    have HCut := Lib.hid (cut_any c HCW (sl_sep wr (2, 3)) (HE.out.later hbw) (by omega))
    have HOW := Lib.hid (HO.out.below ((Below.refl wr.heap.size wr).alloc (Nat.le_refl _) (.cells #[.int .u8 13, .int .u8 10] 5 (2, 3))))
    have HBW := Lib.hid hbw
    clear HC HCW hbw HO
    obtain ⟨W, hW⟩ : ∃ W, wr.alloc (.cells #[.int .u8 13, .int .u8 10] 5 (2, 3)) = W := ⟨_, rfl⟩
    rw [hW] at HCut HOW HBW
    have HW := Lib.hid hW
    clear hW
    go_wp2_with fail
    rw [HW.out]
    refine (HCut.out).mono ?_
    rintro e w1 (⟨hi, rfl, hbw⟩ | ⟨i, v1, v2, hi, hil, rfl, s1, s2, hbw⟩)
    · have hR := HL.out
      rw [linA_no hi] at hR
      subst hR
      have HB1 := Lib.hid (bel_call HBW.out hbw)
      clear hi hbw
      go_wp2_with fail
      go_ret
      exact ⟨_, rfl, OwnT.nil _ _, HB1.out⟩
    · obtain ⟨m, hm⟩ : ∃ m, c.take i = m := ⟨_, rfl⟩
      obtain ⟨d, hd⟩ : ∃ d, c.drop (i + 2) = d := ⟨_, rfl⟩
      have hml : m.length = i := by rw [← hm, List.length_take]; omega
      have hdl : d.length + (i + 2) = c.length := by rw [← hd, List.length_drop]; omega
      rw [hm] at s1
      rw [hd] at s2
      obtain ⟨a1, c1, rfl⟩ := sl_shape s1 hml
      obtain ⟨a2, c2, rfl⟩ := sl_shape s2 rfl
      have HB1 := Lib.hid (bel_call HBW.out hbw)
      have HO1 := Lib.hid (HOW.out.below hbw)
      have HS1 := Lib.hid (s1.below (B := W.heap.size) hbw HBW.out.size)
      have HS2 := Lib.hid (s2.below (B := W.heap.size) hbw HBW.out.size)
      have HCA := Lib.hid (containsAny_any m HS1.out (HE.out.later HB1.out) (by omega))
      by_cases h0 : i = 0
      · subst h0
        have hm0 : m = [] := List.eq_nil_of_length_eq_zero hml
        have hR := HL.out
        rw [linA_empty hi] at hR
        by_cases hd0 : d.length = 0
        · have e : c.drop 2 = [] := by
            have : c.drop (0 + 2) = [] := by rw [hd]; exact List.eq_nil_of_length_eq_zero hd0
            simpa using this
          rw [if_pos e] at hR
          have HRR := Lib.hid hR
          have t1 : ((d.length : Int) == 0) = true := by rw [hd0]; rfl
          rw [hm0] at HCA
          have HCA : Hid (Calls Tryz.prog 98 #[.slice a1 0 c1, .string ⟨#[13, 10]⟩] w1 (Tells w1 (.bool false))) := HCA
          clear s1 s2 hi hil hbw hm hd hml hdl hm0 hR e hd0
          go_wp2_with fail
          refine (HCA.out).mono ?_; rintro e w2 ⟨rfl, hb2⟩
          have HB2 := Lib.hid (bel_call HB1.out hb2)
          have HO2 := Lib.hid (HO1.out.below hb2)
          clear HCut HS1 HS2 hb2
          go_wp2_with fail
          go_ret
          exact ⟨_, rfl, HRR.out ▸ HO2.out, HB2.out⟩
        · have e : ¬ c.drop 2 = [] := fun h => hd0 (by
            have : c.drop (0 + 2) = d := hd
            rw [show c.drop (0 + 2) = c.drop 2 from rfl, h] at this
            rw [← this]; rfl)
          rw [if_neg e] at hR
          have HRR := Lib.hid hR
          have t1 : ((d.length : Int) == 0) = false := by rw [beq_eq_false_iff_ne]; omega
          clear s1 s2 hi hil hbw hm hd hml hdl hm0 hR e hd0 HCA HCut HS1 HS2
          go_wp2_with fail
          go_ret
          exact ⟨_, rfl, HRR.out ▸ OwnT.nil _ _, HB1.out⟩
      · have t1 : ((i : Int) == 0) = false := by rw [beq_eq_false_iff_ne]; omega
        obtain ⟨V, hV⟩ : ∃ V, brk m = V := ⟨_, rfl⟩
        rw [hV] at HCA
        cases V with
        | true =>
          have HRR := Lib.hid (show [] = R by rw [← HL.out, linA_bad hi (by rw [hm]; exact hV)])
          clear s1 s2 hi hil hbw hm hd hml hdl hV h0 HCut HS1 HS2
          go_wp2_with fail
          refine (HCA.out).mono ?_; rintro e w2 ⟨rfl, hb2⟩
          have HB2 := Lib.hid (bel_call HB1.out hb2)
          clear hb2
          go_wp2_with fail
          go_ret
          exact ⟨_, rfl, HRR.out ▸ OwnT.nil _ _, HB2.out⟩
        | false =>
          have HRR := Lib.hid (show linA (acc ++ [m]) d = R by rw [← HL.out, linA_go hi (by omega) (by rw [hm]; exact hV), hm, hd])
          have hbnd : (acc ++ [m]).length + d.length ≤ 100000 := by simp; omega
          have hlt : d.length < c.length := by omega
          clear s1 s2 hi hil hbw hm hd hml hdl hV h0 HCut
          go_wp2_with fail
          refine (HCA.out).mono ?_; rintro e w2 ⟨rfl, hb2⟩
          have HB2 := Lib.hid (bel_call HB1.out hb2)
          have HO2 := Lib.hid (HO1.out.below hb2)
          have HS3 := Lib.hid (HS2.out.below hb2 HB1.out.size)
          have hcs := conv_sl (HS1.out.below hb2 HB1.out.size)
          rw [strz] at hcs
          clear hb2 HS1 HS2 HO1 HCA
          go_wp2_with (at_builtin; refine wpList_appT rfl (.tmp 38) (.tmp 41) rfl rfl w.heap.size ?l1 ?h1 _ _ acc [m] rfl rfl ?a1 ?b1 ?c1 ?d1 ?_)
          case l1 => exact w2.heap.size
          case h1 => exact w2.heap.size + 1
          case a1 => exact HO2.out.below ((Below.refl _ _).alloc (Nat.le_refl _) _)
          case b1 => exact st_one w2 m
          case c1 => simp; omega
          case d1 => have := HB2.out.size; simp; omega
          intro a' c' w' HO3 hb3
          have HB3 := Lib.hid ((HB2.out.alloc HB2.out.size _).trans hb3.out)
          have HS4 := Lib.hid ((HS3.out.below ((Below.refl _ _).alloc (Nat.le_refl _) _) HB2.out.size).below hb3.out (Nat.le_refl _))
          clear hb3
          go_wp2_with fail
          go_roundg d.length
          case measure => have := HG.out; omega
          case rel => exact ⟨d, acc ++ [m], rfl, hbnd, HS4, HO3, HRR, HB3⟩
end Go.Proofs.YtkoohdacneflfaaGreatDoor
