/-
  What the library's functions lean on; fields and heads in memory.
-/
import Derived.Test.YtkoohdacneflfaaGreatDoorZ00
import Derived.Test.YtkoohdacneflfaaGreatDoorZ02
import Derived.Test.YtkoohdacneflfaaGreatDoorShelf
import Derived.BigQuiet
import Derived.Deep.QuietTactic
import Derived.Deep.LoopGhost
import Derived.Lib.OthersKept
namespace Go.Proofs.YtkoohdacneflfaaGreatDoor
open Go.RowKit Go.Shelf
set_option linter.unusedVariables false
set_option linter.unusedSimpArgs false
set_option maxRecDepth 100000

/-- The tables of unicode/utf8 lie as their text says, and internal/bytealg.MaxLen holds some number. -/
structure Env (w : World) : Prop where
  tabs : Lib.Utf8Tabs (Tryz.lays7_32_ren.g 2) (Tryz.lays7_32_ren.g 3) w
  mx : ∃ m : Int, w.cell? ⟨Tryz.lays143_ren.g 1, 0, none⟩ = some (.int .i64 m)
theorem Env.later {w w' : World} (h : Env w) (hb : Below w.heap.size w w') : Env w' :=
  ⟨⟨fun c hc => cell_later hb (h.tabs.1 c hc), fun i hi => ⟨cell_later hb (h.tabs.2 i hi).1, cell_later hb (h.tabs.2 i hi).2⟩⟩, h.mx.imp fun m hm => cell_later hb hm⟩

/-- The cells of a field. -/
def cf (f : Fd) : List Value := [.string (bs f.1), .string (bs f.2)]
def acf (l : List Fd) : List Value := l.flatMap cf
theorem acf_len (l : List Fd) : (acf l).length = l.length * 2 := flat_len (f := cf) (k := 2) (fun _ => rfl) l
theorem acf_app (l m : List Fd) : acf (l ++ m) = acf l ++ acf m := List.flatMap_append
theorem acf_one (l : List Fd) : ∀ u ∈ acf l, u.oneCell' = true := flat_one (fun x u hu => by
  simp only [cf, List.mem_cons, List.mem_nil_iff, or_false] at hu
  rcases hu with rfl | rfl <;> rfl) l
/-- The slice v reads as these fields. -/
def SF (w : World) (hi : Nat) (v : Value) (l : List Fd) : Prop := Lst w hi v l.length (acf l)
/-- A row of fields of the call's own. -/
def OwnF (w : World) (B : Nat) (v : Value) (l : List Fd) : Prop := w.ownsRow B 71 2 v l.length (acf l)
/-- The cells of a field stand at a place. -/
def AtF (w : World) (b o : Nat) (x : Fd) : Prop := w.cell? ⟨b, o, none⟩ = some (.string (bs x.1)) ∧ w.cell? ⟨b, o + 1, none⟩ = some (.string (bs x.2))
theorem SF.at_ {w : World} {hi : Nat} {v : Value} {l : List Fd} (h : SF w hi v l) (j : Nat) (hj : j < l.length) : ∃ b off c, v = .slice (some ⟨b, off, none⟩) l.length c ∧ b < hi ∧ AtF w b (off + j * 2) l[j] := by
  obtain ⟨a, c, rfl, _, _, hx⟩ := h
  obtain ⟨b, off, rfl, h1, h2⟩ := hx (by omega)
  have e := fun i u hu => h2 _ _ (flat_at (f := cf) (k := 2) (fun _ => rfl) l j hj i u hu)
  simp only [← Nat.add_assoc] at e
  exact ⟨b, off, c, rfl, h1, e 0 _ rfl, e 1 _ rfl⟩
theorem SF.all {w : World} {hi a_n c : Nat} {a : Option Addr} {l : List Fd} (h : SF w hi (.slice a a_n c) l) (h0 : 0 < l.length) : ∃ b off, a = some ⟨b, off, none⟩ ∧ b < hi ∧ ∀ j (hj : j < l.length), AtF w b (off + j * 2) l[j] := by
  obtain ⟨b, off, c', e, h1, _⟩ := h.at_ 0 h0
  injection e with e1 e2 e3
  refine ⟨b, off, e1, h1, fun j hj => ?_⟩
  obtain ⟨b', off', c', e', _, h2⟩ := h.at_ j hj
  injection e' with e1' _ _
  rw [e1] at e1'
  injection e1' with e1'
  injection e1' with e4 e5 _
  subst e4; subst e5
  exact h2
/-- The value v reads as this head. -/
def Hv (w : World) (hi : Nat) (v : Value) (h : Hd) : Prop := ∃ sl, v = .agg #[.string (bs h.m), .string (bs h.t), .int .i64 h.v, sl] ∧ SF w hi sl h.fs
theorem Hv.below {w w' : World} {hi B : Nat} {v : Value} {h : Hd} (hv : Hv w hi v h) (hb : Below B w w') (hB : hi ≤ B) : Hv w' hi v h := by
  obtain ⟨sl, rfl, h1⟩ := hv
  exact ⟨sl, rfl, Lst.below h1 hb hB⟩
theorem Hv.wide {w : World} {hi hi' : Nat} {v : Value} {h : Hd} (hv : Hv w hi v h) (hh : hi ≤ hi') : Hv w hi' v h := by
  obtain ⟨sl, rfl, h1⟩ := hv
  exact ⟨sl, rfl, Lst.wide h1 hh⟩
theorem Hv.later {w w' : World} {v : Value} {h : Hd} (hv : Hv w w.heap.size v h) (hb : Below w.heap.size w w') : Hv w' w'.heap.size v h := (hv.below hb (Nat.le_refl _)).wide hb.size

end Go.Proofs.YtkoohdacneflfaaGreatDoor

/-
  Small letters, the same names.
-/
namespace Go.Proofs.YtkoohdacneflfaaGreatDoor
open Go.RowKit Go.Shelf
set_option linter.unusedVariables false
set_option linter.unusedSimpArgs false
set_option maxRecDepth 100000

theorem low_nat (x : UInt8) : (low x).toNat = if 65 ≤ x.toNat ∧ x.toNat ≤ 90 then x.toNat + 32 else x.toNat := by
  unfold low
  by_cases h : 65 ≤ x.toNat ∧ x.toNat ≤ 90
  · rw [if_pos h, if_pos h, UInt8.toNat_add]
    have : (32 : UInt8).toNat = 32 := rfl
    rw [this]
    omega
  · rw [if_neg h, if_neg h]
theorem small_any (x : UInt8) (w : World) : Calls Tryz.prog 108 #[.int .u8 (x.toNat : Nat)] w fun e w' => e = .returned (.int .u8 ((low x).toNat : Nat)) ∧ w' = w := by
  have hl := low_nat x
  have h8 := x.toNat_lt
  obtain ⟨z, hz⟩ : ∃ z, x.toNat = z := ⟨_, rfl⟩
  rw [hz] at hl h8 ⊢
  rw [hl]
  clear hl hz
  by_cases h1 : 65 ≤ z
  · by_cases h2 : z ≤ 90
    · rw [if_pos ⟨h1, h2⟩]
      have t1 : (65 : Int) ≤ z := by omega
      have t2 : (z : Int) ≤ 90 := by omega
      go_enter Tryz.func108, Tryz.ntmps108
      go_wp2
      go_ret
      refine ⟨?_, rfl⟩
      simp
      try omega
    · rw [if_neg (by omega)]
      have t1 : (65 : Int) ≤ z := by omega
      have t2 : ¬ (z : Int) ≤ 90 := by omega
      go_enter Tryz.func108, Tryz.ntmps108
      go_wp2
      go_ret
      exact ⟨rfl, rfl⟩
  · rw [if_neg (by omega)]
    have t1 : ¬ (65 : Int) ≤ z := by omega
    go_enter Tryz.func108, Tryz.ntmps108
    go_wp2
    go_ret
    exact ⟨rfl, rfl⟩

/-- The same, up to a place. -/
theorem same_step (a b : List UInt8) (hl : a.length = b.length) : sameN a b = true ↔ ∀ k, k < a.length → low (a.getD k 0) = low (b.getD k 0) := by
  unfold sameN
  rw [beq_iff_eq]
  constructor
  · intro h k hk
    have := congrArg (fun l : List UInt8 => l[k]?) h
    simp only [List.getElem?_map, List.getElem?_eq_getElem hk, List.getElem?_eq_getElem (show k < b.length by omega), Option.map_some, Option.some.injEq] at this
    simpa [List.getD, List.getElem?_eq_getElem hk, List.getElem?_eq_getElem (show k < b.length by omega)] using this
  · intro h
    apply List.ext_getElem (by simpa using hl)
    intro k h1 h2
    simp only [List.length_map] at h1 h2
    have := h k h1
    simpa [List.getD, List.getElem?_eq_getElem h1, List.getElem?_eq_getElem h2] using this
theorem same_len (a b : List UInt8) (hl : a.length ≠ b.length) : sameN a b = false := by
  unfold sameN
  rw [beq_eq_false_iff_ne]
  intro h
  have := congrArg List.length h
  simp at this
  exact hl this
theorem same_no_at (a b : List UInt8) (k : Nat) (hk : k < a.length) (hl : a.length = b.length) (h : low (a.getD k 0) ≠ low (b.getD k 0)) : sameN a b = false := by
  rw [← Bool.not_eq_true, same_step a b hl]
  exact fun h2 => h (h2 k hk)
theorem getD_at (a : List UInt8) (k : Nat) (hk : k < a.length) : a.getD k 0 = a[k] := by rw [List.getD, List.getElem?_eq_getElem hk]; rfl

set_option maxHeartbeats 1000000 in
theorem same_any2 (a b : List UInt8) (ha : a.length ≤ 1000000000) (w : World) : Calls Tryz.prog 87 #[.string (bs a), .string (bs b)] w (Tells w (.bool (sameN a b))) := by
  by_cases hlen : a.length = b.length
  · have HS := Lib.hid (same_step a b hlen)
    have HN := Lib.hid (fun k hk h => same_no_at a b k hk hlen h)
    obtain ⟨R, hR⟩ : ∃ R, sameN a b = R := ⟨_, rfl⟩
    rw [hR] at HS HN ⊢
    clear hR
    have HL := Lib.hid hlen
    have t0 : ((a.length : Int) != b.length) = false := by rw [hlen]; simp
    have HB := Lib.hid (Below.refl w.heap.size w)
    go_enter Tryz.func87, Tryz.ntmps87
    go_wp2_with fail
    go_loopw [13] (fun i wr => ∃ k : Nat, k ≤ a.length ∧ i = .int .i64 k ∧ Hid (∀ j, j < k → low (a.getD j 0) = low (b.getD j 0)) ∧ Hid (Below w.heap.size w wr)) (fun i _ => a.length - (intOf i).toNat)
    case atStart => exact ⟨0, Nat.zero_le _, rfl, Lib.hid fun j hj => by omega, HB⟩
    case round =>
      obtain ⟨k, hk, rfl, HD, HB⟩ := hrel
      by_cases hlt : k < a.length
      · have hlb : k < b.length := by have := HL.out; omega
        have ia := ix_run a k hlt
        have ib := ix_run b k hlb
        have HX := Lib.hid (HN.out k hlt)
        rw [← getD_at a k hlt] at ia
        rw [← getD_at b k hlb] at ib
        clear hlen
        obtain ⟨x, hx⟩ : ∃ x, a.getD k 0 = x := ⟨_, rfl⟩
        obtain ⟨y, hy⟩ : ∃ y, b.getD k 0 = y := ⟨_, rfl⟩
        rw [hx] at ia
        rw [hy] at ib
        have HE := Lib.hid (show low x = low y → low (a.getD k 0) = low (b.getD k 0) by rw [hx, hy]; exact id)
        replace HX := Lib.hid (show low x ≠ low y → R = false by rw [← hx, ← hy]; exact HX.out)
        clear hx hy
        by_cases hpq : low x = low y
        · have t1 : (((low x).toNat : Int) != (low y).toNat) = false := by rw [hpq]; simp
          have HE2 := Lib.hid (show ∀ j, j < k + 1 → low (a.getD j 0) = low (b.getD j 0) from fun j hj => by
            by_cases e : j = k
            · subst e; exact HE.out hpq
            · exact HD.out j (by omega))
          clear hpq
          go_wp2_with fail
          go_quiet ((go_at_call 108; exact Calls.quiet_of_same (small_any _ _)))
          go_wp2_with fail
          go_roundw
          case rel => exact ⟨k + 1, by omega, by go_num, HE2, Lib.hid (below_drewN HB.out _)⟩
          case measure => simp [intOf]; omega
        · have t1 : (((low x).toNat : Int) != (low y).toNat) = true := by
            rw [bne_iff_ne]
            exact fun e => hpq (UInt8.toNat_inj.mp (by exact_mod_cast e))
          have hR := HX.out hpq
          subst hR
          clear hpq
          go_wp2_with fail
          go_quiet ((go_at_call 108; exact Calls.quiet_of_same (small_any _ _)))
          go_wp2_with fail
          go_ret
          exact ⟨rfl, below_drewN HB.out _⟩
      · have hR : R = true := HS.out.2 fun j hj => HD.out j (by omega)
        subst hR
        go_wp2_with fail
        go_ret
        exact ⟨rfl, HB.out⟩
  · rw [same_len a b hlen]
    have t0 : ((a.length : Int) != b.length) = true := by rw [bne_iff_ne]; omega
    go_enter Tryz.func87, Tryz.ntmps87
    go_wp2_with fail
    go_ret
    exact ⟨rfl, Below.refl _ _⟩
end Go.Proofs.YtkoohdacneflfaaGreatDoor

/-
  The document's names, letters, blanks.
-/
namespace Go.Proofs.YtkoohdacneflfaaGreatDoor
open Go.RowKit Go.Shelf
set_option linter.unusedVariables false
set_option linter.unusedSimpArgs false
set_option maxRecDepth 100000

set_option maxHeartbeats 1000000 in
theorem rsame_any (a b : List UInt8) (ha : a.length ≤ 1000000000) (w : World) : Calls Tryz.prog 62 #[.string (bs a), .string (bs b)] w (Tells w (.bool (sameN a b))) := by
  by_cases hlen : a.length = b.length
  · have HS := Lib.hid (same_step a b hlen)
    have HN := Lib.hid (fun k hk h => same_no_at a b k hk hlen h)
    obtain ⟨R, hR⟩ : ∃ R, sameN a b = R := ⟨_, rfl⟩
    rw [hR] at HS HN ⊢
    clear hR
    have HL := Lib.hid hlen
    have t0 : ((a.length : Int) != b.length) = false := by rw [hlen]; simp
    have HB := Lib.hid (Below.refl w.heap.size w)
    go_enter Tryz.func62, Tryz.ntmps62
    go_wp2_with fail
    go_loopw [5] (fun i wr => ∃ k : Nat, k ≤ a.length ∧ i = .int .i64 k ∧ Hid (∀ j, j < k → low (a.getD j 0) = low (b.getD j 0)) ∧ Hid (Below w.heap.size w wr)) (fun i _ => a.length - (intOf i).toNat)
    case atStart => exact ⟨0, Nat.zero_le _, rfl, Lib.hid fun j hj => by omega, HB⟩
    case round =>
      obtain ⟨k, hk, rfl, HD, HB⟩ := hrel
      by_cases hlt : k < a.length
      · have hlb : k < b.length := by have := HL.out; omega
        have ia := ix_run a k hlt
        have ib := ix_run b k hlb
        have HX := Lib.hid (HN.out k hlt)
        rw [← getD_at a k hlt] at ia
        rw [← getD_at b k hlb] at ib
        clear hlen
        obtain ⟨x, hx⟩ : ∃ x, a.getD k 0 = x := ⟨_, rfl⟩
        obtain ⟨y, hy⟩ : ∃ y, b.getD k 0 = y := ⟨_, rfl⟩
        rw [hx] at ia
        rw [hy] at ib
        have HE := Lib.hid (show low x = low y → low (a.getD k 0) = low (b.getD k 0) by rw [hx, hy]; exact id)
        replace HX := Lib.hid (show low x ≠ low y → R = false by rw [← hx, ← hy]; exact HX.out)
        clear hx hy
        have hx8 := x.toNat_lt
        have hy8 := y.toNat_lt
        obtain ⟨p, hp⟩ : ∃ p, x.toNat = p := ⟨_, rfl⟩
        obtain ⟨q, hq⟩ : ∃ q, y.toNat = q := ⟨_, rfl⟩
        have HP := Lib.hid (show low x = low y ↔ (if 65 ≤ p ∧ p ≤ 90 then p + 32 else p) = (if 65 ≤ q ∧ q ≤ 90 then q + 32 else q) by rw [← hp, ← hq, ← low_nat, ← low_nat]; exact UInt8.toNat_inj.symm)
        rw [hp] at ia hx8
        rw [hq] at ib hy8
        clear hp hq
        have hp1 : (p : Int) < 256 := by omega
        have hq1 : (q : Int) < 256 := by omega
        go_wp2_with fail
        go_quiet (fail)
        go_wp2_with fail
        all_goals first
          | (go_roundw
             case rel => exact ⟨k + 1, by omega, by go_num, Lib.hid fun j hj => by
               by_cases e : j = k
               · subst e
                 refine HE.out (HP.out.2 ?_)
                 simp only [bne_eq_false_iff_eq] at *
                 (repeat' split) <;> omega
               · exact HD.out j (by omega), Lib.hid (below_drewN HB.out _)⟩
             case measure => simp [intOf]; omega)
          | (have hR : R = false := HX.out fun e => by
               have h2 := HP.out.1 e
               simp only [bne_iff_ne, ne_eq] at *
               (repeat' split at h2) <;> omega
             subst hR
             go_ret
             exact ⟨rfl, below_drewN HB.out _⟩)
      · have hR : R = true := HS.out.2 fun j hj => HD.out j (by omega)
        subst hR
        go_wp2_with fail
        go_ret
        exact ⟨rfl, HB.out⟩
  · rw [same_len a b hlen]
    have t0 : ((a.length : Int) != b.length) = true := by rw [bne_iff_ne]; omega
    go_enter Tryz.func62, Tryz.ntmps62
    go_wp2_with fail
    go_ret
    exact ⟨rfl, Below.refl _ _⟩

theorem blank_any (x : UInt8) (w : World) : Calls Tryz.prog 89 #[.int .u8 (x.toNat : Nat)] w fun e w' => e = .returned (.bool (blk x)) ∧ w' = w := by
  have h9 : blk x = ((x.toNat : Int) == 9 || (x.toNat : Int) == 32) := by
    rw [Bool.eq_iff_iff, blk_iff]
    simp only [Bool.or_eq_true, beq_iff_eq]
    rw [← UInt8.toNat_inj, ← UInt8.toNat_inj]
    show x.toNat = 9 ∨ x.toNat = 32 ↔ _
    omega
  rw [h9]
  obtain ⟨p, hp⟩ : ∃ p, x.toNat = p := ⟨_, rfl⟩
  rw [hp]
  clear h9 hp
  go_enter Tryz.func89, Tryz.ntmps89
  go_wp2
  all_goals
    go_ret
    simp_all
theorem digit_any (x : UInt8) (w : World) : Calls Tryz.prog 57 #[.int .u8 (x.toNat : Nat)] w fun e w' => e = .returned (.bool (inR dR x.toNat)) ∧ w' = w := by
  have h9 : inR dR x.toNat = decide (48 ≤ x.toNat ∧ x.toNat ≤ 57) := by
    rw [Bool.eq_iff_iff]
    simp [inR, dR]
  rw [h9]
  obtain ⟨p, hp⟩ : ∃ p, x.toNat = p := ⟨_, rfl⟩
  rw [hp]
  clear h9 hp
  by_cases h1 : 48 ≤ p
  · by_cases h2 : p ≤ 57
    · rw [decide_eq_true ⟨h1, h2⟩]
      have t1 : (48 : Int) ≤ p := by omega
      have t2 : (p : Int) ≤ 57 := by omega
      go_enter Tryz.func57, Tryz.ntmps57
      go_wp2
      go_ret
      exact ⟨rfl, rfl⟩
    · rw [decide_eq_false (fun h => h2 h.2)]
      have t1 : (48 : Int) ≤ p := by omega
      have t2 : ¬ (p : Int) ≤ 57 := by omega
      go_enter Tryz.func57, Tryz.ntmps57
      go_wp2
      go_ret
      exact ⟨rfl, rfl⟩
  · rw [decide_eq_false (fun h => h1 h.1)]
    have t1 : ¬ (48 : Int) ≤ p := by omega
    go_enter Tryz.func57, Tryz.ntmps57
    go_wp2
    go_ret
    exact ⟨rfl, rfl⟩
theorem letter_tab : ∀ n : Nat, n < 256 → inR wR n = decide (48 ≤ n ∧ n ≤ 57 ∨ 65 ≤ n ∧ n ≤ 90 ∨ 97 ≤ n ∧ n ≤ 122 ∨ n = 33 ∨ 35 ≤ n ∧ n ≤ 39 ∨ n = 42 ∨ n = 43 ∨ n = 45 ∨ n = 46 ∨ 94 ≤ n ∧ n ≤ 96 ∨ n = 124 ∨ n = 126) := by decide +kernel
set_option maxHeartbeats 1000000 in
theorem letter_any (x : UInt8) (w : World) : Calls Tryz.prog 88 #[.int .u8 (x.toNat : Nat)] w fun e w' => e = .returned (.bool (inR wR x.toNat)) ∧ w' = w := by
  have h9 := letter_tab x.toNat x.toNat_lt
  obtain ⟨R, hR⟩ : ∃ R, inR wR x.toNat = R := ⟨_, rfl⟩
  rw [hR] at h9 ⊢
  obtain ⟨p, hp⟩ : ∃ p, x.toNat = p := ⟨_, rfl⟩
  rw [hp] at h9 ⊢
  clear hR hp
  have H := Lib.hid h9
  clear h9
  go_enter Tryz.func88, Tryz.ntmps88
  go_wp2
  all_goals
    go_ret
    refine ⟨congrArg (fun b => Ending.returned (Value.bool b)) ?_, rfl⟩
    rw [H.out, Bool.eq_iff_iff]
    simp only [Bool.or_eq_true, decide_eq_true_eq, beq_iff_eq, true_iff]
    omega
end Go.Proofs.YtkoohdacneflfaaGreatDoor

/-
  The document's words, targets, values.
-/
namespace Go.Proofs.YtkoohdacneflfaaGreatDoor
open Go.RowKit Go.Shelf
set_option linter.unusedVariables false
set_option linter.unusedSimpArgs false
set_option maxRecDepth 100000

theorem only_iff (r s : List UInt8) : onlyR r s = true ↔ ∀ k, k < s.length → inR r (s.getD k 0).toNat = true := by
  unfold onlyR
  rw [List.all_eq_true]
  constructor
  · intro h k hk
    rw [getD_at s k hk]
    exact h _ (List.getElem_mem hk)
  · intro h x hx
    obtain ⟨k, hk, rfl⟩ := List.getElem_of_mem hx
    have := h k hk
    rwa [getD_at s k hk] at this
theorem only_not (r s : List UInt8) (k : Nat) (hk : k < s.length) (h : inR r (s.getD k 0).toNat = false) : onlyR r s = false := by
  rw [← Bool.not_eq_true, only_iff]
  exact fun h2 => by rw [h2 k hk] at h; cases h

set_option maxHeartbeats 1000000 in
theorem rword_any (s : List UInt8) (most : Nat) (hs : s.length ≤ 1000000000000) (hm : most ≤ 1000000) (w : World) : Calls Tryz.prog 56 #[.string (bs s), .int .i64 most] w (Tells w (.bool (wordL s most))) := by
  by_cases h1 : 1 ≤ s.length
  · by_cases h2 : s.length ≤ most
    · have e : wordL s most = onlyR wR s := by unfold wordL; rw [decide_eq_true h1, decide_eq_true h2]; rfl
      have HY := Lib.hid (only_iff wR s)
      have HN := Lib.hid (only_not wR s)
      rw [e]
      obtain ⟨R, hR⟩ : ∃ R, onlyR wR s = R := ⟨_, rfl⟩
      rw [hR] at HY HN ⊢
      clear hR e
      have t1 : ¬ (s.length : Int) < 1 := by omega
      have t2 : ¬ most < s.length := by omega
      have HB := Lib.hid (Below.refl w.heap.size w)
      go_enter Tryz.func56, Tryz.ntmps56
      go_wp2_with fail
      go_loopw [5] (fun i wr => ∃ k : Nat, k ≤ s.length ∧ i = .int .i64 k ∧ Hid (∀ j, j < k → inR wR (s.getD j 0).toNat = true) ∧ w = wr) (fun i _ => s.length - (intOf i).toNat)
      case atStart => exact ⟨0, Nat.zero_le _, rfl, Lib.hid fun j hj => by omega, rfl⟩
      case round =>
        obtain ⟨k, hk, rfl, HD, rfl⟩ := hrel
        by_cases hlt : k < s.length
        · have ia := ix_run s k hlt
          have HX := Lib.hid (HN.out k hlt)
          rw [← getD_at s k hlt] at ia
          obtain ⟨x, hx⟩ : ∃ x, s.getD k 0 = x := ⟨_, rfl⟩
          rw [hx] at ia HX
          have HE := Lib.hid hx
          clear hx
          obtain ⟨B, hB⟩ : ∃ B, inR wR x.toNat = B := ⟨_, rfl⟩
          have HL := Lib.hid (fun w => letter_any x w)
          rw [hB] at HX
          simp only [hB] at HL
          have HB2 := Lib.hid hB
          clear hB
          cases B with
          | true =>
            have HE2 := Lib.hid (show ∀ j, j < k + 1 → inR wR (s.getD j 0).toNat = true from fun j hj => by
              by_cases e : j = k
              · subst e; rw [HE.out]; exact HB2.out
              · exact HD.out j (by omega))
            go_wp2_with fail
            refine (HL.out _).mono ?_; rintro e w1 ⟨rfl, rfl⟩
            go_wp2_with fail
            go_roundw
            case rel => exact ⟨k + 1, by omega, by go_num, HE2, trivial⟩
            case measure => simp [intOf]; omega
          | false =>
            have hR := HX.out rfl
            subst hR
            go_wp2_with fail
            refine (HL.out _).mono ?_; rintro e w1 ⟨rfl, rfl⟩
            go_wp2_with fail
            go_ret
            exact ⟨rfl, HB.out⟩
        · have hR : R = true := HY.out.2 fun j hj => HD.out j (by omega)
          subst hR
          go_wp2_with fail
          go_ret
          exact ⟨rfl, HB.out⟩
    · have e : wordL s most = false := by unfold wordL; rw [decide_eq_false h2]; simp
      rw [e]
      have t1 : ¬ (s.length : Int) < 1 := by omega
      have t2 : most < s.length := by omega
      go_enter Tryz.func56, Tryz.ntmps56
      go_wp2_with fail
      go_ret
      exact ⟨rfl, Below.refl _ _⟩
  · have e : wordL s most = false := by unfold wordL; rw [decide_eq_false h1]; rfl
    rw [e]
    have t1 : (s.length : Int) < 1 := by omega
    go_enter Tryz.func56, Tryz.ntmps56
    go_wp2_with fail
    go_ret
    exact ⟨rfl, Below.refl _ _⟩

/-- A target, but for how long it is. -/
def tgtD (s : List UInt8) : Bool := decide (1 ≤ s.length) && (s.head? == some 47 && onlyR tR s)
theorem tgt_eq (s : List UInt8) (h : s.length ≤ 2048) : tgtD s = tgtL s := by
  unfold tgtD tgtL
  rw [decide_eq_true h, Bool.true_and, Bool.and_assoc, Bool.and_comm (onlyR tR s)]
theorem inT (n : Nat) : inR tR n = decide (33 ≤ n ∧ n ≤ 126) := by
  rw [Bool.eq_iff_iff]
  simp [inR, tR]
set_option maxHeartbeats 1000000 in
theorem rtarget_any (s : List UInt8) (hs : s.length ≤ 1000000000000) (w : World) : Calls Tryz.prog 58 #[.string (bs s)] w (Tells w (.bool (tgtD s))) := by
  by_cases h1 : 1 ≤ s.length
  · have h2 : s.head? = some (s.getD 0 0) := by
      cases s with
      | nil => simp at h1
      | cons x r => rfl
    have i0 := ix_run s 0 (by omega)
    rw [← getD_at s 0 (by omega)] at i0
    by_cases h3 : s.getD 0 0 = 47
    · have e : tgtD s = onlyR tR s := by unfold tgtD; rw [decide_eq_true h1, h2, h3]; simp
      have HY := Lib.hid (only_iff tR s)
      have HN := Lib.hid (only_not tR s)
      rw [e]
      obtain ⟨R, hR⟩ : ∃ R, onlyR tR s = R := ⟨_, rfl⟩
      rw [hR] at HY HN ⊢
      rw [h3] at i0
      have i0 : ∀ (w : World), (Instr.index 9 (.string (bs s)) (.int .i64 0)).run Tryz.prog w = .ok (.int .u8 47) w := i0
      clear hR e h2 h3
      have t1 : ¬ (s.length : Int) < 1 := by omega
      have HB := Lib.hid (Below.refl w.heap.size w)
      go_enter Tryz.func58, Tryz.ntmps58
      go_wp2_with fail
      go_loopw [3] (fun i wr => ∃ k : Nat, k ≤ s.length ∧ i = .int .i64 k ∧ Hid (∀ j, j < k → inR tR (s.getD j 0).toNat = true) ∧ w = wr) (fun i _ => s.length - (intOf i).toNat)
      case atStart => exact ⟨0, Nat.zero_le _, rfl, Lib.hid fun j hj => by omega, rfl⟩
      case round =>
        obtain ⟨k, hk, rfl, HD, rfl⟩ := hrel
        clear i0
        by_cases hlt : k < s.length
        · have ia := ix_run s k hlt
          have HX := Lib.hid (HN.out k hlt)
          rw [← getD_at s k hlt] at ia
          obtain ⟨x, hx⟩ : ∃ x, (s.getD k 0).toNat = x := ⟨_, rfl⟩
          rw [hx] at ia HX
          have HI := Lib.hid (inT x)
          have HE2 := Lib.hid (show inR tR x = true → ∀ j, j < k + 1 → inR tR (s.getD j 0).toNat = true from fun hb j hj => by
            by_cases e : j = k
            · subst e; rw [hx]; exact hb
            · exact HD.out j (by omega))
          clear hx
          by_cases h4 : 33 ≤ x
          · have t2 : ¬ (x : Int) < 33 := by omega
            by_cases h5 : x ≤ 126
            · have t3 : ¬ (126 : Int) < x := by omega
              replace HE2 := Lib.hid (HE2.out (by rw [HI.out, decide_eq_true ⟨h4, h5⟩]))
              go_wp2_with fail
              go_roundw
              case rel => exact ⟨k + 1, by omega, by go_num, HE2, trivial⟩
              case measure => simp [intOf]; omega
            · have t3 : (126 : Int) < x := by omega
              have hR := HX.out (by rw [HI.out, decide_eq_false (fun h => h5 h.2)])
              subst hR
              go_wp2_with fail
              go_ret
              exact ⟨rfl, HB.out⟩
          · have t2 : (x : Int) < 33 := by omega
            have hR := HX.out (by rw [HI.out, decide_eq_false (fun h => h4 h.1)])
            subst hR
            go_wp2_with fail
            go_ret
            exact ⟨rfl, HB.out⟩
        · have hR : R = true := HY.out.2 fun j hj => HD.out j (by omega)
          subst hR
          go_wp2_with fail
          go_ret
          exact ⟨rfl, HB.out⟩
    · have e : tgtD s = false := by
        unfold tgtD
        rw [h2]
        have : (some (s.getD 0 0) == some 47) = false := by simpa using h3
        rw [this]; simp
      rw [e]
      have t1 : ¬ (s.length : Int) < 1 := by omega
      have i0 : ∀ (w : World), (Instr.index 9 (.string (bs s)) (.int .i64 0)).run Tryz.prog w = .ok (.int .u8 ((s.getD 0 0).toNat : Nat)) w := i0
      have hne : (s.getD 0 0).toNat ≠ 47 := fun e => h3 (UInt8.toNat_inj.mp e)
      obtain ⟨x, hx⟩ : ∃ x, (s.getD 0 0).toNat = x := ⟨_, rfl⟩
      rw [hx] at i0 hne
      have t3 : ((x : Int) != 47) = true := by rw [bne_iff_ne]; omega
      clear hx h2 h3 e
      go_enter Tryz.func58, Tryz.ntmps58
      go_wp2_with fail
      go_ret
      exact ⟨rfl, Below.refl _ _⟩
  · have e : tgtD s = false := by unfold tgtD; rw [decide_eq_false h1]; rfl
    rw [e]
    have t1 : (s.length : Int) < 1 := by omega
    go_enter Tryz.func58, Tryz.ntmps58
    go_wp2_with fail
    go_ret
    exact ⟨rfl, Below.refl _ _⟩
end Go.Proofs.YtkoohdacneflfaaGreatDoor

/-
  The document's Trim, Value.
-/
namespace Go.Proofs.YtkoohdacneflfaaGreatDoor
open Go.RowKit Go.Shelf
set_option linter.unusedVariables false
set_option linter.unusedSimpArgs false
set_option maxRecDepth 100000

theorem dW_head (l : List UInt8) (h : 0 < l.length) : (blk (l.getD 0 0) = true → l.dropWhile blk = (l.drop 1).dropWhile blk) ∧ (blk (l.getD 0 0) = false → l.dropWhile blk = l) := by
  cases l with
  | nil => simp at h
  | cons x r =>
    constructor
    · intro e; rw [List.dropWhile_cons, if_pos (by simpa using e)]; rfl
    · intro e; rw [List.dropWhile_cons, if_neg (by simpa using e)]
theorem rdW_last (l : List UInt8) (h : 0 < l.length) : (blk (l.getD (l.length - 1) 0) = true → rdW blk l = rdW blk (l.take (l.length - 1))) ∧ (blk (l.getD (l.length - 1) 0) = false → rdW blk l = l) := by
  have e : l = l.take (l.length - 1) ++ [l.getD (l.length - 1) 0] := by
    rw [getD_at l _ (by omega)]
    have := List.take_append_getElem (l := l) (i := l.length - 1) (by omega)
    rw [show l.length - 1 + 1 = l.length by omega, List.take_length] at this
    exact this.symm
  generalize l.getD (l.length - 1) 0 = x at e ⊢
  generalize l.take (l.length - 1) = a at e ⊢
  subst e
  rw [rdW_snoc]
  constructor
  · intro h; rw [if_pos h]
  · intro h; rw [if_neg (by simp [h])]

theorem take_run (n : List UInt8) (j : Nat) (hj : j ≤ n.length) (w : World) : (Instr.slice 9 (.string (bs n)) none (some (.int .i64 j)) none).run Tryz.prog w = .ok (.string (bs (n.take j))) w := by
  rw [run_slice_string_to_if w 9 _ _ _ Tryz.underlying9, if_pos (by simp; omega), bs_extract]
  simp

set_option maxHeartbeats 1000000 in
theorem rtrim_any (s : List UInt8) (hs : s.length ≤ 1000000000000) (w : World) : Calls Tryz.prog 60 #[.string (bs s)] w (Tells w (.string (bs (trimB s)))) := by
  have e : trimB s = rdW blk (s.dropWhile blk) := trimB_eq' s
  obtain ⟨R, hR⟩ : ∃ R, trimB s = R := ⟨_, rfl⟩
  rw [hR] at e ⊢
  have HR := Lib.hid e
  clear e hR
  have HB := Lib.hid (Below.refl w.heap.size w)
  go_enter Tryz.func60, Tryz.ntmps60
  go_wp2_with fail
  go_loopg [0] s.length (fun g v wr => ∃ l : List UInt8, v = .string (bs l) ∧ l.length = g ∧ l.length ≤ 1000000000000 ∧ Hid (l.dropWhile blk = s.dropWhile blk) ∧ w = wr)
  case atStart => exact ⟨s, rfl, rfl, hs, Lib.hid rfl, rfl⟩
  case round =>
    obtain ⟨l, rfl, hg, hl, HD, rfl⟩ := hrel
    have HG := Lib.hid hg
    clear hg
    by_cases h0 : 0 < l.length
    · have i0 := ix_run l 0 h0
      rw [← getD_at l 0 h0] at i0
      have i0 : ∀ (w : World), (Instr.index 9 (.string (bs l)) (.int .i64 0)).run Tryz.prog w = .ok (.int .u8 ((l.getD 0 0).toNat : Nat)) w := i0
      have f1 : ∀ (w : World), (Instr.slice 9 (.string (bs l)) (some (.int .i64 1)) none none).run Tryz.prog w = .ok (.string (bs (l.drop 1))) w := from_run l 1 (by omega)
      obtain ⟨d1, d2⟩ := dW_head l h0
      have D1 := Lib.hid d1
      have D2 := Lib.hid d2
      clear d1 d2
      obtain ⟨x, hx⟩ : ∃ x, l.getD 0 0 = x := ⟨_, rfl⟩
      rw [hx] at i0 D1 D2
      obtain ⟨m, hm⟩ : ∃ m, l.drop 1 = m := ⟨_, rfl⟩
      have hml : m.length + 1 = l.length := by rw [← hm, List.length_drop]; omega
      rw [hm] at f1 D1
      clear hx hm
      have HL := Lib.hid (fun w => blank_any x w)
      obtain ⟨B, hB⟩ : ∃ B, blk x = B := ⟨_, rfl⟩
      rw [hB] at D1 D2
      simp only [hB] at HL
      clear hB
      cases B with
      | true =>
        replace HD := Lib.hid ((D1.out rfl).symm.trans HD.out)
        have hml' : m.length ≤ 1000000000000 := by omega
        have HM := Lib.hid hml
        clear hml
        go_wp2_with fail
        refine (HL.out _).mono ?_; rintro e w1 ⟨rfl, rfl⟩
        go_wp2_with fail
        go_roundg m.length
        case measure => have := HM.out; have := HG.out; omega
        case rel => exact ⟨m, rfl, rfl, hml', HD, rfl⟩
      | false =>
        have HDl := Lib.hid ((D2.out rfl).symm.trans HD.out)
        have HRl := Lib.hid (show rdW blk l = R by rw [HR.out, HDl.out])
        clear hml
        go_wp2_with fail
        refine (HL.out _).mono ?_; rintro e w1 ⟨rfl, rfl⟩
        go_wp2_with fail
        go_loopg [0] l.length (fun g v wr => ∃ n : List UInt8, v = .string (bs n) ∧ n.length = g ∧ n.length ≤ 1000000000000 ∧ Hid (rdW blk n = R) ∧ Hid (Below w1.heap.size w1 wr))
        case atStart => exact ⟨l, rfl, rfl, hl, HRl, HB⟩
        case round =>
          clear HDl HRl hl HR
          obtain ⟨n, rfl, hn, hnl, HN, HB⟩ := hrel
          have HG2 := Lib.hid hn
          clear hn
          by_cases k0 : 0 < n.length
          · have hwr : IntKind.i64.wrap ((n.length : Int) - 1) = ((n.length - 1 : Nat) : Int) := by rw [show ((n.length : Int) - 1) = ((n.length - 1 : Nat) : Int) by omega]; exact IntWalk.i64_in _ (by omega)
            have j0 := ix_run n (n.length - 1) (by omega)
            rw [← getD_at n _ (by omega)] at j0
            have f2 := take_run n (n.length - 1) (by omega)
            obtain ⟨r1, r2⟩ := rdW_last n k0
            have R1 := Lib.hid r1
            have R2 := Lib.hid r2
            clear r1 r2
            obtain ⟨y, hy⟩ : ∃ y, n.getD (n.length - 1) 0 = y := ⟨_, rfl⟩
            rw [hy] at j0 R1 R2
            obtain ⟨q, hq⟩ : ∃ q, n.take (n.length - 1) = q := ⟨_, rfl⟩
            have hql : q.length + 1 = n.length := by rw [← hq, List.length_take]; omega
            rw [hq] at f2 R1
            clear hy hq
            have hjq : ((n.length - 1 : Nat) : Int) = (n.length : Int) - 1 := by omega
            rw [hjq] at j0 f2
            clear hwr hjq
            have HLk := Lib.hid (fun w => blank_any y w)
            obtain ⟨C, hC⟩ : ∃ C, blk y = C := ⟨_, rfl⟩
            rw [hC] at R1 R2
            simp only [hC] at HLk
            clear hC
            cases C with
            | true =>
              replace HN := Lib.hid ((R1.out rfl).symm.trans HN.out)
              have hqb : q.length ≤ 1000000000000 := by omega
              have HQ := Lib.hid hql
              clear hql
              go_wp2_with fail
              refine (HLk.out _).mono ?_; rintro e w2 ⟨rfl, rfl⟩
              go_wp2_with fail
              go_roundg q.length
              case measure => have := HQ.out; have := HG2.out; omega
              case rel => exact ⟨q, rfl, rfl, hqb, HN, HB⟩
            | false =>
              have HNl := Lib.hid ((R2.out rfl).symm.trans HN.out)
              clear hql
              go_wp2_with fail
              refine (HLk.out _).mono ?_; rintro e w2 ⟨rfl, rfl⟩
              go_wp2_with fail
              go_ret
              exact ⟨congrArg (fun z => Ending.returned (Value.string (bs z))) HNl.out, HB.out⟩
          · have hz : n = [] := List.eq_nil_of_length_eq_zero (by omega)
            have HNl := Lib.hid (show n = R by rw [← HN.out, hz]; rfl)
            have t0 : ¬ ((0 : Int) < n.length) := by omega
            clear hz
            go_wp2_with fail
            go_ret
            exact ⟨congrArg (fun z => Ending.returned (Value.string (bs z))) HNl.out, HB.out⟩
    · have hz : l = [] := List.eq_nil_of_length_eq_zero (by omega)
      have HDl := Lib.hid (show l = s.dropWhile blk by rw [← HD.out, hz]; rfl)
      have HRl := Lib.hid (show rdW blk l = R by rw [HR.out, HDl.out])
      have t0 : ¬ ((0 : Int) < l.length) := by omega
      clear hz
      go_wp2_with fail
      go_loopg [0] l.length (fun g v wr => ∃ n : List UInt8, v = .string (bs n) ∧ n.length = g ∧ n.length ≤ 1000000000000 ∧ Hid (rdW blk n = R) ∧ Hid (Below w.heap.size w wr))
      case atStart => exact ⟨l, rfl, rfl, hl, HRl, HB⟩
      case round =>
        clear HDl HRl hl HR
        obtain ⟨n, rfl, hn, hnl, HN, HB⟩ := hrel
        have HG2 := Lib.hid hn
        clear hn
        by_cases k0 : 0 < n.length
        · have hwr : IntKind.i64.wrap ((n.length : Int) - 1) = ((n.length - 1 : Nat) : Int) := by rw [show ((n.length : Int) - 1) = ((n.length - 1 : Nat) : Int) by omega]; exact IntWalk.i64_in _ (by omega)
          have j0 := ix_run n (n.length - 1) (by omega)
          rw [← getD_at n _ (by omega)] at j0
          have f2 := take_run n (n.length - 1) (by omega)
          obtain ⟨r1, r2⟩ := rdW_last n k0
          have R1 := Lib.hid r1
          have R2 := Lib.hid r2
          clear r1 r2
          obtain ⟨y, hy⟩ : ∃ y, n.getD (n.length - 1) 0 = y := ⟨_, rfl⟩
          rw [hy] at j0 R1 R2
          obtain ⟨q, hq⟩ : ∃ q, n.take (n.length - 1) = q := ⟨_, rfl⟩
          have hql : q.length + 1 = n.length := by rw [← hq, List.length_take]; omega
          rw [hq] at f2 R1
          clear hy hq
          have hjq : ((n.length - 1 : Nat) : Int) = (n.length : Int) - 1 := by omega
          rw [hjq] at j0 f2
          clear hwr hjq
          have HLk := Lib.hid (fun w => blank_any y w)
          obtain ⟨C, hC⟩ : ∃ C, blk y = C := ⟨_, rfl⟩
          rw [hC] at R1 R2
          simp only [hC] at HLk
          clear hC
          cases C with
          | true =>
            replace HN := Lib.hid ((R1.out rfl).symm.trans HN.out)
            have hqb : q.length ≤ 1000000000000 := by omega
            have HQ := Lib.hid hql
            clear hql
            go_wp2_with fail
            refine (HLk.out _).mono ?_; rintro e w2 ⟨rfl, rfl⟩
            go_wp2_with fail
            go_roundg q.length
            case measure => have := HQ.out; have := HG2.out; omega
            case rel => exact ⟨q, rfl, rfl, hqb, HN, HB⟩
          | false =>
            have HNl := Lib.hid ((R2.out rfl).symm.trans HN.out)
            clear hql
            go_wp2_with fail
            refine (HLk.out _).mono ?_; rintro e w2 ⟨rfl, rfl⟩
            go_wp2_with fail
            go_ret
            exact ⟨congrArg (fun z => Ending.returned (Value.string (bs z))) HNl.out, HB.out⟩
        · have hz : n = [] := List.eq_nil_of_length_eq_zero (by omega)
          have HNl := Lib.hid (show n = R by rw [← HN.out, hz]; rfl)
          have t0 : ¬ ((0 : Int) < n.length) := by omega
          clear hz
          go_wp2_with fail
          go_ret
          exact ⟨congrArg (fun z => Ending.returned (Value.string (bs z))) HNl.out, HB.out⟩

theorem inV : ∀ n : Nat, n < 256 → inR vR n = !decide (n ≠ 9 ∧ n < 32 ∨ n = 127) := by decide +kernel

set_option maxHeartbeats 1000000 in
theorem rvalue_any (s : List UInt8) (hs : s.length ≤ 1000000000000) (w : World) : Calls Tryz.prog 59 #[.string (bs s)] w (Tells w (.bool (valL s))) := by
  have HY := Lib.hid (only_iff vR s)
  have HN := Lib.hid (only_not vR s)
  have HV := Lib.hid (show valL s = (onlyR vR s && trimB s == s) from rfl)
  have HT := Lib.hid (fun w => rtrim_any s hs w)
  obtain ⟨V, hV⟩ : ∃ V, valL s = V := ⟨_, rfl⟩
  obtain ⟨R, hR⟩ : ∃ R, onlyR vR s = R := ⟨_, rfl⟩
  obtain ⟨T, hT⟩ : ∃ T, trimB s = T := ⟨_, rfl⟩
  rw [hR] at HY HN
  rw [hV, hR, hT] at HV
  rw [hT] at HT
  rw [hV]
  clear hV hR hT
  have HB := Lib.hid (Below.refl w.heap.size w)
  go_enter Tryz.func59, Tryz.ntmps59
  go_wp2_with fail
  go_loopw [3] (fun i wr => ∃ k : Nat, k ≤ s.length ∧ i = .int .i64 k ∧ Hid (∀ j, j < k → inR vR (s.getD j 0).toNat = true) ∧ w = wr) (fun i _ => s.length - (intOf i).toNat)
  case atStart => exact ⟨0, Nat.zero_le _, rfl, Lib.hid fun j hj => by omega, rfl⟩
  case round =>
    obtain ⟨k, hk, rfl, HD, rfl⟩ := hrel
    by_cases hlt : k < s.length
    · have ia := ix_run s k hlt
      have HX := Lib.hid (HN.out k hlt)
      rw [← getD_at s k hlt] at ia
      have hx8 := (s.getD k 0).toNat_lt
      obtain ⟨x, hx⟩ : ∃ x, (s.getD k 0).toNat = x := ⟨_, rfl⟩
      rw [hx] at ia HX hx8
      have HI := Lib.hid (inV x hx8)
      have HE2 := Lib.hid (show inR vR x = true → ∀ j, j < k + 1 → inR vR (s.getD j 0).toNat = true from fun hb j hj => by
        by_cases e : j = k
        · subst e; rw [hx]; exact hb
        · exact HD.out j (by omega))
      clear hx
      by_cases h4 : x ≠ 9 ∧ x < 32 ∨ x = 127
      · have hR := HX.out (by rw [HI.out, decide_eq_true h4]; rfl)
        subst hR
        have hVf := HV.out
        rw [Bool.false_and] at hVf
        subst hVf
        by_cases h5 : x = 127
        · subst h5
          go_wp2_with fail
          go_ret
          exact ⟨rfl, HB.out⟩
        · have t1 : ((x : Int) != 9) = true := by rw [bne_iff_ne]; omega
          have t2 : (x : Int) < 32 := by omega
          clear h4 h5
          go_wp2_with fail
          go_ret
          exact ⟨rfl, HB.out⟩
      · replace HE2 := Lib.hid (HE2.out (by rw [HI.out, decide_eq_false h4]; rfl))
        have t3 : ((x : Int) == 127) = false := by rw [beq_eq_false_iff_ne]; omega
        by_cases h5 : x = 9
        · have t1 : ((x : Int) != 9) = false := by rw [bne_eq_false_iff_eq]; omega
          clear h4 h5
          go_wp2_with fail
          go_roundw
          case rel => exact ⟨k + 1, by omega, by go_num, HE2, trivial⟩
          case measure => simp [intOf]; omega
        · have t1 : ((x : Int) != 9) = true := by rw [bne_iff_ne]; omega
          have t2 : ¬ (x : Int) < 32 := by omega
          clear h4 h5
          go_wp2_with fail
          go_roundw
          case rel => exact ⟨k + 1, by omega, by go_num, HE2, trivial⟩
          case measure => simp [intOf]; omega
    · have hR : R = true := HY.out.2 fun j hj => HD.out j (by omega)
      subst hR
      have hVf := HV.out
      rw [Bool.true_and] at hVf
      subst hVf
      go_wp2_with fail
      refine (HT.out _).mono ?_; rintro e w1 ⟨rfl, hb⟩
      replace HB := Lib.hid hb
      clear hb
      go_wp2_with fail
      go_ret
      exact ⟨by simp only [bs_toList]; rfl, HB.out⟩
end Go.Proofs.YtkoohdacneflfaaGreatDoor

/-
  Which bytes may stand where, as arrays.
-/
namespace Go.Proofs.YtkoohdacneflfaaGreatDoor
open Go.RowKit Go.Shelf
set_option linter.unusedVariables false
set_option linter.unusedSimpArgs false
set_option maxRecDepth 100000

/-- An array of truths, by the place. -/
def tabP (p : Nat → Bool) : Array Value := ((List.range 256).map fun c => Value.bool (p c)).toArray
theorem tab_size (p : Nat → Bool) : (tabP p).size = 256 := by simp [tabP]
theorem tab_und : Tryz.prog.underlying 129 = some (.array 256 4) := by kernel_rfl
theorem tab_siz' : (Tryz.prog.info? 129).map (·.size) = some 256 := by kernel_rfl
theorem tab_siz (p : Nat → Bool) : (Tryz.prog.info? 129).map (·.size) = some (tabP p).size := by rw [tab_size]; exact tab_siz'
theorem tab_one (p : Nat → Bool) : (tabP p).all (·.oneCell') = true := by
  unfold tabP
  rw [List.all_toArray, List.all_map, List.all_eq_true]
  intro x _
  rfl
theorem tab_zero (w : World) : (zeroValue 129).run Tryz.prog w = .ok (.agg (tabP fun _ => false)) w := by kernel_rfl
theorem tab_step (p q : Nat → Bool) (x : Nat) (hx : x < 256) (h : ∀ c, c < 256 → q c = if c = x then true else p c) : (tabP p).setIfInBounds x (.bool true) = tabP q := by
  apply Array.ext
  · simp [tabP]
  · intro c h1 h2
    have h3 : c < 256 := by simpa [tabP] using h2
    rw [Array.getElem_setIfInBounds (hj := by rw [tab_size]; exact h3)]
    simp only [tabP, List.getElem_toArray, List.getElem_map, List.getElem_range]
    rw [h c h3]
    by_cases e : x = c
    · rw [if_pos e, if_pos e.symm]
    · rw [if_neg e, if_neg (fun h => e h.symm)]
theorem tab_get (p : Nat → Bool) (c : Nat) (h : c < 256) : (tabP p)[c]? = some (.bool (p c)) := by
  simp [tabP, h]

/-- Such an array's block. -/
def ArB (w : World) (g : Nat) (p : Nat → Bool) : Prop := w.heap[g]? = some (.cells (tabP p) 129 (0, 0))
theorem ArB.cell {w : World} {g : Nat} {p : Nat → Bool} (h : ArB w g p) (c : Nat) (hc : c < 256) : w.cell? ⟨g, c, none⟩ = some (.bool (p c)) ∧ w.frozen? ⟨g, c, none⟩ = false := by
  unfold ArB at h
  exact ⟨by rw [World.cell?, h]; exact tab_get p c hc, by simp [World.frozen?, h]⟩
theorem ArB.set {w : World} {g : Nat} {p q : Nat → Bool} (h : ArB w g p) (x : Nat) (hx : x < 256) (hq : ∀ c, c < 256 → q c = if c = x then true else p c) : ArB (w.setCell ⟨g, x, none⟩ (.bool true)) g q := by
  unfold ArB at h ⊢
  rw [← tab_step p q x hx hq]
  simp [World.setCell, Array.getElem?_modify, h]

/-- How it is, while the rows are gone through. -/
structure AlI (w wr : World) (p : Nat → Bool) : Prop where
  ar : ArB wr (w.heap.size + 1) p
  res : ArB wr w.heap.size fun _ => false
  bel : Below w.heap.size w wr
  sz : w.heap.size + 1 < wr.heap.size
theorem AlI.next {w wr : World} {p q : Nat → Bool} (h : AlI w wr p) (x : Nat) (hx : x < 256) (hq : ∀ c, c < 256 → q c = if c = x then true else p c) : AlI w (wr.setCell ⟨w.heap.size + 1, x, none⟩ (.bool true)) q := by
  refine ⟨h.ar.set x hx hq, ?_, h.bel.setCell (by simp) _, ?_⟩
  · exact (Below.heap_setCell _ _ _ _ (by simp)).trans h.res
  · have := h.sz
    simp [World.setCell]; omega
theorem AlI.same {w wr : World} {p q : Nat → Bool} (h : AlI w wr p) (hq : ∀ c, c < 256 → q c = p c) : AlI w wr q := by
  refine ⟨?_, h.res, h.bel, h.sz⟩
  have : tabP q = tabP p := by
    unfold tabP
    congr 1
    apply List.map_congr_left
    intro c hc
    rw [hq c (by simpa using hc)]
  unfold ArB
  rw [this]
  exact h.ar

theorem inR_app (r : List UInt8) (lo hi : UInt8) (c : Nat) : ∀ a : List UInt8, a.length % 2 = 0 → inR (a ++ lo :: hi :: r) c = (inR a c || (decide (lo.toNat ≤ c) && decide (c ≤ hi.toNat)) || inR r c)
  | [], _ => by simp [inR]
  | [_], h => by simp at h
  | x :: y :: a, h => by
    simp only [List.cons_append, inR]
    rw [inR_app r lo hi c a (by simp at h; omega)]
    simp only [Bool.or_assoc]
theorem inR_two (r : List UInt8) (i : Nat) (h2 : i % 2 = 0) (h : i + 1 < r.length) (c : Nat) : inR (r.take (i + 2)) c = (inR (r.take i) c || (decide ((r.getD i 0).toNat ≤ c) && decide (c ≤ (r.getD (i + 1) 0).toNat))) := by
  have e : r.take (i + 2) = r.take i ++ r.getD i 0 :: r.getD (i + 1) 0 :: [] := by
    rw [getD_at _ _ (by omega), getD_at _ _ h, show i + 2 = i + 1 + 1 by omega, List.take_succ_eq_append_getElem h, List.take_succ_eq_append_getElem (show i < r.length by omega), List.append_assoc]
    rfl
  rw [e, inR_app _ _ _ _ _ (by rw [List.length_take]; omega)]
  simp [inR]

set_option maxHeartbeats 2000000 in
theorem allOf_any (r : List UInt8) (hr : r.length % 2 = 0) (hl : r.length ≤ 1000) (w : World) : Calls Tryz.prog 90 #[.string (bs r)] w fun e w' => e = .returned (.agg (tabP (inR r))) ∧ Below w.heap.size w w' := by
  have hI0 : AlI w ((w.alloc (.cells (tabP fun _ => false) 129)).alloc (.cells (tabP fun _ => false) 129)) (fun _ => false) := by
    refine ⟨two_alloc _ _ _, (Lib.alloc_old _ _ _ (by simp)).trans (heap_alloc_new w _), ((Below.refl _ _).alloc (Nat.le_refl _) _).alloc (by simp) _, by simp⟩
  have hz := tab_zero
  obtain ⟨Z, hZ⟩ : ∃ Z, tabP (fun _ => false) = Z := ⟨_, rfl⟩
  rw [hZ] at hz hI0
  have HI0 := Lib.hid hI0
  have HZ := Lib.hid hZ
  have HR := Lib.hid hr
  clear hI0 hZ hr
  go_enter Tryz.func90, Tryz.ntmps90
  go_wp2_with fail
  go_loopg [4, 5] r.length (fun g v4 v5 wr => ∃ i : Nat, i % 2 = 0 ∧ i + g = r.length ∧ v4 = .int .i64 i ∧ Hid (AlI w wr (inR (r.take i))))
  case atStart => exact ⟨0, rfl, by omega, rfl, Lib.hid (HI0.out.same fun c hc => by simp [inR])⟩
  case round =>
    clear HI0 hz
    obtain ⟨i, hi2, hi, rfl, HI⟩ := hrel
    by_cases hlt : i < r.length
    · have hlt1 : i + 1 < r.length := by have := HR.out; omega
      have ia := ix_run r i hlt
      have ib := ix_run r (i + 1) hlt1
      rw [← getD_at r i hlt] at ia
      rw [← getD_at r (i + 1) hlt1] at ib
      have HT := Lib.hid (inR_two r i hi2 hlt1)
      have hlo := (r.getD i 0).toNat_lt
      have hhi := (r.getD (i + 1) 0).toNat_lt
      obtain ⟨lo, hlo'⟩ : ∃ x, (r.getD i 0).toNat = x := ⟨_, rfl⟩
      obtain ⟨hh, hhh⟩ : ∃ x, (r.getD (i + 1) 0).toNat = x := ⟨_, rfl⟩
      rw [hlo'] at ia HT hlo
      rw [hhh] at ib HT hhi
      have ib : ∀ (w : World), (Instr.index 9 (.string (bs r)) (.int .i64 ((i : Int) + 1))).run Tryz.prog w = .ok (.int .u8 (hh : Nat)) w := fun w => by have := ib w; rwa [show (((i + 1 : Nat) : Int)) = (i : Int) + 1 by omega] at this
      clear hlo' hhh
      have hlo : lo < 256 := hlo
      have hhi : hh < 256 := hhi
      go_wp2_with fail
      go_loopg [5] 256 (fun g' v5 wr => ∃ x : Nat, 256 ≤ x + g' ∧ lo ≤ x ∧ (x ≤ hh + 1 ∨ x = lo) ∧ v5 = .int .i64 x ∧ Hid (AlI w wr fun c => inR (r.take i) c || (decide (lo ≤ c) && decide (c < x))))
      case atStart => exact ⟨lo, by omega, Nat.le_refl _, .inr rfl, rfl, Lib.hid (HI.out.same fun c hc => by
        by_cases h1 : lo ≤ c
        · rw [decide_eq_true h1, decide_eq_false (by omega : ¬ c < lo)]; simp
        · rw [decide_eq_false h1]; simp)⟩
      case round =>
        clear HI
        obtain ⟨x, hx, hlx, hxh, rfl, HI⟩ := hrel
        by_cases hle : x ≤ hh
        · have hx256 : x < 256 := by omega
          obtain ⟨a0, a1⟩ := HI.out.ar.cell x hx256
          have HI2 := Lib.hid (HI.out.next (q := fun c => inR (r.take i) c || (decide (lo ≤ c) && decide (c < x + 1))) x hx256 fun c hc => by
            by_cases e : c = x
            · subst e; rw [if_pos rfl, decide_eq_true hlx, decide_eq_true (by omega : c < c + 1)]; simp
            · rw [if_neg e]
              have : decide (c < x + 1) = decide (c < x) := by rw [decide_eq_decide]; omega
              rw [this])
          obtain ⟨V, hV⟩ : ∃ V, Value.bool (inR (r.take i) x || (decide (lo ≤ x) && decide (x < x))) = V := ⟨_, rfl⟩
          rw [hV] at a0
          have hxi : (x : Int) < 256 := by omega
          clear hV HI
          go_wp2_with fail
          go_roundg (256 - (x + 1))
          case measure => omega
          case rel => exact ⟨x + 1, by omega, by omega, .inl (by omega), by go_num, HI2⟩
        · have HI2 := Lib.hid (show AlI w _ (inR (r.take (i + 2))) from HI.out.same fun c hc => by
            rw [HT.out]
            have : (decide (lo ≤ c) && decide (c ≤ hh)) = (decide (lo ≤ c) && decide (c < x)) := by
              rw [Bool.eq_iff_iff]
              simp only [Bool.and_eq_true, decide_eq_true_eq]
              omega
            rw [this])
          clear HI
          go_wp2_with fail
          go_roundg (r.length - (i + 2))
          case measure => omega
          case rel => exact ⟨i + 2, by omega, by omega, by go_num, HI2⟩
    · have hi' : r.take i = r := List.take_of_length_le (by omega)
      rw [hi'] at HI
      have HRr := Lib.hid (show ArB (wr.setRow w.heap.size (tabP (inR r))) w.heap.size (inR r) from setRow_heap wr _ _ _ _ _ HI.out.res)
      have HB := Lib.hid (show Below w.heap.size w (wr.setRow w.heap.size (tabP (inR r))) from HI.out.bel.trans ⟨rfl, rfl, rfl, by simp, fun j hj => setRow_other wr _ j _ (by omega)⟩)
      clear hi'
      go_wp2_with fail
      refine wp_load_row 129 (.tmp 3) rfl (w.heap.size + 1) rfl 129 (tabP (inR r)) (0, 0) _ HI.out.ar tab_und rfl (tab_siz _) ?_
      have hst : (storeCells ⟨w.heap.size, 0, none⟩ (tabP (inR r)).toList).run Tryz.prog wr = .ok () (wr.setRow w.heap.size (tabP (inR r))) := by
        have := run_storeCells_from (P := Tryz.prog) w.heap.size 129 (tabP (inR r)).toList 0 (tabP fun _ => false) wr HI.out.res (by simp [tab_size]) (fun v hv => (Array.all_eq_true_iff_forall_mem.1 (tab_one _)) v (by simpa using hv))
        simpa using this
      clear HI
      go_wp2_with fail
      exact bodyPost_ret (results_cell_row Tryz.results90 _ _ w.heap.size 129 (tabP (inR r)) (0, 0) _ rfl HRr.out tab_und rfl (tab_siz _)) rfl ⟨rfl, HB.out⟩
end Go.Proofs.YtkoohdacneflfaaGreatDoor

/-
  What may stand where, asked; blanks taken off.
-/
namespace Go.Proofs.YtkoohdacneflfaaGreatDoor
open Go.RowKit Go.Shelf
set_option linter.unusedVariables false
set_option linter.unusedSimpArgs false
set_option maxRecDepth 100000

/-- From a place on, a block says which bytes are in these rows. -/
def TbR (w : World) (g o : Nat) (r : List UInt8) : Prop := ∀ c, c < 256 → w.cell? ⟨g, o + c, none⟩ = some (.bool (inR r c))
theorem TbR.later {w w' : World} {g o : Nat} {r : List UInt8} (h : TbR w g o r) (hb : Below w.heap.size w w') : TbR w' g o r := fun c hc => cell_later hb (h c hc)

set_option maxHeartbeats 1000000 in
theorem only_any (s r : List UInt8) (g o : Nat) (ho : o ≤ 1000000) (hs : s.length ≤ 140737488351232) (w : World) (ht : TbR w g o r) : Calls Tryz.prog 92 #[.string (bs s), .pointer (some ⟨g, o, none⟩)] w (Tells w (.bool (onlyR r s))) := by
  have HY := Lib.hid (only_iff r s)
  have HN := Lib.hid (only_not r s)
  have HT := Lib.hid ht
  obtain ⟨R, hR⟩ : ∃ R, onlyR r s = R := ⟨_, rfl⟩
  rw [hR] at HY HN ⊢
  clear hR ht
  have HB := Lib.hid (Below.refl w.heap.size w)
  go_enter Tryz.func92, Tryz.ntmps92
  go_wp2_with fail
  go_loopw [8] (fun i wr => ∃ k : Nat, k ≤ s.length ∧ i = .int .i64 k ∧ Hid (∀ j, j < k → inR r (s.getD j 0).toNat = true) ∧ Hid (Below w.heap.size w wr)) (fun i _ => s.length - (intOf i).toNat)
  case atStart => exact ⟨0, Nat.zero_le _, rfl, Lib.hid fun j hj => by omega, HB⟩
  case round =>
    obtain ⟨k, hk, rfl, HD, HB⟩ := hrel
    by_cases hlt : k < s.length
    · have ia := ix_run s k hlt
      have HX := Lib.hid (HN.out k hlt)
      rw [← getD_at s k hlt] at ia
      have hx8 := (s.getD k 0).toNat_lt
      have hc := (HT.out.later HB.out) (s.getD k 0).toNat hx8
      obtain ⟨x, hx⟩ : ∃ x, (s.getD k 0).toNat = x := ⟨_, rfl⟩
      rw [hx] at ia HX hx8 hc
      have HE2 := Lib.hid (show inR r x = true → ∀ j, j < k + 1 → inR r (s.getD j 0).toNat = true from fun hb j hj => by
        by_cases e : j = k
        · subst e; rw [hx]; exact hb
        · exact HD.out j (by omega))
      clear hx
      have hx2 : (x : Int) < 256 := by have : x < 256 := hx8; omega
      have hx3 : x < 256 := hx8
      obtain ⟨B, hB⟩ : ∃ B, inR r x = B := ⟨_, rfl⟩
      rw [hB] at HX hc HE2
      clear hB hx8
      cases B with
      | true =>
        replace HE2 := Lib.hid (HE2.out rfl)
        go_wp2_with fail
        go_quiet (fail)
        go_wp2_with fail
        go_roundw
        case rel => exact ⟨k + 1, by omega, by go_num, HE2, Lib.hid (below_drewN HB.out _)⟩
        case measure => simp [intOf]; omega
      | false =>
        have hR := HX.out rfl
        subst hR
        go_wp2_with fail
        go_quiet (fail)
        go_wp2_with fail
        go_ret
        exact ⟨rfl, below_drewN HB.out _⟩
    · have hR : R = true := HY.out.2 fun j hj => HD.out j (by omega)
      subst hR
      go_wp2_with fail
      go_ret
      exact ⟨rfl, HB.out⟩

def wrdR (r s : List UInt8) (most : Nat) : Bool := decide (1 ≤ s.length) && (decide (s.length ≤ most) && onlyR r s)
set_option maxHeartbeats 400000 in
theorem isWord_any (s r : List UInt8) (g o most : Nat) (ho : o ≤ 1000000) (hm : most ≤ 1000000) (hs : s.length ≤ 140737488351232) (w : World) (ht : TbR w g o r) : Calls Tryz.prog 91 #[.string (bs s), .pointer (some ⟨g, o, none⟩), .int .i64 most] w (Tells w (.bool (wrdR r s most))) := by
  have HO := Lib.hid (only_any s r g o ho hs w ht)
  clear ht
  by_cases h1 : 1 ≤ s.length
  · by_cases h2 : s.length ≤ most
    · have e : wrdR r s most = onlyR r s := by unfold wrdR; rw [decide_eq_true h1, decide_eq_true h2]; rfl
      rw [e]
      have t1 : (1 : Int) ≤ s.length := by omega
      go_enter Tryz.func91, Tryz.ntmps91
      go_wp2_with fail
      refine (HO.out).mono ?_; rintro e w1 ⟨rfl, hb⟩
      have HB := Lib.hid hb
      clear hb
      go_wp2_with fail
      go_ret
      exact ⟨rfl, HB.out⟩
    · have e : wrdR r s most = false := by unfold wrdR; rw [decide_eq_false h2]; simp
      rw [e]
      have t1 : (1 : Int) ≤ s.length := by omega
      go_enter Tryz.func91, Tryz.ntmps91
      go_wp2_with fail
      go_ret
      exact ⟨rfl, Below.refl _ _⟩
  · have e : wrdR r s most = false := by unfold wrdR; rw [decide_eq_false h1]; rfl
    rw [e]
    have t1 : ¬ (1 : Int) ≤ s.length := by omega
    go_enter Tryz.func91, Tryz.ntmps91
    go_wp2_with fail
    go_ret
    exact ⟨rfl, Below.refl _ _⟩

/-- The three arrays of a head's places, in a block. -/
structure Pl (w : World) (g : Nat) : Prop where
  word : TbR w g 0 wR
  tgt : TbR w g 256 tR
  val : TbR w g 512 vR
theorem Pl.later {w w' : World} {g : Nat} (h : Pl w g) (hb : Below w.heap.size w w') : Pl w' g := ⟨h.word.later hb, h.tgt.later hb, h.val.later hb⟩

theorem method_any (s : List UInt8) (g : Nat) (hs : s.length ≤ 140737488351232) (w : World) (hp : Pl w g) : Calls Tryz.prog 64 #[.pointer (some ⟨g, 0, none⟩), .string (bs s)] w (Tells w (.bool (wordL s 16))) := by
  have HO := Lib.hid (isWord_any s wR g 0 16 (by omega) (by omega) hs w hp.word)
  clear hp
  go_enter Tryz.func64, Tryz.ntmps64
  go_wp2_with fail
  refine (HO.out).mono ?_; rintro e w1 ⟨rfl, hb⟩
  have HB := Lib.hid hb
  clear hb
  go_wp2_with fail
  go_ret
  exact ⟨rfl, HB.out⟩
theorem name_any (s : List UInt8) (g : Nat) (hs : s.length ≤ 140737488351232) (w : World) (hp : Pl w g) : Calls Tryz.prog 67 #[.pointer (some ⟨g, 0, none⟩), .string (bs s)] w (Tells w (.bool (wordL s 64))) := by
  have HO := Lib.hid (isWord_any s wR g 0 64 (by omega) (by omega) hs w hp.word)
  clear hp
  go_enter Tryz.func67, Tryz.ntmps67
  go_wp2_with fail
  refine (HO.out).mono ?_; rintro e w1 ⟨rfl, hb⟩
  have HB := Lib.hid hb
  clear hb
  go_wp2_with fail
  go_ret
  exact ⟨rfl, HB.out⟩
set_option maxHeartbeats 400000 in
theorem target_any (s : List UInt8) (g : Nat) (hs : s.length ≤ 140737488351232) (w : World) (hp : Pl w g) : Calls Tryz.prog 65 #[.pointer (some ⟨g, 0, none⟩), .string (bs s)] w (Tells w (.bool (tgtL s))) := by
  have HO := Lib.hid (isWord_any s tR g 256 2048 (by omega) (by omega) hs w hp.tgt)
  have e : tgtL s = (wrdR tR s 2048 && s.head? == some 47) := rfl
  rw [e]
  clear hp e
  by_cases h1 : wrdR tR s 2048 = true
  · have h0 : 1 ≤ s.length := by
      unfold wrdR at h1
      simp only [Bool.and_eq_true, decide_eq_true_eq] at h1
      exact h1.1
    have h2 : s.head? = some (s.getD 0 0) := by
      cases s with
      | nil => simp at h0
      | cons x r => rfl
    have i0 := ix_run s 0 (by omega)
    rw [← getD_at s 0 (by omega)] at i0
    have i0 : ∀ (w : World), (Instr.index 9 (.string (bs s)) (.int .i64 0)).run Tryz.prog w = .ok (.int .u8 ((s.getD 0 0).toNat : Nat)) w := i0
    rw [h1] at HO ⊢
    rw [h2, Bool.true_and]
    have e2 : (some (s.getD 0 0) == some 47) = (((s.getD 0 0).toNat : Int) == 47) := by
      rw [Bool.eq_iff_iff]
      simp only [beq_iff_eq, Option.some.injEq]
      rw [← UInt8.toNat_inj]
      show (s.getD 0 0).toNat = 47 ↔ _
      omega
    rw [e2]
    obtain ⟨x, hx⟩ : ∃ x, (s.getD 0 0).toNat = x := ⟨_, rfl⟩
    rw [hx] at i0 ⊢
    clear e2 hx h2
    have h0' : (0 : Int) < s.length := by omega
    go_enter Tryz.func65, Tryz.ntmps65
    go_wp2_with fail
    refine (HO.out).mono ?_; rintro e w1 ⟨rfl, hb⟩
    have HB := Lib.hid hb
    clear hb
    go_wp2_with fail
    go_ret
    exact ⟨rfl, HB.out⟩
  · have h1 : wrdR tR s 2048 = false := by simpa using h1
    rw [h1] at HO ⊢
    rw [Bool.false_and]
    go_enter Tryz.func65, Tryz.ntmps65
    go_wp2_with fail
    refine (HO.out).mono ?_; rintro e w1 ⟨rfl, hb⟩
    have HB := Lib.hid hb
    clear hb
    go_wp2_with fail
    go_ret
    exact ⟨rfl, HB.out⟩

/-- Blanks taken off. -/
theorem bare_any (s : List UInt8) (hs : s.length ≤ 140737488351232) (w : World) : Calls Tryz.prog 86 #[.string (bs s)] w (Tells w (.string (bs (trimB s)))) := by
  have h := Any.strings_Trim_laid Tryz.lays160 (by kernel_rfl) (bs s) ⟨#[9, 32]⟩ w (by rw [bs_size]; omega) (by decide) (ascii_of_all (by decide))
  change Calls Tryz.prog 107 #[.string (bs s), .string ⟨#[9, 32]⟩] w (fun e w' => e = .returned (.string (bs (trimB s))) ∧ Below w.heap.size w w') at h
  have HO := Lib.hid h
  clear h
  go_enter Tryz.func86, Tryz.ntmps86
  go_wp2_with fail
  refine (HO.out).mono ?_; rintro e w1 ⟨rfl, hb⟩
  have HB := Lib.hid hb
  clear hb
  go_wp2_with fail
  go_ret
  exact ⟨rfl, HB.out⟩
set_option maxHeartbeats 400000 in
theorem value_any (s : List UInt8) (g : Nat) (hs : s.length ≤ 140737488351232) (w : World) (hp : Pl w g) : Calls Tryz.prog 68 #[.pointer (some ⟨g, 0, none⟩), .string (bs s)] w (Tells w (.bool (valL s))) := by
  have HO := Lib.hid (only_any s vR g 512 (by omega) hs w hp.val)
  have HBR := Lib.hid (fun wx => bare_any s hs wx)
  have e : valL s = (onlyR vR s && trimB s == s) := rfl
  rw [e]
  clear hp e
  obtain ⟨T, hT⟩ : ∃ T, trimB s = T := ⟨_, rfl⟩
  obtain ⟨R, hR⟩ : ∃ R, onlyR vR s = R := ⟨_, rfl⟩
  rw [hR] at HO ⊢
  rw [hT] at HBR ⊢
  clear hR hT
  cases R with
  | true =>
    rw [Bool.true_and]
    go_enter Tryz.func68, Tryz.ntmps68
    go_wp2_with fail
    refine (HO.out).mono ?_; rintro e w1 ⟨rfl, hb⟩
    have HB := Lib.hid hb
    clear hb
    go_wp2_with fail
    refine (tell_on HB (HBR.out _)).mono ?_; rintro e w2 ⟨rfl, HB⟩
    go_wp2_with fail
    go_ret
    exact ⟨by simp only [bs_toList]; rfl, HB.out⟩
  | false =>
    rw [Bool.false_and]
    go_enter Tryz.func68, Tryz.ntmps68
    go_wp2_with fail
    refine (HO.out).mono ?_; rintro e w1 ⟨rfl, hb⟩
    have HB := Lib.hid hb
    clear hb
    go_wp2_with fail
    go_ret
    exact ⟨rfl, HB.out⟩
end Go.Proofs.YtkoohdacneflfaaGreatDoor
