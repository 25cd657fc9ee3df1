/-
  Names that a packer tells are read at their places; plainly.
-/
import Derived.Test.YtaikpgcmcmkdcaaKp
namespace Go.Proofs.Ytaikpgcmcmkdcaa
open Go.RowKit Go.Shelf
set_option linter.unusedVariables false
set_option maxRecDepth 100000

/-- From the place i on, in a part that began at part, these labels stand. -/
inductive Stand (b : List UInt8) : Nat → Nat → List (List UInt8) → Prop
  | zero {part i : Nat} (h : i < b.length) (h0 : b[i].toNat = 0) : Stand b part i []
  | label {part i : Nat} {l : List UInt8} {r : List (List UInt8)} (h0 : 0 < l.length) (h1 : l.length ≤ 63) (h2 : i + (1 + l.length) ≤ b.length) (h3 : (b.drop i).take (1 + l.length) = wire [l]) (h : Stand b part (i + (1 + l.length)) r) : Stand b part i (l :: r)
  | lead {part i to : Nat} {r : List (List UInt8)} (h : i + 1 < b.length) (h0 : 192 ≤ (b[i]'(Nat.lt_of_succ_lt h)).toNat) (h1 : ptr (b[i]'(Nat.lt_of_succ_lt h)) (b[i + 1]'h) = to) (h2 : to < part) (h3 : Stand b to to r) : Stand b part i r

theorem Stand.more {b : List UInt8} {part i : Nat} {ls : List (List UInt8)} (h : Stand b part i ls) (c : List UInt8) : Stand (b ++ c) part i ls := by
  induction h with
  | zero h h0 => exact .zero (by rw [List.length_append]; omega) (by rw [List.getElem_append_left h]; exact h0)
  | label h0 h1 h2 h3 _ ih =>
    refine .label h0 h1 (by rw [List.length_append]; omega) ?_ ih
    rw [List.drop_append_of_le_length (by omega), List.take_append_of_le_length (by rw [List.length_drop]; omega)]
    exact h3
  | lead h h0 h1 h2 _ ih =>
    refine .lead (by rw [List.length_append]; omega) ?_ ?_ h2 ih
    · rw [List.getElem_append_left]; exact h0
    · rw [List.getElem_append_left, List.getElem_append_left h]; exact h1

theorem rd_of {b : List UInt8} {part i : Nat} {ls : List (List UInt8)} (h : Stand b part i ls) (a : Nat) : ∀ (next : Nat) (pre : List (List UInt8)), (wire (pre ++ ls)).length ≤ 254 → ∃ nx, rd b a part i next (wire pre) = (nm (pre ++ ls), nx, 0, 0) := by
  induction h with
  | zero h h0 =>
    intro next pre _
    rw [rd_zero h h0, List.append_nil]
    exact ⟨_, rfl⟩
  | @label part i l r h0 h1 h2 h3 _ ih =>
    intro next pre hl
    have hlt : i < b.length := by omega
    have hb : b[i].toNat = l.length := by
      have h4 := congrArg (fun x : List UInt8 => x[0]?) h3
      simp only [wire, List.append_nil, List.getElem?_take, List.getElem?_drop] at h4
      rw [if_pos (by omega), Nat.add_zero, List.getElem?_eq_getElem hlt] at h4
      have h5 : b[i] = UInt8.ofNat l.length := by simpa using h4
      rw [h5, UInt8.toNat_ofNat']
      omega
    have hw : (wire (pre ++ [l])).length = (wire pre).length + (1 + l.length) := wire_snoc pre l
    have hsplit : pre ++ l :: r = (pre ++ [l]) ++ r := by simp
    have hle : (wire (pre ++ [l])).length ≤ (wire (pre ++ l :: r)).length := by rw [hsplit, wire_app (pre ++ [l]) r, List.length_append]; omega
    rw [rd_label hlt (by omega) (by omega) (by omega) (by omega), hb, h3, ← wire_app, hsplit]
    exact ih next (pre ++ [l]) (by rw [← hsplit]; exact hl)
  | lead h h0 h1 h2 _ ih =>
    intro next pre hl
    rw [rd_go (Nat.lt_of_succ_lt h) h0 h (by omega), h1]
    exact ih _ pre hl

/-- What is known stands where it is known. -/
structure Inv (b : List UInt8) (K : List (List UInt8 × Nat)) (e : Nat) (P : List (List UInt8 × Nat)) : Prop where
  good : GoodK K
  last : e ≤ b.length
  ahead : ∀ p ∈ K, p.2 < e
  tails : ∀ ls x, Shorts ls → (nm ls, x) ∈ K → Stand b x x ls
  names : ∀ p ∈ P, ∃ ls, p.1 = nm ls ∧ Shorts ls ∧ Stand b p.2 p.2 ls ∧ p.2 < b.length

theorem Inv.nil : Inv [] [] 0 [] := ⟨good_nil, Nat.le_refl _, fun p h => by simp at h, fun ls x _ h => by simp at h, fun p h => by simp at h⟩

theorem Inv.more {b : List UInt8} {K : List (List UInt8 × Nat)} {e : Nat} {P : List (List UInt8 × Nat)} (h : Inv b K e P) (c : List UInt8) : Inv (b ++ c) K e P :=
  ⟨h.good, by rw [List.length_append]; have := h.last; omega, h.ahead, fun ls x hs hx => (h.tails ls x hs hx).more c, fun p hp => by
    obtain ⟨ls, h1, h2, h3, h4⟩ := h.names p hp
    exact ⟨ls, h1, h2, h3.more c, by rw [List.length_append]; omega⟩⟩

theorem ptr_pb {x : Nat} (hx : x < 16384) : ptr (UInt8.ofNat (192 + x / 256)) (UInt8.ofNat (x % 256)) = x ∧ 192 ≤ (UInt8.ofNat (192 + x / 256)).toNat := by
  unfold ptr
  simp only [UInt8.toNat_ofNat']
  omega

theorem told_le {K : List (List UInt8 × Nat)} {ls : List (List UInt8)} (hG : GoodK K) (hs : Shorts ls) : (told K ls).length ≤ (nm ls).length := by
  have h1 := pos_rest ls (hdn K ls)
  unfold pos at h1
  unfold told
  rw [List.length_append, nm_len]
  unfold restb
  rcases hp : plc K (nm (ls.drop (hdn K ls))) with _ | x
  · show (wire (ls.take (hdn K ls))).length + (nm (ls.drop (hdn K ls))).length ≤ _
    rw [nm_len]; omega
  · show (wire (ls.take (hdn K ls))).length + 2 ≤ _
    rcases Nat.lt_or_ge (hdn K ls) ls.length with h | h
    · have h2 := len_wire2 (shorts_drop hs (hdn K ls)).1
      rw [List.length_drop] at h2
      have h3 : 0 < (ls.drop (hdn K ls)).length := by rw [List.length_drop]; omega
      omega
    · exfalso
      rw [List.drop_eq_nil_of_le h] at hp
      have := good_root hG
      rw [show nm [] = [0] from rfl] at hp
      rw [hp] at this
      cases this

theorem told_rd {b : List UInt8} {K : List (List UInt8 × Nat)} {e : Nat} {P : List (List UInt8 × Nat)} (h : Inv b K e P) {ls : List (List UInt8)} (hs : Shorts ls) :
    ∀ d k, k + d = hdn K ls → ∀ part, b.length ≤ part → Stand (b ++ told K ls) part (b.length + pos ls k) (ls.drop k) := by
  have hll := hdn_le K ls
  intro d
  induction d with
  | zero =>
    intro k hk part hp
    have hkh : k = hdn K ls := by omega
    subst hkh
    rcases Nat.lt_or_ge (hdn K ls) ls.length with hlt | hge
    · obtain ⟨x, hx⟩ := hdn_stop hlt
      have hx2 := good_lt h.good hx
      have hxe := h.ahead _ (plc_mem hx)
      obtain ⟨p1, p2⟩ := ptr_pb hx2
      have htd : told K ls = wire (ls.take (hdn K ls)) ++ [UInt8.ofNat (192 + x / 256), UInt8.ofNat (x % 256)] := by unfold told restb; rw [hx]; rfl
      have hpl : pos ls (hdn K ls) = (wire (ls.take (hdn K ls))).length := rfl
      have g0 : (b ++ told K ls)[b.length + pos ls (hdn K ls)]? = some (UInt8.ofNat (192 + x / 256)) := by
        rw [htd, List.getElem?_append_right (by omega), Nat.add_sub_cancel_left, hpl, List.getElem?_append_right (Nat.le_refl _), Nat.sub_self]; rfl
      have g1 : (b ++ told K ls)[b.length + pos ls (hdn K ls) + 1]? = some (UInt8.ofNat (x % 256)) := by
        rw [htd, List.getElem?_append_right (by omega), show b.length + pos ls (hdn K ls) + 1 - b.length = pos ls (hdn K ls) + 1 by omega, hpl, List.getElem?_append_right (by omega), show (wire (ls.take (hdn K ls))).length + 1 - (wire (ls.take (hdn K ls))).length = 1 by omega]; rfl
      obtain ⟨i0, g0⟩ := List.getElem?_eq_some_iff.mp g0
      obtain ⟨i1, g1⟩ := List.getElem?_eq_some_iff.mp g1
      refine .lead (to := x) i1 (by rw [g0]; exact p2) (by rw [g0, g1]; exact p1) (by have := h.last; have : x < e := hxe; omega) ((h.tails _ x (shorts_drop hs _) (plc_mem hx)).more _)
    · have hke : hdn K ls = ls.length := by omega
      have htd : told K ls = wire ls ++ [0] := by
        unfold told restb
        rw [hke, List.take_length, List.drop_length]
        show wire ls ++ (match plc K [0] with | some x => pb x | none => [0]) = _
        rw [good_root h.good]
      rw [hke, List.drop_length]
      have hpl : pos ls ls.length = (wire ls).length := by unfold pos; rw [List.take_length]
      have g0 : (b ++ told K ls)[b.length + pos ls ls.length]? = some 0 := by
        rw [htd, List.getElem?_append_right (by omega), Nat.add_sub_cancel_left, hpl, List.getElem?_append_right (Nat.le_refl _), Nat.sub_self]; rfl
      obtain ⟨i0, g0⟩ := List.getElem?_eq_some_iff.mp g0
      exact .zero i0 (by rw [g0]; rfl)
  | succ d ih =>
    intro k hk part hp
    have hkl : k < ls.length := by omega
    have e : ls.drop k = ls[k] :: ls.drop (k + 1) := List.drop_eq_getElem_cons hkl
    have h63 := hs.1 ls[k] (List.getElem_mem hkl)
    rw [e]
    have hcut : ((b ++ told K ls).drop (b.length + pos ls k)).take (1 + ls[k].length) = wire [ls[k]] := by
      have h1 : ls.take (hdn K ls) = ls.take k ++ (ls[k] :: (ls.drop (k + 1)).take d) := by
        rw [← hk, List.take_add, e, List.take_succ_cons]
      unfold told
      rw [h1, wire_app, List.append_assoc]
      rw [show b.length + pos ls k = b.length + (wire (ls.take k)).length from rfl, List.drop_append, List.drop_eq_nil_of_le (by omega), List.nil_append, Nat.add_sub_cancel_left, List.drop_left]
      rw [show ls[k] :: (ls.drop (k + 1)).take d = [ls[k]] ++ (ls.drop (k + 1)).take d from rfl, wire_app, List.append_assoc]
      rw [List.take_left' (by simp [wire]; omega)]
    have hpe : b.length + pos ls k + (1 + ls[k].length) = b.length + pos ls (k + 1) := by rw [pos_succ hkl]; omega
    refine .label h63.1 h63.2 ?_ hcut (by rw [hpe]; exact ih (k + 1) (by omega) part hp)
    have := congrArg List.length hcut
    rw [List.length_take, List.length_drop, List.length_append] at this
    rw [List.length_append]
    simp only [wire, List.length_append, List.length_cons, List.length_nil] at this
    omega

theorem Inv.tell {b : List UInt8} {K : List (List UInt8 × Nat)} {e : Nat} {P : List (List UInt8 × Nat)} (h : Inv b K e P) {ls : List (List UInt8)} (hs : Shorts ls) :
    Inv (b ++ told K ls) (K ++ fr b.length ls (hdn K ls)) (b.length + (told K ls).length) (P ++ [(nm ls, b.length)]) := by
  have hll := hdn_le K ls
  have hm := h.more (told K ls)
  refine ⟨good_fr h.good hs _ hll, by rw [List.length_append]; omega, ?_, ?_, ?_⟩
  · intro p hp
    rcases List.mem_append.mp hp with hp | hp
    · have := h.ahead p hp; have := h.last; omega
    · obtain ⟨j, h1, rfl, _⟩ := fr_mem hll p hp
      show b.length + pos ls j < _
      have h2 := pos_mono ls (show j + 1 ≤ hdn K ls by omega)
      rw [pos_succ (show j < ls.length by omega)] at h2
      have h3 : (told K ls).length = pos ls (hdn K ls) + (restb K (nm (ls.drop (hdn K ls)))).length := by unfold told; rw [List.length_append]; rfl
      omega
  · intro ms x hms hx
    rcases List.mem_append.mp hx with hx | hx
    · exact hm.tails ms x hms hx
    · obtain ⟨j, h1, h2, _⟩ := fr_mem hll _ hx
      injection h2 with h2 h3
      rw [nm_inj hms (shorts_drop hs j) h2, h3]
      exact told_rd h hs (hdn K ls - j) j (by omega) _ (by omega)
  · intro p hp
    rcases List.mem_append.mp hp with hp | hp
    · exact hm.names p hp
    · obtain rfl := List.mem_singleton.mp hp
      have := told_rd h hs (hdn K ls) 0 (by omega) b.length (Nat.le_refl _)
      rw [pos_zero, Nat.add_zero, List.drop_zero] at this
      exact ⟨ls, rfl, hs, this, by rw [List.length_append]; have := told_pos K ls; show b.length < _; omega⟩

/-- What is read at a name's place. -/
theorem Inv.read {b : List UInt8} {K : List (List UInt8 × Nat)} {e : Nat} {P : List (List UInt8 × Nat)} (h : Inv b K e P) {n : List UInt8} {q : Nat} (hp : (n, q) ∈ P) :
    ∃ nx, rda b q = (n, nx, 0, 0) ∧ q < nx ∧ nx ≤ b.length := by
  obtain ⟨ls, h1, h2, h3, h4⟩ := h.names _ hp
  obtain ⟨nx, hr⟩ := rd_of h3 q 0 [] (by rw [List.nil_append]; exact h2.2)
  have hr' : rd b q q q 0 [] = (nm ls, nx, 0, 0) := hr
  have hn := rd_next b q q q [] (by simp) (by rw [hr'])
  rw [hr'] at hn
  refine ⟨nx, ?_, hn.1, hn.2.1⟩
  unfold rda
  have h5 : q < b.length := h4
  rw [if_neg (by omega), Int.toNat_natCast, hr', show n = nm ls from h1]
end Go.Proofs.Ytaikpgcmcmkdcaa
