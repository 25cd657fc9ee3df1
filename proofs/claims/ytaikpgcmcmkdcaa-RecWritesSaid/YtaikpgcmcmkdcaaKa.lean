/-
  A name in a message, read plainly: byte by byte, part by part.
-/
import Derived.Test.YtaikpgcmcmkdcaaBCut
import Derived.Test.YtaikpgcmcmkdcaaVd
namespace Go.Proofs.Ytaikpgcmcmkdcaa
open Go.RowKit
set_option linter.unusedVariables false
set_option maxRecDepth 100000

/-- Bytes as numbers. -/
def iz (b : List UInt8) : List Int := b.map fun x => (x.toNat : Int)

@[simp] theorem iz_len (b : List UInt8) : (iz b).length = b.length := by simp [iz]

theorem iz_byte (b : List UInt8) : ByteL (iz b) := fun n hn => by
  obtain ⟨x, _, rfl⟩ := List.mem_map.mp hn
  have : x.toNat < 256 := x.toNat_lt
  omega

theorem iz_get (b : List UInt8) (k : Nat) (h : k < b.length) : (iz b).getD k 0 = (b[k].toNat : Int) := by
  rw [List.getD, iz, List.getElem?_map, List.getElem?_eq_getElem h]; rfl

theorem iz_of {l : List Int} (h : ByteL l) : ∃ b, l = iz b := by
  refine ⟨l.map fun x => UInt8.ofNat x.toNat, ?_⟩
  unfold iz
  rw [List.map_map]
  conv => lhs; rw [← List.map_id l]
  refine List.map_congr_left fun x hx => ?_
  have := h x hx
  simp only [Function.comp, id]
  rw [UInt8.toNat_ofNat', Nat.mod_eq_of_lt (by omega)]
  omega

theorem iz_cut (b : List UInt8) (p k : Nat) : cutL (iz b) p k = iz ((b.drop p).take k) := by
  unfold cutL iz
  rw [← List.map_drop, ← List.map_take]

theorem iz_app (a b : List UInt8) : iz (a ++ b) = iz a ++ iz b := List.map_append

theorem iz_inj {a b : List UInt8} (h : iz a = iz b) : a = b := by
  refine List.map_inj_right (fun x y hxy => ?_) |>.mp h
  exact UInt8.toNat_inj.mp (by exact_mod_cast hxy)

/-- What reading tells: the name, where it ends, the fault, its place. -/
abbrev Got := List UInt8 × Nat × Int × Nat

/-- What a pointer of these two bytes leads to. -/
def ptr (x y : UInt8) : Nat := 256 * (x.toNat - 192) + y.toNat

/-- From the place i on; a: where reading began; part: where this part began; next: where the first part ended, 0 till it is left; n: the labels so far. -/
def rd (b : List UInt8) (a part i next : Nat) (n : List UInt8) : Got :=
  if h : i < b.length then
    if b[i].toNat = 0 then (n ++ [0], if next = 0 then i + 1 else next, 0, 0)
    else if b[i].toNat < 64 then
      if b.length < i + (1 + b[i].toNat) then ([], 0, 4, b.length)
      else if 254 < n.length + (1 + b[i].toNat) then ([], 0, 3, a)
      else rd b a part (i + (1 + b[i].toNat)) next (n ++ (b.drop i).take (1 + b[i].toNat))
    else if b[i].toNat < 192 then ([], 0, 4, i)
    else if h1 : i + 1 < b.length then
      if part ≤ ptr b[i] b[i + 1] then ([], 0, 150, i)
      else rd b a (ptr b[i] b[i + 1]) (ptr b[i] b[i + 1]) (if next = 0 then i + 2 else next) n
    else ([], 0, 4, b.length)
  else ([], 0, 4, b.length)
termination_by (part, b.length - i)
decreasing_by
  · apply Prod.Lex.right; omega
  · apply Prod.Lex.left; omega

theorem rd_end {b : List UInt8} {a part i next : Nat} {n : List UInt8} (h : b.length ≤ i) : rd b a part i next n = ([], 0, 4, b.length) := by
  rw [rd, dif_neg (by omega)]

theorem rd_zero {b : List UInt8} {a part i next : Nat} {n : List UInt8} (h : i < b.length) (h0 : b[i].toNat = 0) : rd b a part i next n = (n ++ [0], if next = 0 then i + 1 else next, 0, 0) := by
  rw [rd, dif_pos h, if_pos h0]

theorem rd_short {b : List UInt8} {a part i next : Nat} {n : List UInt8} (h : i < b.length) (h0 : b[i].toNat ≠ 0) (h1 : b[i].toNat < 64) (h2 : b.length < i + (1 + b[i].toNat)) : rd b a part i next n = ([], 0, 4, b.length) := by
  rw [rd, dif_pos h, if_neg h0, if_pos h1, if_pos h2]

theorem rd_long {b : List UInt8} {a part i next : Nat} {n : List UInt8} (h : i < b.length) (h0 : b[i].toNat ≠ 0) (h1 : b[i].toNat < 64) (h2 : ¬ b.length < i + (1 + b[i].toNat)) (h3 : 254 < n.length + (1 + b[i].toNat)) : rd b a part i next n = ([], 0, 3, a) := by
  rw [rd, dif_pos h, if_neg h0, if_pos h1, if_neg h2, if_pos h3]

theorem rd_label {b : List UInt8} {a part i next : Nat} {n : List UInt8} (h : i < b.length) (h0 : b[i].toNat ≠ 0) (h1 : b[i].toNat < 64) (h2 : ¬ b.length < i + (1 + b[i].toNat)) (h3 : ¬ 254 < n.length + (1 + b[i].toNat)) :
    rd b a part i next n = rd b a part (i + (1 + b[i].toNat)) next (n ++ (b.drop i).take (1 + b[i].toNat)) := by
  conv => lhs; rw [rd, dif_pos h, if_neg h0, if_pos h1, if_neg h2, if_neg h3]

theorem rd_mid {b : List UInt8} {a part i next : Nat} {n : List UInt8} (h : i < b.length) (h1 : 64 ≤ b[i].toNat) (h2 : b[i].toNat < 192) : rd b a part i next n = ([], 0, 4, i) := by
  rw [rd, dif_pos h, if_neg (by omega), if_neg (by omega), if_pos h2]

theorem rd_half {b : List UInt8} {a part i next : Nat} {n : List UInt8} (h : i < b.length) (h1 : 192 ≤ b[i].toNat) (h2 : b.length ≤ i + 1) : rd b a part i next n = ([], 0, 4, b.length) := by
  rw [rd, dif_pos h, if_neg (by omega), if_neg (by omega), if_neg (by omega), dif_neg (by omega)]

theorem rd_back {b : List UInt8} {a part i next : Nat} {n : List UInt8} (h : i < b.length) (h1 : 192 ≤ b[i].toNat) (h2 : i + 1 < b.length) (h3 : part ≤ ptr b[i] b[i + 1]) : rd b a part i next n = ([], 0, 150, i) := by
  rw [rd, dif_pos h, if_neg (by omega), if_neg (by omega), if_neg (by omega), dif_pos h2, if_pos h3]

theorem rd_go {b : List UInt8} {a part i next : Nat} {n : List UInt8} (h : i < b.length) (h1 : 192 ≤ b[i].toNat) (h2 : i + 1 < b.length) (h3 : ¬ part ≤ ptr b[i] b[i + 1]) :
    rd b a part i next n = rd b a (ptr b[i] b[i + 1]) (ptr b[i] b[i + 1]) (if next = 0 then i + 2 else next) n := by
  conv => lhs; rw [rd, dif_pos h, if_neg (by omega), if_neg (by omega), if_neg (by omega), dif_pos h2, if_neg h3]

/-- What is told of any place. -/
def rda (b : List UInt8) (a : Int) : Got := if a < 0 ∨ (b.length : Int) < a then ([], 0, 5, 0) else rd b a.toNat a.toNat a.toNat 0 []

def gotV (r : Got) : Value := .tuple #[.string (bs r.1), .int .i64 r.2.1, .agg #[.int .i64 r.2.2.1, .int .i64 r.2.2.2]]

end Go.Proofs.Ytaikpgcmcmkdcaa
