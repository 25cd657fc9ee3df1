/-
  A name in a message, read plainly: byte by byte, part by part.
-/
import Derived.Test.YtckmjpnkjnihlaaTi
namespace Go.Proofs.Ytckmjpnkjnihlaa
open Go.RowKit
set_option linter.unusedVariables false
set_option maxRecDepth 100000

/-- Bytes as numbers. -/
def iz (b : List UInt8) : List Int := b.map fun x => (x.toNat : Int)

@[simp] theorem iz_len (b : List UInt8) : (iz b).length = b.length := by simp [iz]

theorem iz_byte (b : List UInt8) : ByteL (iz b) := fun n hn => by
  obtain ⟨x, _, rfl⟩ := List.mem_map.mp hn
  have : x.toNat < 256 := x.toNat_lt
  omega

theorem iz_get (b : List UInt8) (k : Nat) (h : k < b.length) : (iz b).getD k 0 = (b[k].toNat : Int) := by
  rw [List.getD, iz, List.getElem?_map, List.getElem?_eq_getElem h]; rfl

theorem iz_of {l : List Int} (h : ByteL l) : ∃ b, l = iz b := by
  refine ⟨l.map fun x => UInt8.ofNat x.toNat, ?_⟩
  unfold iz
  rw [List.map_map]
  conv => lhs; rw [← List.map_id l]
  refine List.map_congr_left fun x hx => ?_
  have := h x hx
  simp only [Function.comp, id]
  rw [UInt8.toNat_ofNat', Nat.mod_eq_of_lt (by omega)]
  omega

theorem iz_cut (b : List UInt8) (p k : Nat) : cutL (iz b) p k = iz ((b.drop p).take k) := by
  unfold cutL iz
  rw [← List.map_drop, ← List.map_take]

theorem iz_app (a b : List UInt8) : iz (a ++ b) = iz a ++ iz b := List.map_append

theorem iz_inj {a b : List UInt8} (h : iz a = iz b) : a = b := by
  refine List.map_inj_right (fun x y hxy => ?_) |>.mp h
  exact UInt8.toNat_inj.mp (by exact_mod_cast hxy)

/-- What a pointer of these two bytes leads to. -/
def ptr (x y : UInt8) : Nat := 256 * (x.toNat - 192) + y.toNat

end Go.Proofs.Ytckmjpnkjnihlaa
