/-
  What is carried: bits put behind others, and the first ones taken.
-/
import Derived.Test.YtckmjpnkjnihlaaJa
import Derived.BigQuiet
import Derived.Laws.Shifts
namespace Go.Proofs.Ytckmjpnkjnihlaa
open Go.RowKit Go.Shelf
set_option linter.unusedVariables false
set_option maxRecDepth 100000

/-- Block g holds so many bits: n of them, v as a number. -/
def Cy (w : World) (g : Nat) (v n : Nat) : Prop := w.heap[g]? = some (.cells #[.int .u64 v, .int .u64 n] 41 (0, 0))

theorem Cy.lt {w : World} {g v n : Nat} (h : Cy w g v n) : g < w.heap.size := (Array.getElem?_eq_some_iff.mp h).1
theorem Cy.aside {w w' : World} {g v n : Nat} {G : Nat → Prop} (h : Cy w g v n) (ha : Aside G w w') (h0 : ¬ G g) : Cy w' g v n := (ha.block g h.lt h0).trans h
theorem Cy.cells {w : World} {g v n : Nat} (h : Cy w g v n) : w.cell? ⟨g, 0, none⟩ = some (.int .u64 v) ∧ w.cell? ⟨g, 1, none⟩ = some (.int .u64 n) ∧ ∀ j, w.frozen? ⟨g, j, none⟩ = false := by
  unfold Cy at h
  exact ⟨by simp [World.cell?, h], by simp [World.cell?, h], fun j => by simp [World.frozen?, h]⟩
theorem Cy.set {w : World} {g v n : Nat} (h : Cy w g v n) (v' n' : Nat) : Cy ((w.setCell ⟨g, 0, none⟩ (.int .u64 v')).setCell ⟨g, 1, none⟩ (.int .u64 n')) g v' n' := by
  unfold Cy at h ⊢
  simp [World.setCell, Array.getElem?_modify, h]
theorem Cy.set' {w : World} {g v n : Nat} (h : Cy w g v n) (v' n' : Nat) : Cy ((w.setCell ⟨g, 1, none⟩ (.int .u64 n')).setCell ⟨g, 0, none⟩ (.int .u64 v')).drew.drew g v' n' := by
  unfold Cy at h ⊢
  simp [World.setCell, World.drew, Array.getElem?_modify, h]
theorem cy_aside (w : World) (g a b : Nat) (x y : Value) : Aside (fun k => k = g) w ((w.setCell ⟨g, a, none⟩ x).setCell ⟨g, b, none⟩ y) :=
  (Aside.setCell (G := fun k => k = g) _ _ rfl).trans (Aside.setCell (G := fun k => k = g) _ _ rfl)
theorem cy_aside' (w : World) (g a b : Nat) (x y : Value) : Aside (fun k => k = g) w ((w.setCell ⟨g, a, none⟩ x).setCell ⟨g, b, none⟩ y).drew.drew :=
  (cy_aside w g a b x y).trans (Aside.of_all (((Below.refl _ _).drew).drew))

/-- How what is carried is behind a call. -/
def CyPost (w : World) (g : Nat) (r : Value) (v n : Nat) (e : Ending) (w' : World) : Prop := e = .returned r ∧ Cy w' g v n ∧ Aside (fun k => k = g) w w'

theorem or_u64 (m : Nat) (P X y : Nat) (hP : P = 2 ^ m) (h1 : X * P < 9223372036854775808) (h2 : P ≤ 65536) (y1 : y < P) : bits .or .u64 ((X : Int) * P) y = ((X * P + y : Nat) : Int) := by
  have e : (2 : Int) ^ 63 = 9223372036854775808 := by decide
  have eP : ((P : Nat) : Int) = 2 ^ m := by rw [hP]; push_cast; rfl
  have hX : ((X * P : Nat) : Int) = (X : Int) * P := by push_cast; rfl
  have := bits_join .u64 63 (by decide) (fun n h0 h1 => IntWalk.u64_in n ⟨h0, by rw [e] at h1; omega⟩) m ((X : Int) * P) y (by omega) (by rw [← eP]; exact Int.mul_emod_left _ _) (by rw [e]; omega) (by omega) (by rw [← eP]; omega) (by rw [e]; omega)
  rw [this]
  push_cast
  rfl

set_option maxHeartbeats 1000000 in
theorem put8 {w : World} {g v n : Nat} (x : Nat) (h : Cy w g v n) (hv : v < 65536) (hn : n ≤ 100) (hx : x < 256) :
    Calls Try.prog 22 #[.pointer (some ⟨g, 0, none⟩), .int .u64 x, .int .u64 8] w (CyPost w g (.tuple #[]) (v * 256 + x) (n + 8)) := by
  obtain ⟨h0, h1, hf⟩ := h.cells
  have HS := Lib.hid (h.set (v * 256 + x) (n + 8))
  have ho := or_u64 8 256 v x (by decide) (by omega) (by omega) hx
  have hw : IntKind.u64.wrap ((v : Int) * 256) = (v : Int) * 256 := IntWalk.u64_in _ (by omega)
  have hn1 : IntKind.u64.wrap ((n : Int) + 8) = (n : Int) + 8 := IntWalk.u64_in _ (by omega)
  have e1 : ((v * 256 + x : Nat) : Int) = (v : Int) * 256 + x := by push_cast; rfl
  have e2 : ((n + 8 : Nat) : Int) = (n : Int) + 8 := by push_cast; rfl
  rw [e1] at ho HS
  rw [e2] at HS
  have ho' : bits .or .u64 ((v : Int) * 256) x = (v : Int) * 256 + x := ho
  clear ho h e1 e2
  go_enter Try.func22, Try.ntmps22
  go_wp2
  go_end0
  exact ⟨rfl, HS.out, cy_aside _ _ _ _ _ _⟩

set_option maxHeartbeats 1000000 in
theorem put6 {w : World} {g v n : Nat} (x : Nat) (h : Cy w g v n) (hv : v < 65536) (hn : n ≤ 100) (hx : x < 64) :
    Calls Try.prog 22 #[.pointer (some ⟨g, 0, none⟩), .int .u64 x, .int .u64 6] w (CyPost w g (.tuple #[]) (v * 64 + x) (n + 6)) := by
  obtain ⟨h0, h1, hf⟩ := h.cells
  have HS := Lib.hid (h.set (v * 64 + x) (n + 6))
  have ho := or_u64 6 64 v x (by decide) (by omega) (by omega) hx
  have hw : IntKind.u64.wrap ((v : Int) * 64) = (v : Int) * 64 := IntWalk.u64_in _ (by omega)
  have hn1 : IntKind.u64.wrap ((n : Int) + 6) = (n : Int) + 6 := IntWalk.u64_in _ (by omega)
  have e1 : ((v * 64 + x : Nat) : Int) = (v : Int) * 64 + x := by push_cast; rfl
  have e2 : ((n + 6 : Nat) : Int) = (n : Int) + 6 := by push_cast; rfl
  rw [e1] at ho HS
  rw [e2] at HS
  have ho' : bits .or .u64 ((v : Int) * 64) x = (v : Int) * 64 + x := ho
  clear ho h e1 e2
  go_enter Try.func22, Try.ntmps22
  go_wp2
  go_end0
  exact ⟨rfl, HS.out, cy_aside _ _ _ _ _ _⟩

set_option maxHeartbeats 1000000 in
theorem put4 {w : World} {g v n : Nat} (x : Nat) (h : Cy w g v n) (hv : v < 65536) (hn : n ≤ 100) (hx : x < 16) :
    Calls Try.prog 22 #[.pointer (some ⟨g, 0, none⟩), .int .u64 x, .int .u64 4] w (CyPost w g (.tuple #[]) (v * 16 + x) (n + 4)) := by
  obtain ⟨h0, h1, hf⟩ := h.cells
  have HS := Lib.hid (h.set (v * 16 + x) (n + 4))
  have ho := or_u64 4 16 v x (by decide) (by omega) (by omega) hx
  have hw : IntKind.u64.wrap ((v : Int) * 16) = (v : Int) * 16 := IntWalk.u64_in _ (by omega)
  have hn1 : IntKind.u64.wrap ((n : Int) + 4) = (n : Int) + 4 := IntWalk.u64_in _ (by omega)
  have e1 : ((v * 16 + x : Nat) : Int) = (v : Int) * 16 + x := by push_cast; rfl
  have e2 : ((n + 4 : Nat) : Int) = (n : Int) + 4 := by push_cast; rfl
  rw [e1] at ho HS
  rw [e2] at HS
  have ho' : bits .or .u64 ((v : Int) * 16) x = (v : Int) * 16 + x := ho
  clear ho h e1 e2
  go_enter Try.func22, Try.ntmps22
  go_wp2
  go_end0
  exact ⟨rfl, HS.out, cy_aside _ _ _ _ _ _⟩

set_option maxHeartbeats 1000000 in
theorem put2 {w : World} {g v n : Nat} (x : Nat) (h : Cy w g v n) (hv : v < 65536) (hn : n ≤ 100) (hx : x < 4) :
    Calls Try.prog 22 #[.pointer (some ⟨g, 0, none⟩), .int .u64 x, .int .u64 2] w (CyPost w g (.tuple #[]) (v * 4 + x) (n + 2)) := by
  obtain ⟨h0, h1, hf⟩ := h.cells
  have HS := Lib.hid (h.set (v * 4 + x) (n + 2))
  have ho := or_u64 2 4 v x (by decide) (by omega) (by omega) hx
  have hw : IntKind.u64.wrap ((v : Int) * 4) = (v : Int) * 4 := IntWalk.u64_in _ (by omega)
  have hn1 : IntKind.u64.wrap ((n : Int) + 2) = (n : Int) + 2 := IntWalk.u64_in _ (by omega)
  have e1 : ((v * 4 + x : Nat) : Int) = (v : Int) * 4 + x := by push_cast; rfl
  have e2 : ((n + 2 : Nat) : Int) = (n : Int) + 2 := by push_cast; rfl
  rw [e1] at ho HS
  rw [e2] at HS
  have ho' : bits .or .u64 ((v : Int) * 4) x = (v : Int) * 4 + x := ho
  clear ho h e1 e2
  go_enter Try.func22, Try.ntmps22
  go_wp2
  go_end0
  exact ⟨rfl, HS.out, cy_aside _ _ _ _ _ _⟩

theorem take6_no0 {w : World} {g v : Nat} (h : Cy w g v 0) :
    Calls Try.prog 23 #[.pointer (some ⟨g, 0, none⟩), .int .u64 6] w (CyPost w g (.tuple #[.int .u64 0, .bool false]) v 0) := by
  obtain ⟨h0, h1, hf⟩ := h.cells
  have HS := Lib.hid h
  clear h
  go_enter Try.func23, Try.ntmps23
  go_wp2
  go_ret2
  exact ⟨rfl, HS.out, Aside.refl _ _⟩

theorem take6_no2 {w : World} {g v : Nat} (h : Cy w g v 2) :
    Calls Try.prog 23 #[.pointer (some ⟨g, 0, none⟩), .int .u64 6] w (CyPost w g (.tuple #[.int .u64 0, .bool false]) v 2) := by
  obtain ⟨h0, h1, hf⟩ := h.cells
  have HS := Lib.hid h
  clear h
  go_enter Try.func23, Try.ntmps23
  go_wp2
  go_ret2
  exact ⟨rfl, HS.out, Aside.refl _ _⟩

theorem take6_no4 {w : World} {g v : Nat} (h : Cy w g v 4) :
    Calls Try.prog 23 #[.pointer (some ⟨g, 0, none⟩), .int .u64 6] w (CyPost w g (.tuple #[.int .u64 0, .bool false]) v 4) := by
  obtain ⟨h0, h1, hf⟩ := h.cells
  have HS := Lib.hid h
  clear h
  go_enter Try.func23, Try.ntmps23
  go_wp2
  go_ret2
  exact ⟨rfl, HS.out, Aside.refl _ _⟩

theorem take8_no6 {w : World} {g v : Nat} (h : Cy w g v 6) :
    Calls Try.prog 23 #[.pointer (some ⟨g, 0, none⟩), .int .u64 8] w (CyPost w g (.tuple #[.int .u64 0, .bool false]) v 6) := by
  obtain ⟨h0, h1, hf⟩ := h.cells
  have HS := Lib.hid h
  clear h
  go_enter Try.func23, Try.ntmps23
  go_wp2
  go_ret2
  exact ⟨rfl, HS.out, Aside.refl _ _⟩

set_option maxHeartbeats 1000000 in
theorem take6_yes6 {w : World} {g v : Nat} (h : Cy w g v 6) (hv : v < 64) :
    Calls Try.prog 23 #[.pointer (some ⟨g, 0, none⟩), .int .u64 6] w (CyPost w g (.tuple #[.int .u64 (v : Int), .bool true]) 0 0) := by
  obtain ⟨h0, h1, hf⟩ := h.cells
  have HS := Lib.hid (h.set' 0 0)
  have hz : (v : Int) - (v : Int) = 0 := by omega
  have hw : IntKind.u64.wrap (v : Int) = v := IntWalk.u64_in _ (by omega)
  clear h
  go_enter Try.func23, Try.ntmps23
  go_wp2
  go_region
  go_wp2
  go_region
  go_wp2
  go_ret2
  exact ⟨rfl, HS.out, cy_aside' _ _ _ _ _ _⟩

set_option maxHeartbeats 1000000 in
theorem take6_yes8 {w : World} {g v : Nat} (h : Cy w g v 8) (hv : v < 256) :
    Calls Try.prog 23 #[.pointer (some ⟨g, 0, none⟩), .int .u64 6] w (CyPost w g (.tuple #[.int .u64 ((v / 4 : Nat) : Int), .bool true]) (v % 4) 2) := by
  obtain ⟨h0, h1, hf⟩ := h.cells
  have HS := Lib.hid (h.set' (v % 4) 2)
  have hw : IntKind.u64.wrap ((v : Int) / 4 * 4) = (v : Int) / 4 * 4 := IntWalk.u64_in _ (by omega)
  have hs : IntKind.u64.wrap ((v : Int) - (v : Int) / 4 * 4) = (v : Int) % 4 := by rw [IntWalk.u64_in _ (by omega)]; omega
  clear h
  go_enter Try.func23, Try.ntmps23
  go_wp2
  go_region
  go_wp2
  go_region
  go_wp2
  go_ret2
  exact ⟨rfl, HS.out, cy_aside' _ _ _ _ _ _⟩

set_option maxHeartbeats 1000000 in
theorem take6_yes10 {w : World} {g v : Nat} (h : Cy w g v 10) (hv : v < 1024) :
    Calls Try.prog 23 #[.pointer (some ⟨g, 0, none⟩), .int .u64 6] w (CyPost w g (.tuple #[.int .u64 ((v / 16 : Nat) : Int), .bool true]) (v % 16) 4) := by
  obtain ⟨h0, h1, hf⟩ := h.cells
  have HS := Lib.hid (h.set' (v % 16) 4)
  have hw : IntKind.u64.wrap ((v : Int) / 16 * 16) = (v : Int) / 16 * 16 := IntWalk.u64_in _ (by omega)
  have hs : IntKind.u64.wrap ((v : Int) - (v : Int) / 16 * 16) = (v : Int) % 16 := by rw [IntWalk.u64_in _ (by omega)]; omega
  clear h
  go_enter Try.func23, Try.ntmps23
  go_wp2
  go_region
  go_wp2
  go_region
  go_wp2
  go_ret2
  exact ⟨rfl, HS.out, cy_aside' _ _ _ _ _ _⟩

set_option maxHeartbeats 1000000 in
theorem take6_yes12 {w : World} {g v : Nat} (h : Cy w g v 12) (hv : v < 4096) :
    Calls Try.prog 23 #[.pointer (some ⟨g, 0, none⟩), .int .u64 6] w (CyPost w g (.tuple #[.int .u64 ((v / 64 : Nat) : Int), .bool true]) (v % 64) 6) := by
  obtain ⟨h0, h1, hf⟩ := h.cells
  have HS := Lib.hid (h.set' (v % 64) 6)
  have hw : IntKind.u64.wrap ((v : Int) / 64 * 64) = (v : Int) / 64 * 64 := IntWalk.u64_in _ (by omega)
  have hs : IntKind.u64.wrap ((v : Int) - (v : Int) / 64 * 64) = (v : Int) % 64 := by rw [IntWalk.u64_in _ (by omega)]; omega
  clear h
  go_enter Try.func23, Try.ntmps23
  go_wp2
  go_region
  go_wp2
  go_region
  go_wp2
  go_ret2
  exact ⟨rfl, HS.out, cy_aside' _ _ _ _ _ _⟩

set_option maxHeartbeats 1000000 in
theorem take8_yes8 {w : World} {g v : Nat} (h : Cy w g v 8) (hv : v < 256) :
    Calls Try.prog 23 #[.pointer (some ⟨g, 0, none⟩), .int .u64 8] w (CyPost w g (.tuple #[.int .u64 (v : Int), .bool true]) 0 0) := by
  obtain ⟨h0, h1, hf⟩ := h.cells
  have HS := Lib.hid (h.set' 0 0)
  have hz : (v : Int) - (v : Int) = 0 := by omega
  have hw : IntKind.u64.wrap (v : Int) = v := IntWalk.u64_in _ (by omega)
  clear h
  go_enter Try.func23, Try.ntmps23
  go_wp2
  go_region
  go_wp2
  go_region
  go_wp2
  go_ret2
  exact ⟨rfl, HS.out, cy_aside' _ _ _ _ _ _⟩

set_option maxHeartbeats 1000000 in
theorem take8_yes10 {w : World} {g v : Nat} (h : Cy w g v 10) (hv : v < 1024) :
    Calls Try.prog 23 #[.pointer (some ⟨g, 0, none⟩), .int .u64 8] w (CyPost w g (.tuple #[.int .u64 ((v / 4 : Nat) : Int), .bool true]) (v % 4) 2) := by
  obtain ⟨h0, h1, hf⟩ := h.cells
  have HS := Lib.hid (h.set' (v % 4) 2)
  have hw : IntKind.u64.wrap ((v : Int) / 4 * 4) = (v : Int) / 4 * 4 := IntWalk.u64_in _ (by omega)
  have hs : IntKind.u64.wrap ((v : Int) - (v : Int) / 4 * 4) = (v : Int) % 4 := by rw [IntWalk.u64_in _ (by omega)]; omega
  clear h
  go_enter Try.func23, Try.ntmps23
  go_wp2
  go_region
  go_wp2
  go_region
  go_wp2
  go_ret2
  exact ⟨rfl, HS.out, cy_aside' _ _ _ _ _ _⟩

set_option maxHeartbeats 1000000 in
theorem take8_yes12 {w : World} {g v : Nat} (h : Cy w g v 12) (hv : v < 4096) :
    Calls Try.prog 23 #[.pointer (some ⟨g, 0, none⟩), .int .u64 8] w (CyPost w g (.tuple #[.int .u64 ((v / 16 : Nat) : Int), .bool true]) (v % 16) 4) := by
  obtain ⟨h0, h1, hf⟩ := h.cells
  have HS := Lib.hid (h.set' (v % 16) 4)
  have hw : IntKind.u64.wrap ((v : Int) / 16 * 16) = (v : Int) / 16 * 16 := IntWalk.u64_in _ (by omega)
  have hs : IntKind.u64.wrap ((v : Int) - (v : Int) / 16 * 16) = (v : Int) % 16 := by rw [IntWalk.u64_in _ (by omega)]; omega
  clear h
  go_enter Try.func23, Try.ntmps23
  go_wp2
  go_region
  go_wp2
  go_region
  go_wp2
  go_ret2
  exact ⟨rfl, HS.out, cy_aside' _ _ _ _ _ _⟩

end Go.Proofs.Ytckmjpnkjnihlaa
