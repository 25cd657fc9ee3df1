/-
  Blanks; letters turned.
-/
import Derived.Test.YtknfgcmidpgifaaGreatDoorZ13
import Derived.Laws.BitsAllLaws
namespace Go.Proofs.YtknfgcmidpgifaaGreatDoor
open Go.RowKit Go.Shelf
set_option linter.unusedVariables false
set_option linter.unusedSimpArgs false
set_option maxRecDepth 100000

def BlPost (w : World) (e : Ending) (w' : World) : Prop := ∃ a : List UInt8, e = .returned (.string (bs a)) ∧ (∀ x ∈ a, blk x = true) ∧ a.length ≤ 20 ∧ w = w'

set_option maxHeartbeats 2000000 in
theorem blanks_any (n : Int) (w : World) : Calls Tryz.prog 28 #[.int .i64 n] w (BlPost w) := by
  have HP := Lib.hid (fun w => pick_any n 20 w (by omega) (by omega))
  go_enter Tryz.func28, Tryz.ntmps28
  go_wp2_with fail
  go_loopg [3, 4] 20 (fun g v3 v4 wr => ∃ (a : List UInt8), a.length + g = 20 ∧ v4 = .int .i64 a.length ∧ v3 = .string (bs a) ∧ Hid (∀ x ∈ a, blk x = true) ∧ w = wr)
  case atStart => exact ⟨[], rfl, rfl, rfl, Lib.hid (by simp), rfl⟩
  case round =>
    obtain ⟨a, hl, rfl, rfl, HA, rfl⟩ := hrel
    go_wp2_with fail
    refine (HP.out _).mono ?_; rintro e w1 ⟨k, hk, rfl, rfl⟩
    by_cases hlt : a.length < k
    · have t1 : (a.length : Int) < k := by omega
      have hal : a.length < 20 := by omega
      have hm : a.length % 2 = 0 ∨ a.length % 2 = 1 := by omega
      have ha20 : a.length ≤ 20 := by omega
      rcases hm with hm | hm
      · have htm : ((a.length : Int)).tmod 2 = 0 := by rw [Int.tmod_eq_emod_of_nonneg (by omega)]; omega
        have hsl : ∀ w, (Instr.slice 9 (.string ⟨#[32, 9]⟩) (some (.int .i64 0)) (some (.int .i64 1)) none).run Tryz.prog w = .ok (.string (bs [32])) w := fun w => cut_run [32, 9] 0 1 (by omega) (by simp) w
        have had : ∀ w, (Op.stringOp .add (bs a) (bs [32])).run Tryz.prog w = .ok (.string (bs (a ++ [32]))) w := fun w => adds_run a [32] (by omega) (by simp) w
        have HA2 := Lib.hid (show ∀ x ∈ a ++ [32], blk x = true from fun x hx => by
          rcases List.mem_append.mp hx with h | h
          · exact HA.out x h
          · simp only [List.mem_singleton] at h; subst h; rfl)
        clear hm
        go_wp2_with fail
        go_roundg (gk - 1)
        case measure => omega
        case rel => exact ⟨a ++ [32], by simp; omega, by rw [List.length_append]; go_num, rfl, HA2, rfl⟩
      · have htm : ((a.length : Int)).tmod 2 = 1 := by rw [Int.tmod_eq_emod_of_nonneg (by omega)]; omega
        have hsl : ∀ w, (Instr.slice 9 (.string ⟨#[32, 9]⟩) (some (.int .i64 1)) (some (.int .i64 2)) none).run Tryz.prog w = .ok (.string (bs [9])) w := fun w => cut_run [32, 9] 1 2 (by omega) (by simp) w
        have had : ∀ w, (Op.stringOp .add (bs a) (bs [9])).run Tryz.prog w = .ok (.string (bs (a ++ [9]))) w := fun w => adds_run a [9] (by omega) (by simp) w
        have HA2 := Lib.hid (show ∀ x ∈ a ++ [9], blk x = true from fun x hx => by
          rcases List.mem_append.mp hx with h | h
          · exact HA.out x h
          · simp only [List.mem_singleton] at h; subst h; rfl)
        clear hm
        go_wp2_with fail
        go_roundg (gk - 1)
        case measure => omega
        case rel => exact ⟨a ++ [9], by simp; omega, by rw [List.length_append]; go_num, rfl, HA2, rfl⟩
    · have t1 : ¬ ((a.length : Int) < k) := by omega
      go_wp2_with fail
      go_ret
      exact ⟨a, rfl, HA.out, by omega, rfl⟩

/-! ### letters turned -/
def turnB (c : UInt8) : UInt8 := if (65 ≤ c.toNat ∧ c.toNat ≤ 90) ∨ (97 ≤ c.toNat ∧ c.toNat ≤ 122) then c ^^^ 32 else c
theorem turn_low : ∀ n : Nat, n < 256 → low (turnB (UInt8.ofNat n)) = low (UInt8.ofNat n) := by decide +kernel
theorem turn_same (s : List UInt8) : sameN s (s.map turnB) = true := by
  unfold sameN
  rw [beq_iff_eq, List.map_map]
  apply List.map_congr_left
  intro x _
  have := turn_low x.toNat x.toNat_lt
  rw [UInt8.ofNat_toNat] at this
  exact this.symm
def turnL (s : List UInt8) (k : Nat) : List UInt8 := (s.take k).map turnB ++ s.drop k
theorem turnL_len (s : List UInt8) (k : Nat) : (turnL s k).length = s.length := by
  unfold turnL; rw [List.length_append, List.length_map, List.length_take, List.length_drop]; omega
theorem turnL_at (s : List UInt8) (k : Nat) (hk : k < s.length) : (turnL s k)[k]? = some s[k] ∧ (turnL s k).set k (turnB s[k]) = turnL s (k + 1) := by
  have hlen : ((s.take k).map turnB).length = k := by rw [List.length_map, List.length_take]; omega
  have hd : s.drop k = s[k] :: s.drop (k + 1) := List.drop_eq_getElem_cons hk
  have ht : s.take (k + 1) = s.take k ++ [s[k]] := by rw [List.take_add_one, List.getElem?_eq_getElem hk]; rfl
  unfold turnL
  refine ⟨?_, ?_⟩
  · rw [List.getElem?_append_right (by omega), hlen, Nat.sub_self, hd]; rfl
  · rw [List.set_append_right _ _ (by omega), hlen, Nat.sub_self, hd, List.set_cons_zero, ht, List.map_append, List.append_assoc]
    rfl
/-- Bytes in a block of their own, from its first cell on, none of them frozen. -/
def RowU (w : World) (g : Nat) (L : List UInt8) : Prop := ∀ j x, L[j]? = some x → w.cell? ⟨g, j, none⟩ = some (.int .u8 (x.toNat : Nat)) ∧ w.frozen? ⟨g, j, none⟩ = false
theorem RowU.set {w : World} {g k : Nat} {L : List UInt8} (h : RowU w g L) (hk : k < L.length) (y : UInt8) : RowU (w.setCell ⟨g, k, none⟩ (.int .u8 (y.toNat : Nat))) g (L.set k y) := fun j x hj => by
  have hfz : ∀ j, j < L.length → (w.setCell ⟨g, k, none⟩ (.int .u8 (y.toNat : Nat))).frozen? ⟨g, j, none⟩ = false := fun j hj => by
    rw [World.frozen?_setCell]; exact (h j _ (List.getElem?_eq_getElem hj)).2
  by_cases e : k = j
  · subst e
    rw [List.getElem?_set_self hk] at hj
    injection hj with hj
    subst hj
    exact ⟨World.cell?_setCell_same _ _ _ (h k _ (List.getElem?_eq_getElem hk)).1, hfz k hk⟩
  · rw [List.getElem?_set_ne e] at hj
    refine ⟨?_, hfz j (List.getElem?_eq_some_iff.mp hj).1⟩
    rw [World.cell?_setCell_other _ _ _ _ (fun e2 => e (congrArg Addr.off e2))]
    exact (h j x hj).1
theorem RowU.sl {w : World} {g c : Nat} {L : List UInt8} (h : RowU w g L) (hc : L.length ≤ c) (hg : g < w.heap.size) : Sl w 0 w.heap.size (.slice (some ⟨g, 0, none⟩) L.length c) (iz L) :=
  ⟨_, c, by rw [iz_len], by rw [iz_len]; exact hc, fun h => by simp at h, fun _ => ⟨g, 0, rfl, Nat.zero_le _, hg, fun j hj => by
    rw [iz_len] at hj
    rw [Nat.zero_add, (h j _ (List.getElem?_eq_getElem hj)).1, iz_get L j hj]⟩⟩
theorem rowU_new {w W : World} {s : List UInt8} {cap : Nat} (ho : OwnB W w.heap.size (.slice (some ⟨w.heap.size, 0, none⟩) s.length cap) s) : RowU W w.heap.size s ∧ s.length ≤ cap := by
  have hc := ho.cells rfl
  rcases ho with ⟨h, _⟩ | ⟨g, cap', fz, he, hB, hl, hm, hz, hg⟩
  · simp at h
  · injection he with e1 e2 e3
    injection e1 with e1
    injection e1 with e1
    subst e3
    rw [← e1] at hg
    refine ⟨fun j x hj => ?_, hl⟩
    have hjl := (List.getElem?_eq_some_iff.mp hj).1
    refine ⟨?_, ?_⟩
    · rw [hc j hjl, List.getD, hj]; rfl
    · have : ¬ (fz.1 ≤ j ∧ j < fz.2) := by omega
      simp only [World.frozen?, hg]
      simpa using this
theorem turn_nat (x : UInt8) : ((turnB x).toNat : Int) = if (65 ≤ x.toNat ∧ x.toNat ≤ 90) ∨ (97 ≤ x.toNat ∧ x.toNat ≤ 122) then ((x.toNat ^^^ 32 : Nat) : Int) else x.toNat := by
  unfold turnB
  split
  · rw [UInt8.toNat_xor]; rfl
  · rfl

set_option maxHeartbeats 4000000 in
theorem turned_any (s : List UInt8) (hs : s.length ≤ 900000) (w : World) : Calls Tryz.prog 29 #[.string (bs s)] w (Tells w (.string (bs (s.map turnB)))) := by
  obtain ⟨cap, W, hcv, ho, hb, hlt⟩ := conv_B w s (by omega)
  obtain ⟨hr, hcap⟩ := rowU_new ho
  have HR := Lib.hid hr
  have HB := Lib.hid hb
  have HC := Lib.hid (And.intro hcap hlt)
  obtain ⟨N, hN⟩ : ∃ N, w.heap.size = N := ⟨_, rfl⟩
  rw [hN] at HR hcv HC HB
  have HN := Lib.hid hN
  clear ho hb hr hcap hlt
  go_enter Tryz.func29, Tryz.ntmps29
  go_wp2_with fail
  go_loopg [4] s.length (fun n v4 wr => ∃ k : Nat, k + n = s.length ∧ v4 = .int .i64 k ∧ Hid (RowU wr N (turnL s k)) ∧ Hid (Below N w wr) ∧ Hid (N < wr.heap.size))
  case atStart => exact ⟨0, by omega, rfl, Lib.hid (by simpa [turnL] using HR.out), HB, Lib.hid HC.out.2⟩
  case round =>
    clear HR HB
    obtain ⟨k, hk, rfl, HR, HB, HS⟩ := hrel
    have hkb : k ≤ 900000 := by omega
    by_cases hlt : k < s.length
    · obtain ⟨e1, e2⟩ := turnL_at s k hlt
      have hkl : k < (turnL s k).length := by rw [turnL_len]; exact hlt
      have HSET := Lib.hid (fun y => HR.out.set hkl y)
      obtain ⟨p0, f0⟩ := HR.out k _ e1
      have hst : ∀ j, j ≠ k → True := fun _ _ => trivial
      obtain ⟨x, hx⟩ : ∃ x, s[k] = x := ⟨_, rfl⟩
      rw [hx] at p0 e2
      have HTN := Lib.hid (turn_nat x)
      have HE2 := Lib.hid e2
      have hx8 := x.toNat_lt
      have HTB := Lib.hid (show ¬ ((65 ≤ x.toNat ∧ x.toNat ≤ 90) ∨ (97 ≤ x.toNat ∧ x.toNat ≤ 122)) → turnB x = x from fun h => by unfold turnB; rw [if_neg h])
      have HLX := Lib.hid (show (turnL s k)[k]? = some x by rw [e1, hx])
      have hxor := u8_xor_nat x.toNat 32 (by omega) (by omega)
      have hxor : bits .xor .u8 (x.toNat : Int) 32 = ((x.toNat ^^^ 32 : Nat) : Int) := hxor
      obtain ⟨p, hp⟩ : ∃ p, x.toNat = p := ⟨_, rfl⟩
      obtain ⟨z, hz⟩ : ∃ z, x.toNat ^^^ 32 = z := ⟨_, rfl⟩
      rw [hz] at hxor HTN
      rw [hp] at p0 HTN hx8 HTB hxor
      clear e1 e2 hx hp hz hst
      by_cases hq : (65 ≤ p ∧ p ≤ 90) ∨ (97 ≤ p ∧ p ≤ 122)
      · have htn := HTN.out
        rw [if_pos hq] at htn
        have HR2 := Lib.hid (show RowU (wr.setCell ⟨N, k, none⟩ (.int .u8 (z : Nat))) N (turnL s (k + 1)) from by
          have := HSET.out (turnB x)
          rw [HE2.out, htn] at this
          exact this)
        have HB2 := Lib.hid (show Below N w (wr.setCell ⟨N, k, none⟩ (.int .u8 (z : Nat))) from HB.out.setCell (p := ⟨N, k, none⟩) (Nat.le_refl _) _)
        have HS2 := Lib.hid (show N < (wr.setCell ⟨N, k, none⟩ (.int .u8 (z : Nat))).heap.size from by have := HS.out; simpa [World.setCell] using this)
        clear htn
        have hc : (65 ≤ p ∧ p ≤ 90) ∨ (90 < p ∧ 97 ≤ p ∧ p ≤ 122) := by omega
        clear hq
        rcases hc with ⟨q1, q2⟩ | ⟨q1, q2, q3⟩
        · have t1 : (65 : Int) ≤ p := by omega
          have t2 : (p : Int) ≤ 90 := by omega
          go_wp2_with fail
          go_roundg (s.length - (k + 1))
          case measure => omega
          case rel => exact ⟨k + 1, by omega, by go_num, HR2, HB2, HS2⟩
        · have t1 : (65 : Int) ≤ p := by omega
          have t2 : ¬ ((p : Int) ≤ 90) := by omega
          have t3 : (97 : Int) ≤ p := by omega
          have t4 : (p : Int) ≤ 122 := by omega
          go_wp2_with fail
          go_roundg (s.length - (k + 1))
          case measure => omega
          case rel => exact ⟨k + 1, by omega, by go_num, HR2, HB2, HS2⟩
      · have HR2 := Lib.hid (show RowU wr N (turnL s (k + 1)) from by
          rw [← HE2.out, HTB.out hq]
          have : (turnL s k).set k x = turnL s k := by
            apply List.ext_getElem?
            intro j
            by_cases e : k = j
            · subst e
              rw [List.getElem?_set_self hkl, HLX.out]
            · rw [List.getElem?_set_ne e]
          rw [this]
          exact HR.out)
        have hc : p < 65 ∨ (90 < p ∧ p < 97) ∨ 122 < p := by omega
        clear hq
        rcases hc with q1 | ⟨q1, q2⟩ | q1
        · have t1 : ¬ ((65 : Int) ≤ p) := by omega
          have t3 : ¬ ((97 : Int) ≤ p) := by omega
          go_wp2_with fail
          go_roundg (s.length - (k + 1))
          case measure => omega
          case rel => exact ⟨k + 1, by omega, by go_num, HR2, HB, HS⟩
        · have t1 : (65 : Int) ≤ p := by omega
          have t2 : ¬ ((p : Int) ≤ 90) := by omega
          have t3 : ¬ ((97 : Int) ≤ p) := by omega
          go_wp2_with fail
          go_roundg (s.length - (k + 1))
          case measure => omega
          case rel => exact ⟨k + 1, by omega, by go_num, HR2, HB, HS⟩
        · have t1 : (65 : Int) ≤ p := by omega
          have t2 : ¬ ((p : Int) ≤ 90) := by omega
          have t3 : (97 : Int) ≤ p := by omega
          have t4 : ¬ ((p : Int) ≤ 122) := by omega
          go_wp2_with fail
          go_roundg (s.length - (k + 1))
          case measure => omega
          case rel => exact ⟨k + 1, by omega, by go_num, HR2, HB, HS⟩
    · have t1 : ¬ ((k : Int) < s.length) := by omega
      have hcs : (convert 28 9 (.slice (some ⟨N, 0, none⟩) s.length cap)).run Tryz.prog wr = .ok (.string (bs (s.map turnB))) wr := by
        have he : turnL s k = s.map turnB := by
          unfold turnL
          rw [List.take_of_length_le (by omega), List.drop_of_length_le (by omega), List.append_nil]
        have hr := HR.out
        rw [he] at hr
        have h := conv_sl (hr.sl (c := cap) (by rw [List.length_map]; exact HC.out.1) HS.out)
        rw [strz, List.length_map] at h
        exact h
      go_wp2_with fail
      go_ret
      exact ⟨rfl, by rw [HN.out]; exact HB.out⟩
end Go.Proofs.YtknfgcmidpgifaaGreatDoor

/-
  The statement HeadBlanks.
-/
namespace Go.Proofs.YtknfgcmidpgifaaGreatDoor
open Go.RowKit Go.Shelf
set_option linter.unusedVariables false
set_option linter.unusedSimpArgs false
set_option maxRecDepth 100000

def pre0 : List UInt8 := [71, 69, 84, 32, 47, 97, 32, 72, 84, 84, 80, 47, 49, 46, 48, 13, 10]
def end4 : List UInt8 := [13, 10, 13, 10]
theorem mget_ok : wordL mGet 16 = true ∧ tgtL tA = true := ⟨by decide +kernel, by decide +kernel⟩
theorem bl_par {name value a b : List UInt8} (ho : okF (name, value) = true) (hh : hostL [(name, value)] 0 = true) (ha : ∀ x ∈ a, blk x = true) (hb : ∀ x ∈ b, blk x = true) (hl : name.length + a.length + value.length + b.length ≤ 4000) :
    parH (pre0 ++ (name ++ 58 :: (a ++ value ++ b)) ++ end4) = (hof 0 name value, 200) := by
  have e : pre0 ++ (name ++ 58 :: (a ++ value ++ b)) ++ end4 = joinL (fst1 (hof 0 name value) :: [name ++ 58 :: (a ++ value ++ b)]) ++ crlf := by
    unfold joinL
    rw [List.flatMap_cons, List.flatMap_cons]
    have e1 : fst1 (hof 0 name value) ++ crlf = pre0 := rfl
    rw [e1]
    simp [end4, crlf]
  rw [e]
  refine par_good (h := hof 0 name value) mget_ok.1 mget_ok.2 (.inl rfl) ⟨⟨⟨a, b, ha, hb, rfl⟩, ho⟩, trivial⟩ (by simp [hof]) hh ?_
  rw [← e]
  simp [pre0, end4]
  omega
theorem bl_bad {name value : List UInt8} (hn : wordL name 64 = true) (hl : name.length + value.length ≤ 4000) : (parH (pre0 ++ name ++ [58, 10] ++ value ++ end4)).2 = 400 := by
  have hc := (word_not hn).1
  have hs : linesB (pre0 ++ name ++ [58, 10] ++ value ++ end4) = [] := by
    unfold linesB
    have e : pre0 ++ name ++ [58, 10] ++ value ++ end4 = fst1 (hof 0 [] []) ++ 13 :: 10 :: (name ++ 58 :: 10 :: (value ++ end4)) := by
      have e1 : pre0 = fst1 (hof 0 [] []) ++ [13, 10] := rfl
      rw [e1]; simp
    rw [e, scan_clean _ _ _ (fst_reads (h := hof 0 [] []) mget_ok.1 mget_ok.2 (.inl rfl)).2.1, List.nil_append, scan_end, if_neg (by simp [fst1, hof, mGet]), scan_clean _ _ _ hc, scan_go _ _ _ (by decide)]
    have : scan false ([] ++ name ++ [58]) (10 :: (value ++ end4)) = none := by rw [scan, if_neg (by decide), if_pos rfl]
    rw [this]
    rfl
  unfold parH
  rw [if_neg (by simp [pre0, end4]; omega), hs]
  rfl
theorem fld_turn (name value : List UInt8) : fldH [(name, value)] (name.map turnB) = (value, 1) := by
  unfold fldH
  rw [vals_cons, turn_same]
  rfl

set_option maxHeartbeats 16000000 in
theorem blanks_law {w : World} (name value : ByteArray) (m n : Int) (hn : name.size ≤ 140737488351232) (hv : value.size ≤ 140737488351232) (hE : Env w) :
    Calls Tryz.prog 7 #[.string name, .string value, .int .i64 m, .int .i64 n] w (Tells w (.bool true)) := by
  have hne : name = bs name.data.toList := bs_eta name
  have hve : value = bs value.data.toList := bs_eta value
  obtain ⟨nm, hnm⟩ : ∃ o, name.data.toList = o := ⟨_, rfl⟩
  obtain ⟨vl, hvl⟩ : ∃ o, value.data.toList = o := ⟨_, rfl⟩
  rw [hnm] at hne
  rw [hvl] at hve
  rw [hne, bs_size] at hn
  rw [hve, bs_size] at hv
  subst hne; subst hve
  clear hnm hvl
  have HAW := Lib.hid (awake_any hE)
  have HEL := Lib.hid (fun (wx : World) (hb : Below w.heap.size w wx) => hE.later hb)
  have HBG := Lib.hid (show Big (hof 0 nm vl) from ⟨by simp [hof, mGet], by simp [hof, tA], fun x hx => by
    simp only [hof, List.mem_singleton] at hx
    subst hx
    exact ⟨hn, hv⟩⟩)
  have HCD := Lib.hid (show chkH (hof 0 nm vl) = if mayH (hof 0 nm vl) = true then 0 else 2 from rfl)
  have HMA := Lib.hid (fun h => mayH_all (h := hof 0 nm vl) h)
  obtain ⟨MH, hMH⟩ : ∃ B, mayH (hof 0 nm vl) = B := ⟨_, rfl⟩
  rw [hMH] at HCD HMA
  clear hE hn hv hMH
  have HB0 := Lib.hid (Below.refl w.heap.size w)
  go_enter Tryz.func7, Tryz.ntmps7
  go_wp2_with fail
  refine (HAW.out).mono ?_; rintro e w1 ⟨rfl, hb⟩
  have HB1 := Lib.hid hb
  clear hb HAW
  go_wp2_with fail
  refine (of_any 0 nm vl w1).mono ?_; rintro e w2 ⟨a2, rfl, ho, hb⟩
  have hal : Below w2.heap.size w2 (w2.alloc (.cells #[.string (bs mGet), .string (bs tA), .int .i64 0, .slice a2 1 1] 24)) := (Below.refl _ _).alloc (Nat.le_refl _) _
  have hxx := cel_new4 w2 (.string (bs mGet)) (.string (bs tA)) (.int .i64 0) (.slice a2 1 1) 24
  have HOW0 := Lib.hid (ho.below hal)
  have HBW0 := Lib.hid (bel_call HB1.out (bel_call hb hal))
  have HXW0 := Lib.hid hxx
  obtain ⟨c0, c1, c2, c3⟩ := hxx.four
  clear ho hb hal hxx
  go_wp2_with fail
  obtain ⟨W, hW⟩ : ∃ W, w2.alloc (.cells #[.string (bs mGet), .string (bs tA), .int .i64 0, .slice a2 1 1] 24) = W := ⟨_, rfl⟩
  obtain ⟨q, hq⟩ : ∃ q, w2.heap.size = q := ⟨_, rfl⟩
  rw [hW] at HOW0 HBW0 HXW0 ⊢
  rw [hq] at HXW0
  have HCK := Lib.hid (check_any (w := W) (h := hof 0 nm vl) ⟨.slice a2 1 1, rfl, HOW0.out.sf (by simp [hof])⟩ (Nat.le_refl _) HBG.out)
  rw [HCD.out] at HCK
  clear c0 c1 c2 c3 hW
  cases MH with
  | false =>
    have HCK2 : Hid (Calls Tryz.prog 15 #[.agg #[.string (bs mGet), .string (bs tA), .int .i64 0, .slice a2 1 1]] W (Tells W (.int .i64 2))) := HCK
    clear HCK
    refine (HCK2.out).mono ?_; rintro e w3 ⟨rfl, hb⟩
    have HB3 := Lib.hid (bel_call HBW0.out hb)
    clear hb
    go_wp2_with fail
    go_ret
    exact ⟨rfl, HB3.out⟩
  | true =>
    have HCK2 : Hid (Calls Tryz.prog 15 #[.agg #[.string (bs mGet), .string (bs tA), .int .i64 0, .slice a2 1 1]] W (Tells W (.int .i64 0))) := HCK
    clear HCK
    refine (HCK2.out).mono ?_; rintro e w3 ⟨rfl, hb⟩
    have HB3 := Lib.hid (bel_call HBW0.out hb)
    have HX3 := Lib.hid (HXW0.out.below (by simp) hb)
    have HO3 := Lib.hid (HOW0.out.below hb)
    clear hb
    by_cases h2 : 2000 < vl.length
    · have t2 : (2000 : Int) < vl.length := by omega
      clear h2
      go_wp2_with fail
      go_ret
      exact ⟨rfl, HB3.out⟩
    · have t2 : ¬ ((2000 : Int) < vl.length) := by omega
      obtain ⟨_, _, _, _, hok, hho, _⟩ := HMA.out rfl
      have hokf : okF (nm, vl) = true := hok _ (by simp [hof])
      have hho : hostL [(nm, vl)] 0 = true := hho
      have hnl : nm.length ≤ 64 := by
        unfold okF wordL at hokf
        simp only [Bool.and_eq_true, decide_eq_true_eq] at hokf
        exact hokf.1.2.1
      have hwn : wordL nm 64 = true := by
        unfold okF at hokf
        exact (Bool.and_eq_true _ _ ▸ hokf).1
      have hvl : vl.length ≤ 2000 := by omega
      have HOK := Lib.hid (And.intro hokf (And.intro hho hwn))
      have HTU := Lib.hid (fun w => turned_any nm (by omega) w)
      have HFT := Lib.hid (fld_turn nm vl)
      obtain ⟨TN, hTN⟩ : ∃ t, nm.map turnB = t := ⟨_, rfl⟩
      rw [hTN] at HTU HFT
      clear hok hho hokf hwn h2 hTN
      have r1 : ∀ w, (Op.stringOp .add (bs nm) ⟨#[58]⟩).run Tryz.prog w = .ok (.string (bs (nm ++ [58]))) w := fun w => adds_run nm [58] (by omega) (by simp) w
      obtain ⟨s1, e1⟩ : ∃ s, nm ++ [58] = s := ⟨_, rfl⟩
      have l1 : s1.length ≤ 65 := by rw [← e1]; simp; omega
      rw [e1] at r1
      go_wp2_with fail
      refine (blanks_any m w3).mono ?_; rintro e w4 ⟨ba, rfl, hba, hla, rfl⟩
      have r2 : ∀ w, (Op.stringOp .add (bs s1) (bs ba)).run Tryz.prog w = .ok (.string (bs (s1 ++ ba))) w := fun w => adds_run s1 ba (by omega) (by omega) w
      obtain ⟨s2, e2⟩ : ∃ s, s1 ++ ba = s := ⟨_, rfl⟩
      have l2 : s2.length ≤ 85 := by rw [← e2]; simp; omega
      rw [e2] at r2
      have r3 : ∀ w, (Op.stringOp .add (bs s2) (bs vl)).run Tryz.prog w = .ok (.string (bs (s2 ++ vl))) w := fun w => adds_run s2 vl (by omega) (by omega) w
      obtain ⟨s3, e3⟩ : ∃ s, s2 ++ vl = s := ⟨_, rfl⟩
      have l3 : s3.length ≤ 2085 := by rw [← e3]; simp; omega
      rw [e3] at r3
      have HBA := Lib.hid hba
      clear hba
      go_wp2_with fail
      refine (blanks_any n w3).mono ?_; rintro e w4 ⟨bb, rfl, hbb, hlb, rfl⟩
      have r4 : ∀ w, (Op.stringOp .add (bs s3) (bs bb)).run Tryz.prog w = .ok (.string (bs (s3 ++ bb))) w := fun w => adds_run s3 bb (by omega) (by omega) w
      obtain ⟨s4, e4⟩ : ∃ s, s3 ++ bb = s := ⟨_, rfl⟩
      have l4 : s4.length ≤ 2105 := by rw [← e4]; simp; omega
      rw [e4] at r4
      have r5 : ∀ w, (Op.stringOp .add ⟨#[71, 69, 84, 32, 47, 97, 32, 72, 84, 84, 80, 47, 49, 46, 48, 13, 10]⟩ (bs s4)).run Tryz.prog w = .ok (.string (bs (pre0 ++ s4))) w := fun w => adds_run pre0 s4 (by decide) (by omega) w
      obtain ⟨s5, e5⟩ : ∃ s, pre0 ++ s4 = s := ⟨_, rfl⟩
      have l5 : s5.length ≤ 2122 := by rw [← e5]; simp [pre0]; omega
      rw [e5] at r5
      have r6 : ∀ w, (Op.stringOp .add (bs s5) ⟨#[13, 10, 13, 10]⟩).run Tryz.prog w = .ok (.string (bs (s5 ++ end4))) w := fun w => adds_run s5 end4 (by omega) (by decide) w
      obtain ⟨s6, e6⟩ : ∃ s, s5 ++ end4 = s := ⟨_, rfl⟩
      have l6 : s6.length ≤ 2126 := by rw [← e6]; simp [end4]; omega
      rw [e6] at r6
      have hpar : parH s6 = (hof 0 nm vl, 200) := by
        have := bl_par HOK.out.1 HOK.out.2.1 HBA.out hbb (by omega)
        rw [← e6, ← e5, ← e4, ← e3, ← e2, ← e1]
        have e7 : pre0 ++ (nm ++ [58] ++ ba ++ vl ++ bb) ++ end4 = pre0 ++ (nm ++ 58 :: (ba ++ vl ++ bb)) ++ end4 := by simp
        rw [e7]; exact this
      obtain ⟨cap, X, hcv, hox, hbx, _⟩ := conv_B w3 s6 (by omega)
      have HP := Lib.hid (parse_any s6 ((hox.sl).wide (Nat.zero_le _) (Nat.le_refl _)) (HEL.out X (bel_call HB3.out hbx)) (by omega))
      unfold HedPost at HP
      rw [hpar] at HP
      have HBX := Lib.hid (bel_call HB3.out hbx)
      have HXX := Lib.hid (HX3.out.below (by simp) hbx)
      have HOX := Lib.hid (HO3.out.below hbx)
      clear hbb e1 e2 e3 e4 e5 e6 l1 l2 l3 l4 l5 hpar hox hbx
      go_wp2_with fail
      refine (HP.out).mono ?_; rintro e w5 ⟨xv, rfl, hox0, hb⟩
      obtain ⟨ax, kx, hxv, hox⟩ := Ho.agg hox0
      have hxv : xv = .agg #[.string (bs mGet), .string (bs tA), .int .i64 0, .slice ax 1 kx] := hxv
      subst hxv
      have hal : Below w5.heap.size w5 (w5.alloc (.cells #[.string (bs mGet), .string (bs tA), .int .i64 0, .slice ax 1 kx] 24)) := (Below.refl _ _).alloc (Nat.le_refl _) _
      have hyy := cel_new4 w5 (.string (bs mGet)) (.string (bs tA)) (.int .i64 0) (.slice ax 1 kx) 24
      have HB6 := Lib.hid (bel_call HBX.out (bel_call hb hal))
      have HX6 := Lib.hid ((HXX.out.below (by simp) hb).below (by simp) hal)
      have HO6 := Lib.hid ((HOX.out.below hb).below hal)
      have HP6 := Lib.hid (show OwnF _ X.heap.size (.slice ax 1 kx) [(nm, vl)] from hox.below hal)
      have HY6 := Lib.hid hyy
      clear hox hox0 hb hal hyy r1 r2 r3 r4 r5 r6 hcv
      go_wp2_with fail
      obtain ⟨W6, hW6⟩ : ∃ W, w5.alloc (.cells #[.string (bs mGet), .string (bs tA), .int .i64 0, .slice ax 1 kx] 24) = W := ⟨_, rfl⟩
      obtain ⟨p, hp⟩ : ∃ p, w5.heap.size = p := ⟨_, rfl⟩
      rw [hW6] at HB6 HX6 HO6 HP6 HY6 ⊢
      rw [hp] at HY6
      have HQ := Lib.hid (show ∀ wx, Below W6.heap.size W6 wx → wx.cell? ⟨p, 0, none⟩ = some (.string (bs mGet)) ∧ wx.cell? ⟨p, 1, none⟩ = some (.string (bs tA)) ∧ wx.cell? ⟨p, 2, none⟩ = some (.int .i64 0) ∧ wx.cell? ⟨p, 3, none⟩ = some (.slice ax 1 kx) from fun wx hb => (HY6.out.below (by simp) hb).four)
      have HD := Lib.hid (Below.refl W6.heap.size W6).drew
      have HT7 := Lib.hid (HTU.out W6.drew)
      have HFD := Lib.hid (fun (wx : World) (hb : Below W6.heap.size W6 wx) => field_any (w := wx) (h := hof 0 nm vl) TN ⟨.slice ax 1 kx, rfl, (HP6.out.below hb).sf (by simp [hof])⟩ (Nat.le_refl _) ⟨by simp [hof], fun x hx => by
        simp only [hof, List.mem_singleton] at hx
        subst hx
        exact ⟨by simp only; omega, by simp only; omega⟩⟩)
      have hfe : fldH (hof 0 nm vl).fs TN = (vl, 1) := HFT.out
      simp only [hfe] at HFD
      rw [hp]
      clear hW6 hfe
      go_region_held3 (fun wx => wx.cell? ⟨p, 0, none⟩ = some (.string (bs mGet)) ∧ wx.cell? ⟨p, 1, none⟩ = some (.string (bs tA)) ∧ wx.cell? ⟨p, 2, none⟩ = some (.int .i64 0) ∧ wx.cell? ⟨p, 3, none⟩ = some (.slice ax 1 kx)) (first | exact HQ.out _ HD.out | exact HQ.out _ HD7.out | exact HQ.out _ HD8.out) (first
        | (go_at_call 29; refine (HT7.out).mono ?_; rintro e w7 ⟨rfl, hb7⟩; have HD7 : Hid (Below W6.heap.size W6 w7) := bel_call HD.out hb7; clear hb7)
        | (go_at_call 19; refine (HFD.out _ HD7.out).mono ?_; rintro e w8 ⟨rfl, hb8⟩; have HD8 : Hid (Below W6.heap.size W6 w8) := bel_call HD7.out hb8; clear hb8))
      have HB8 := Lib.hid (bel_call HB6.out HD8.out)
      obtain ⟨d0, d1, d2, d3⟩ := HQ.out _ HD8.out
      obtain ⟨c0, c1, c2, c3⟩ := (HX6.out.below (by simp) HD8.out).four
      have HSA := Lib.hid (sameH_yes (w := w8) (h := hof 0 nm vl) ⟨.slice ax 1 kx, rfl, (HP6.out.below HD8.out).sf (by simp [hof])⟩ ⟨.slice a2 1 1, rfl, (HO6.out.below HD8.out).sf (by simp [hof])⟩ (Nat.le_refl _) (Nat.le_refl _))
      have r1 : ∀ w, (Op.stringOp .add ⟨#[71, 69, 84, 32, 47, 97, 32, 72, 84, 84, 80, 47, 49, 46, 48, 13, 10]⟩ (bs nm)).run Tryz.prog w = .ok (.string (bs (pre0 ++ nm))) w := fun w => adds_run pre0 nm (by decide) (by omega) w
      obtain ⟨s1, e1⟩ : ∃ s, pre0 ++ nm = s := ⟨_, rfl⟩
      have l1 : s1.length ≤ 81 := by rw [← e1]; simp [pre0]; omega
      rw [e1] at r1
      have r2 : ∀ w, (Op.stringOp .add (bs s1) ⟨#[58, 10]⟩).run Tryz.prog w = .ok (.string (bs (s1 ++ [58, 10]))) w := fun w => adds_run s1 [58, 10] (by omega) (by simp) w
      obtain ⟨s2, e2⟩ : ∃ s, s1 ++ [58, 10] = s := ⟨_, rfl⟩
      have l2 : s2.length ≤ 83 := by rw [← e2]; simp; omega
      rw [e2] at r2
      have r3 : ∀ w, (Op.stringOp .add (bs s2) (bs vl)).run Tryz.prog w = .ok (.string (bs (s2 ++ vl))) w := fun w => adds_run s2 vl (by omega) (by omega) w
      obtain ⟨s3, e3⟩ : ∃ s, s2 ++ vl = s := ⟨_, rfl⟩
      have l3 : s3.length ≤ 2083 := by rw [← e3]; simp; omega
      rw [e3] at r3
      have r4 : ∀ w, (Op.stringOp .add (bs s3) ⟨#[13, 10, 13, 10]⟩).run Tryz.prog w = .ok (.string (bs (s3 ++ end4))) w := fun w => adds_run s3 end4 (by omega) (by decide) w
      obtain ⟨s4, e4⟩ : ∃ s, s3 ++ end4 = s := ⟨_, rfl⟩
      have l4 : s4.length ≤ 2087 := by rw [← e4]; simp [end4]; omega
      rw [e4] at r4
      have hbad : (parH s4).2 = 400 := by
        rw [← e4, ← e3, ← e2, ← e1]
        exact bl_bad HOK.out.2.2 (by omega)
      have HST := Lib.hid (fun (wx : World) (hb : Below w.heap.size w wx) => status_is s4 400 hbad (by omega) (HEL.out wx hb))
      clear e1 e2 e3 e4 l1 l2 l3 hbad
      go_wp2_with fail
      refine (HSA.out).mono ?_; rintro e w9 ⟨rfl, hb⟩
      have HB9 := Lib.hid (bel_call HB8.out hb)
      clear hb c0 c1 c2 c3 d0 d1 d2 d3
      go_wp2_with fail
      refine (HST.out _ HB9.out).mono ?_; rintro e w10 ⟨rfl, hb⟩
      have HB10 := Lib.hid (bel_call HB9.out hb)
      clear hb
      go_wp2_with fail
      go_ret
      exact ⟨rfl, HB10.out⟩
end Go.Proofs.YtknfgcmidpgifaaGreatDoor
