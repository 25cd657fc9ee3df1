/-
  Text.
-/
import Derived.Test.YtibaeklpgfadpaaWb
import Derived.Test.YtibaeklpgfadpaaTe
import Derived.Test.YtibaeklpgfadpaaTt
namespace Go.Proofs.Ytibaeklpgfadpaa
open Go.RowKit Go.Shelf
set_option linter.unusedVariables false
set_option linter.unusedSimpArgs false
attribute [local go_sem] Oper.semAt_some

/-- A label as it is written, and labels. -/
def tx1 (x : List UInt8) : List UInt8 := x.flatMap esc ++ [46]
def tx (l : List (List UInt8)) : List UInt8 := l.flatMap tx1

theorem flat_len (x : List UInt8) : (x.flatMap esc).length ≤ 4 * x.length := by
  induction x with
  | nil => simp
  | cons c r ih =>
    have := esc_len c
    simp only [List.flatMap_cons, List.length_append, List.length_cons]
    omega
theorem tx_len (l : List (List UInt8)) : (tx l).length ≤ 4 * (wire l).length := by
  induction l with
  | nil => simp [tx]
  | cons x r ih =>
    have := flat_len x
    unfold tx at ih ⊢
    simp only [List.flatMap_cons, List.length_append, tx1, wire, List.length_cons, List.cons_append, List.length_nil]
    omega
theorem tx_snoc (l : List (List UInt8)) (x : List UInt8) : tx (l ++ [x]) = tx l ++ tx1 x := by simp [tx]

/-- A name's text, and the error. -/
def txt (n : List UInt8) : List UInt8 := if chk n = 0 then (if n = [0] then [46] else tx (labs n)) else []

theorem text_wrong (n : List UInt8) (hn : n.length ≤ 1000000) (h : chk n ≠ 0) (w : World) : Calls Try.prog 32 #[.string (bs n)] w (Tells w (.tuple #[.string (bs []), .int .i64 (chk n)])) := by
  have HC := Lib.hid (check_any n hn)
  obtain ⟨c, hc⟩ : ∃ c, chk n = c := ⟨_, rfl⟩
  rw [hc] at HC h ⊢
  have t1 : (c == 0) = false := by simpa using h
  clear hc h
  go_enter Try.func32, Try.ntmps32
  go_wp2_with fail
  refine (HC.out _).mono ?_; rintro e w1 ⟨rfl, hb⟩; have HB := Lib.hid hb; clear hb
  go_wp2_with fail
  go_ret2
  exact ⟨rfl, HB.out⟩

theorem text_root (w : World) : Calls Try.prog 32 #[.string (bs [0])] w (Tells w (.tuple #[.string (bs [46]), .int .i64 0])) := by
  have HC := Lib.hid (check_any [0] (by simp))
  have hc : chk [0] = 0 := chk_of_wire [] (by simp) (by simp [wire])
  rw [hc] at HC
  have t2 : ((bs [0]).toList == [0]) = true := by rw [bs_toList]; rfl
  clear hc
  go_enter Try.func32, Try.ntmps32
  go_wp2_with fail
  refine (HC.out _).mono ?_; rintro e w1 ⟨rfl, hb⟩; have HB := Lib.hid hb; clear hb
  go_wp2_with fail
  go_ret2
  exact ⟨rfl, HB.out⟩

set_option maxHeartbeats 2000000 in
theorem text_fine (n : List UInt8) (h : chk n = 0) (h0 : n ≠ [0]) (w : World) : Calls Try.prog 32 #[.string (bs n)] w (Tells w (.tuple #[.string (bs (tx (labs n))), .int .i64 0])) := by
  have hn := (chk_ok h).2
  have hwl := chk_wire_len h
  have HC := Lib.hid (check_any n (by omega))
  rw [h] at HC
  have t2 : ((bs n).toList == [0]) = false := by rw [bs_toList]; simpa using h0
  clear h h0
  refine calls_of_wp_marks Try.func32 rfl ?_
  simp only [Try.ntmps32, List.size_toArray, List.length_cons, List.length_nil, Nat.reduceAdd, Nat.reduceSub, Array.replicate_succ,
     Array.replicate_zero, List.push_toArray, List.append_toArray, List.nil_append, List.cons_append]
  go_wp2_with (first | (go_at_call 16; refine (HC.out _).mono ?_; rintro e w1 ⟨rfl, hb⟩; have HB := Lib.hid hb; clear hb) | (go_at_call 36; refine (labels_any _ _).mono ?_; rintro e w' ⟨rfl, rfl⟩))
  apply wp_rangeFunc_T (D := w1.heap.size + 2) (hD := by simp) (K := fun b => b = w1.heap.size + 1) (G := fun _ => False) (M := fun b => b = w1.heap.size ∨ w1.heap.size + 4 ≤ b) (fin := none) (hg := rfl) (eg := enters_of Try.func50 (by kernel_rfl) rfl) (hseq := labels1_seq n _ (by omega))
      (I := fun k W => Bd W (w1.heap.size + 4) w1.heap.size (tx ((labs n).take k)) ∧ Below w1.heap.size w1 W) (Ix := fun _ _ _ => False)
  case hassign =>
    intro l x W K hK
    gi_wp2
    exact hK
  case hSt => simp [go_sem]
  case hStK => exact fun A B h hk _ => (World.cell?_of_block (hk _ rfl)).trans h
  case hK => intro b hb; omega
  case hM => intro b hb; omega
  case hGK => exact fun _ h => h.elim
  case hps => rfl
  case hI =>
    rintro k A B ⟨h1, h3⟩ ha
    exact ⟨h1.aside ha (by simp; omega) (fun b hb => by simp; omega), below_aside h3 ha fun b hb => ⟨Nat.lt_of_lt_of_le hb h3.size, by simp; omega⟩⟩
  case hIx => exact fun _ _ _ _ h _ => h
  case h0 =>
    refine ⟨.inl ⟨.slice none 0 0, ?_, by rw [List.take_zero]; exact OwnU.nil _ _, by omega⟩, ((Below.refl _ _).alloc (Nat.le_refl _) _).alloc (by simp) _⟩
    show ((w1.heap.push _).push _)[w1.heap.size]? = _
    simp [Array.getElem?_push]
  case hstop => exact fun _ _ _ _ h => h.elim
  case hpanic => exact fun _ h => by cases h
  case hbody =>
    rintro l k x W hx hs ⟨hbd, hb⟩
    rw [List.getElem?_map] at hx
    obtain ⟨y, hy, rfl⟩ := Option.map_eq_some_iff.mp hx
    have hy63 := (labs_short n y (List.mem_of_getElem? hy)).2
    have e : (labs n).take (k + 1) = (labs n).take k ++ [y] := by rw [List.take_add_one, hy]; rfl
    have hpl : (tx ((labs n).take k)).length ≤ 4 * 254 := by
      have h1 := tx_len ((labs n).take k)
      have h2 := wire_take_le (labs n) k
      omega
    have he : tx ((labs n).take (k + 1)) = tx ((labs n).take k) ++ tx1 y := by rw [e, tx_snoc]
    obtain ⟨P, hP⟩ : ∃ P, tx ((labs n).take k) = P := ⟨_, rfl⟩
    rw [hP] at hbd hpl he
    have HE := Lib.hid he
    have HBD := Lib.hid hbd
    have HB2 := Lib.hid hb
    clear hx hy e he hP hbd hb HB HC
    gi_wp2
    gi_loopw [20] (fun i wr => ∃ j : Nat, i = .int .i64 j ∧ j ≤ y.length ∧ Hid (Bd wr (w1.heap.size + 4) w1.heap.size (P ++ (y.take j).flatMap esc)) ∧ Hid (Aside (fun b => b = w1.heap.size ∨ w1.heap.size + 4 ≤ b) W wr)) (fun i _ => y.length - (intOf i).toNat)
    case atStart => exact ⟨0, rfl, by omega, by simpa using HBD, Aside.refl _ _⟩
    case round =>
      obtain ⟨j, rfl, hj, HJ, HA⟩ := hrel
      by_cases hlt : j < y.length
      · have t3 : decide ((j : Int) < y.length) = true := by simp; omega
        have hix := fun w => ix_run y j hlt w
        have hst : (y.take (j + 1)).flatMap esc = (y.take j).flatMap esc ++ esc y[j] := by
          rw [← List.take_append_getElem hlt, List.flatMap_append]
          simp only [List.flatMap_cons, List.flatMap_nil, List.append_nil]
        have hfl := flat_len (y.take j)
        have htl : (y.take j).length ≤ 63 := by rw [List.length_take]; omega
        obtain ⟨c, hc⟩ : ∃ c, y[j] = c := ⟨_, rfl⟩
        rw [hc] at hix hst
        have hsz : w1.heap.size + 4 ≤ wr.heap.size := by have := HA.out.size; omega
        have HT := Lib.hid (tell_any c HJ.out (by rw [List.length_append]; omega) hsz)
        have HST := Lib.hid hst
        clear hst hfl htl hc hsz
        gi_wp2_with fail
        refine ⟨trivial, rfl, ?_⟩
        refine (CallsIn.inRound l (callsIn_wide.2 HT.out)).mono ?_
        rintro e w2 ⟨rfl, hp, ha2⟩
        have HP2 : Hid (Bd w2 (w1.heap.size + 4) w1.heap.size (P ++ (y.take (j + 1)).flatMap esc)) := by rw [HST.out, ← List.append_assoc]; exact .inr hp
        have HA2 := Lib.hid (HA.out.trans ha2)
        clear hp ha2
        gi_wp2_with fail
        refine ⟨⟨j + 1, rfl, by omega, HP2, HA2⟩, ?_⟩
        simp [intOf]
        omega
      · have t3 : decide ((j : Int) < y.length) = false := by simp; omega
        have hjy : j = y.length := by omega
        have hJ := HJ.out
        rw [hjy, List.take_length] at hJ
        have hfl := flat_len y
        have hsz : w1.heap.size + 4 ≤ wr.heap.size := by have := HA.out.size; omega
        have HT := Lib.hid (writeByte_any 46 hJ (by rw [List.length_append]; omega) hsz)
        clear hJ hfl hjy hsz
        gi_wp2_with fail
        refine ⟨trivial, rfl, ?_⟩
        refine (CallsIn.inRound l (callsIn_wide.2 HT.out)).mono ?_
        rintro e w2 ⟨rfl, hp, ha2⟩
        have HP2 : Hid (Bd w2 (w1.heap.size + 4) w1.heap.size (tx ((labs n).take (k + 1)))) := by rw [HE.out, tx1, ← List.append_assoc]; exact .inr hp
        have HA2 := Lib.hid (HA.out.trans ha2)
        clear hp ha2
        gi_wp2_with fail
        exact ⟨HA2.out, HP2.out, below_aside HB2.out HA2.out fun b hb => ⟨Nat.lt_of_lt_of_le hb HB2.out.size, by omega⟩⟩
  case hdone =>
    rintro _ W ⟨hbd, hb⟩ hsz hD
    rw [List.length_map, List.take_length] at hbd
    have hBF : Lib.IsBuilderF 60 5 w1.heap.size w1.heap.size (Lib.byteCells (tx (labs n))) W := by
      have key : ∀ p, Bp W (w1.heap.size + 4) w1.heap.size p (tx (labs n)) → Lib.BuilderAtF 60 5 w1.heap.size w1.heap.size p (Lib.byteCells (tx (labs n))) W := by
        rintro p ⟨v, h1, h2, h3⟩
        have h4 := h2.mono (B' := w1.heap.size) (by omega)
        have h5 : W.ownsRowF w1.heap.size 5 1 v (Lib.byteCells (tx (labs n))).length (Lib.byteCells (tx (labs n))) := by rw [Lib.byteCells_length]; exact h4
        refine ⟨Nat.le_refl _, v, h1, h5, fun e => ?_⟩
        have := h2.row _ e
        omega
      exact hbd.elim (fun h => .inl (key _ h)) (fun h => .inr (key _ h))
    have HS := Lib.hid (Try.Builder_String_any_k w1.heap.size w1.heap.size (tx (labs n)) W hBF (by omega))
    have HBW := Lib.hid (HB.out.trans (hb.mono HB.out.size))
    clear hbd hBF hb
    go_wp2_with fail
    refine HS.out.mono ?_
    rintro e w2 ⟨rfl, _, hb2, hk2⟩
    have hD2 := hk2 _ _ hD (by simp) (by simp)
    have HD2 := Lib.hid hD2
    have HB2 := Lib.hid (HBW.out.trans (hb2.mono HB.out.size))
    clear hb2 hk2 hD hD2
    go_wp2_with fail
    refine marks_ret HD2.out (.tuple #[.string (bs (tx (labs n))), .int .i64 0]) (by simp [results, Try.results32, go_sem]; rfl) ⟨rfl, ?_⟩
    exact below_putObj HB2.out (by have := HB.out.size; omega)
end Go.Proofs.Ytibaeklpgfadpaa
