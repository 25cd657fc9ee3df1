/-
  join, over whatever iterator.
-/
import Derived.Test.YtibaeklpgfadpaaTi
namespace Go.Proofs.Ytibaeklpgfadpaa
open Go.RowKit Go.Shelf
set_option linter.unusedVariables false
attribute [local go_sem] Oper.semAt_some

/-- The first label's error. -/
def jerr : List (List UInt8) → Int
  | [] => 0
  | x :: r => if x = [] then 2 else if 63 < x.length then 3 else jerr r

theorem jerr_app (a b : List (List UInt8)) : jerr (a ++ b) = if jerr a = 0 then jerr b else jerr a := by
  induction a with
  | nil => simp [jerr]
  | cons x r ih =>
    simp only [List.cons_append, jerr]
    split
    · simp
    · split
      · simp
      · exact ih

theorem jerr_cases (l : List (List UInt8)) : jerr l = 0 ∨ jerr l = 2 ∨ jerr l = 3 := by
  induction l with
  | nil => simp [jerr]
  | cons x r ih =>
    simp only [jerr]
    split
    · simp
    · split
      · simp
      · exact ih

/-- The name of labels, and the error. -/
def jname (l : List (List UInt8)) : List UInt8 := if jerr l = 0 ∧ (wire l).length ≤ 254 then wire l ++ [0] else []
def jcode (l : List (List UInt8)) : Int := if jerr l = 0 then (if (wire l).length ≤ 254 then 0 else 3) else jerr l

/-- How join ends. -/
def JoinPost (G : Nat → Prop) (w : World) (l : List (List UInt8)) (fin : Option (List PanicEntry)) (e : Ending) (w' : World) : Prop :=
  Aside G w w' ∧ ((jerr l = 0 ∧ ∃ ch, fin = some ch ∧ e = .panicked ch) ∨ ((jerr l = 0 → fin = none) ∧ e = .returned (.tuple #[.string (bs (jname l)), .int .i64 (jcode l)])))

theorem wire_take_le (l : List (List UInt8)) (k : Nat) : (wire (l.take k)).length ≤ (wire l).length := by
  have h2 : wire (l.take k) ++ wire (l.drop k) = wire l := by rw [← wire_app, List.take_append_drop]
  have h3 := congrArg List.length h2
  rw [List.length_append] at h3
  omega

/-- What one good label does to join's bytes. -/
theorem join_step {W : World} {b B : Nat} {v : Value} {P x : List UInt8} (hx : Bx W b v) (ho : OwnU W B v P) (hbB : b < B) (hB : B ≤ W.heap.size) (h63 : x.length ≤ 63) (hl : P.length + (1 + x.length) ≤ 1000000) :
    ∃ a1 c1 W2 a2 c2 W4, (Builtin.append_ #[54, 54] 54 #[v, .slice (some ⟨W.heap.size, 0, none⟩) 1 1]).run Try.prog (W.alloc (.cells #[.int .u8 (x.length : Int)] 5)) = .ok (.slice a1 (P.length + 1) c1) W2 ∧
      Bx W2 b v ∧ (Builtin.append_ #[54, 9] 54 #[.slice a1 (P.length + 1) c1, .string (bs x)]).run Try.prog (W2.setCell ⟨b, 0, none⟩ (.slice a1 (P.length + 1) c1)) = .ok (.slice a2 (P.length + 1 + x.length) c2) W4 ∧
      Bx W4 b (.slice a1 (P.length + 1) c1) ∧ Aside (fun k => k = b ∨ B ≤ k) W (W4.setCell ⟨b, 0, none⟩ (.slice a2 (P.length + 1 + x.length) c2)) ∧
      Bx (W4.setCell ⟨b, 0, none⟩ (.slice a2 (P.length + 1 + x.length) c2)) b (.slice a2 (P.length + 1 + x.length) c2) ∧
      OwnU (W4.setCell ⟨b, 0, none⟩ (.slice a2 (P.length + 1 + x.length) c2)) B (.slice a2 (P.length + 1 + x.length) c2) (P ++ (UInt8.ofNat x.length :: x)) := by
  have h8 : (UInt8.ofNat x.length).toNat = x.length := by rw [UInt8.toNat_ofNat']; omega
  have ha1 : Aside (fun k => k = b ∨ B ≤ k) W (W.alloc (.cells #[.int .u8 (x.length : Int)] 5)) := Aside.alloc _ _
  have ho1 := ho.below ((Below.refl _ W).alloc (Nat.le_refl _) (.cells #[.int .u8 (x.length : Int)] 5))
  obtain ⟨a1, c1, W2, hr1, ho2, hg1⟩ := run_appU (w := W.alloc (.cells #[.int .u8 (x.length : Int)] 5)) B v P [UInt8.ofNat x.length] W.heap.size 1 ho1 (fun j hj => by
    obtain rfl : j = 0 := by simpa using hj
    simp only [List.getD_cons_zero, h8]
    simp [go_sem]) (by simp; omega) (by simp; omega)
  have hA1 : Aside (fun k => B ≤ k) (W.alloc (.cells #[.int .u8 (x.length : Int)] 5)) W2 := Aside.grown hg1 fun k hk => ho1.row k hk
  have hx2 : Bx W2 b v := (hx.aside (G := fun _ => False) (Aside.alloc _ _) (fun h => h)).aside hA1 (by omega)
  have ho3 := ho2.setCell (p := ⟨b, 0, none⟩) hbB (.slice a1 (P.length + [UInt8.ofNat x.length].length) c1)
  obtain ⟨a2, c2, W4, hr2, ho4, hg2⟩ := run_appS (w := W2.setCell ⟨b, 0, none⟩ (.slice a1 (P.length + [UInt8.ofNat x.length].length) c1)) B _ _ x ho3 (by simp; omega) (by have := hA1.size; simp [World.setCell] at this ⊢; omega)
  have hA2 : Aside (fun k => B ≤ k) (W2.setCell ⟨b, 0, none⟩ (.slice a1 (P.length + [UInt8.ofNat x.length].length) c1)) W4 := Aside.grown hg2 fun k hk => ho3.row k hk
  have hx4 := (hx2.set (.slice a1 (P.length + [UInt8.ofNat x.length].length) c1)).aside hA2 (by omega)
  have hA : Aside (fun k => k = b ∨ B ≤ k) W W4 := ((ha1.trans (hA1.mono fun _ _ h => .inr h)).trans (Aside.setCell _ _ (.inl rfl))).trans (hA2.mono fun _ _ h => .inr h)
  have e1 : (P ++ [UInt8.ofNat x.length]).length = P.length + 1 := by simp
  have e2 : P ++ [UInt8.ofNat x.length] ++ x = P ++ (UInt8.ofNat x.length :: x) := by simp
  simp only [List.length_singleton] at hr1 hr2 ho4 hx4
  rw [e1] at hr2 ho4
  rw [e2] at ho4
  exact ⟨a1, c1, W2, a2, c2, W4, hr1, hx2, hr2, hx4, hA.trans (Aside.setCell _ _ (.inl rfl)), hx4.set _, ho4.setCell hbB _⟩

set_option maxHeartbeats 2000000 in
theorem join_any {gf : Nat} {lb : Array Value} {K G : Nat → Prop} {l : List (List UInt8)} {fin : Option (List PanicEntry)} {S : World → Prop} {w : World}
    (eg : ∀ args w, (callFunc gf args).run Try.prog w = .ok (.enter gf args) w) (hseq : SeqT Try.prog gf lb K G (l.map bs) fin S) (hS : ∀ A, Below w.heap.size w A → S A)
    (hSK : ∀ A B, S A → (∀ b, K b → B.heap[b]? = A.heap[b]?) → A.heap.size ≤ B.heap.size → S B) (hK : ∀ b, K b → b < w.heap.size) (hGK : ∀ b, G b → K b) (hl : (wire l).length ≤ 900000) :
    Calls Try.prog 38 #[.func (.func gf) #[] lb] w (JoinPost G w l fin) := by
  refine calls_of_wp_marks Try.func38 rfl ?_
  simp only [Try.ntmps38, List.size_toArray, List.length_cons, List.length_nil, Nat.reduceAdd, Nat.reduceSub, Array.replicate_succ,
     Array.replicate_zero, List.push_toArray, List.append_toArray, List.nil_append, List.cons_append]
  go_wp2
  apply wp_rangeFunc_T (D := w.heap.size + 3) (hD := by simp) (K := K) (G := G) (M := fun b => w.heap.size ≤ b ∧ b ≠ w.heap.size + 3 ∧ b ≠ w.heap.size + 4) (fin := fin) (hg := rfl) (eg := eg) (hseq := hseq)
    (I := fun k W => Bx W w.heap.size (.string ⟨#[]⟩) ∧ Bx W (w.heap.size + 1) (.int .i64 0) ∧ (∃ v, Bx W (w.heap.size + 1 + 1) v ∧ OwnU W (w.heap.size + 5) v (wire (l.take k))) ∧ Aside G w W ∧ jerr (l.take k) = 0)
    (Ix := fun c k W => c = .ret ∧ Bx W w.heap.size (.string ⟨#[]⟩) ∧ Bx W (w.heap.size + 1) (.int .i64 (jerr l)) ∧ Aside G w W ∧ jerr l ≠ 0)
  case hassign =>
    intro l x W K hK
    gi_wp2
    exact hK
  case hSt => exact hS _ ((((Below.refl _ w).alloc (Nat.le_refl _) _).alloc (by simp) _).alloc (by simp; omega) _)
  case hStK => exact hSK
  case hK => intro b hb; have := hK b hb; omega
  case hM => intro b hb; exact ⟨fun h => by have := hK b h; omega, by omega, by omega⟩
  case hGK => exact hGK
  case hps => rfl
  case hI =>
    rintro k A B ⟨h1, h2, ⟨v, h3, h4⟩, h5, h6⟩ ha
    have hg : ∀ b, w.heap.size ≤ b → b ≠ w.heap.size + 3 → b ≠ w.heap.size + 4 → ¬ (G b ∨ b = w.heap.size + 3 ∨ b = w.heap.size + 3 + 1) := fun b h1 h2 h3 h => by
      rcases h with h | h | h
      · have := hK b (hGK b h); omega
      · omega
      · omega
    refine ⟨h1.aside ha (hg _ (by omega) (by omega) (by omega)), h2.aside ha (hg _ (by omega) (by omega) (by omega)), ⟨v, h3.aside ha (hg _ (by omega) (by omega) (by omega)), h4.aside ha (fun b hb => hg b (by omega) (by omega) (by omega))⟩, ?_, h6⟩
    exact ⟨ha.os.trans h5.os, ha.tape.trans h5.tape, ha.output.trans h5.output, Nat.le_trans h5.size ha.size, fun b hb hgb => (ha.block b (Nat.lt_of_lt_of_le hb h5.size) (fun h => by rcases h with h | h | h; exact hgb h; omega; omega)).trans (h5.block b hb hgb)⟩
  case hIx =>
    rintro c k A B ⟨h0, h1, h2, h5, h6⟩ ha
    have hg : ∀ b, w.heap.size ≤ b → b ≠ w.heap.size + 3 → b ≠ w.heap.size + 4 → ¬ (G b ∨ b = w.heap.size + 3 ∨ b = w.heap.size + 3 + 1) := fun b h1 h2 h3 h => by
      rcases h with h | h | h
      · have := hK b (hGK b h); omega
      · omega
      · omega
    refine ⟨h0, h1.aside ha (hg _ (by omega) (by omega) (by omega)), h2.aside ha (hg _ (by omega) (by omega) (by omega)), ?_, h6⟩
    exact ⟨ha.os.trans h5.os, ha.tape.trans h5.tape, ha.output.trans h5.output, Nat.le_trans h5.size ha.size, fun b hb hgb => (ha.block b (Nat.lt_of_lt_of_le hb h5.size) (fun h => by rcases h with h | h | h; exact hgb h; omega; omega)).trans (h5.block b hb hgb)⟩
  case h0 =>
    refine ⟨⟨by simp [go_sem], by simp [go_sem]⟩, ⟨by simp [go_sem], by simp [go_sem]⟩, ⟨.slice none 0 0, ⟨by simp [go_sem], by simp [go_sem]⟩, OwnU.nil _ _⟩, ((Aside.alloc _ _).trans (Aside.alloc _ _)).trans (Aside.alloc _ _), rfl⟩
  case hbody =>
    rintro i k x W hx hs ⟨h2, h3, ⟨v, h4, ho⟩, ha, hj⟩
    rw [List.getElem?_map] at hx
    obtain ⟨y, hy, rfl⟩ := Option.map_eq_some_iff.mp hx
    have e : l.take (k + 1) = l.take k ++ [y] := by rw [List.take_add_one, hy]; rfl
    have hle := wire_take_le l (k + 1)
    rw [e, wire_snoc] at hle
    have hspl : l = l.take k ++ (y :: l.drop (k + 1)) := by
      have hk := (List.getElem?_eq_some_iff.mp hy)
      rw [← hk.2, ← List.drop_eq_getElem_cons, List.take_append_drop]
    have hjl : jerr l = jerr (y :: l.drop (k + 1)) := by
      conv => lhs; rw [hspl]
      rw [jerr_app, if_pos hj]
    have key : ∀ c : Int, jerr l = c → c ≠ 0 → Hid (Aside (fun b => w.heap.size ≤ b ∧ b ≠ w.heap.size + 3 ∧ b ≠ w.heap.size + 4) W ((W.setCell ⟨w.heap.size, 0, none⟩ (.string ⟨#[]⟩)).setCell ⟨w.heap.size + 1, 0, none⟩ (.int .i64 c)) ∧ Bx ((W.setCell ⟨w.heap.size, 0, none⟩ (.string ⟨#[]⟩)).setCell ⟨w.heap.size + 1, 0, none⟩ (.int .i64 c)) w.heap.size (.string ⟨#[]⟩) ∧ Bx ((W.setCell ⟨w.heap.size, 0, none⟩ (.string ⟨#[]⟩)).setCell ⟨w.heap.size + 1, 0, none⟩ (.int .i64 c)) (w.heap.size + 1) (.int .i64 (jerr l)) ∧ Aside G w ((W.setCell ⟨w.heap.size, 0, none⟩ (.string ⟨#[]⟩)).setCell ⟨w.heap.size + 1, 0, none⟩ (.int .i64 c)) ∧ jerr l ≠ 0) := by
      intro c hc hc0
      have ha2 : Aside (fun b => w.heap.size ≤ b ∧ b ≠ w.heap.size + 3 ∧ b ≠ w.heap.size + 4) W ((W.setCell ⟨w.heap.size, 0, none⟩ (.string ⟨#[]⟩)).setCell ⟨w.heap.size + 1, 0, none⟩ (.int .i64 c)) := (Aside.setCell _ _ (by simp)).trans (Aside.setCell _ _ (by simp))
      refine ⟨ha2, (h2.set _).aside (G := fun b => b = w.heap.size + 1) (Aside.setCell _ _ rfl) (by simp), ?_, ?_, by rw [hc]; exact hc0⟩
      · rw [hc]
        exact (h3.aside (G := fun b => b = w.heap.size) (Aside.setCell _ _ rfl) (by simp)).set _
      · exact ⟨ha2.os.trans ha.os, ha2.tape.trans ha.tape, ha2.output.trans ha.output, Nat.le_trans ha.size ha2.size, fun b hb hgb => (ha2.block b (Nat.lt_of_lt_of_le hb ha.size) (by omega)).trans (ha.block b hb hgb)⟩
    have hc3 := ((h3.aside (G := fun b => b = w.heap.size) (Aside.setCell W (p := ⟨w.heap.size, 0, none⟩) (.string ⟨#[]⟩) rfl) (by simp)))
    by_cases hy0 : y = []
    · have HI := key 2 (by rw [hjl, jerr, if_pos hy0]) (by decide)
      subst hy0
      obtain ⟨hc3, hf3⟩ := hc3
      obtain ⟨hc2, hf2⟩ := h2
      have ht : (bs []).toList = [] := bs_toList []
      clear hjl hspl hle e hy hx ha hj ho h4 h3 key
      gi_wp2
      exact ⟨HI.out.1, rfl, HI.out.2⟩
    · have ht : (bs y).toList.isEmpty = false := by rw [bs_toList]; simpa using hy0
      by_cases hy3 : 63 < y.length
      · have HI := key 3 (by rw [hjl, jerr, if_neg hy0, if_pos hy3]) (by decide)
        obtain ⟨hc3, hf3⟩ := hc3
        obtain ⟨hc2, hf2⟩ := h2
        have t3 : decide ((63 : Int) < y.length) = true := by simp; omega
        clear hjl hspl hle e hy hx ha hj ho h4 h3 key
        gi_wp2
        exact ⟨HI.out.1, rfl, HI.out.2⟩
      · have t3 : decide ((63 : Int) < y.length) = false := by simp; omega
        obtain ⟨a1, c1, W2, a2, c2, W4, hr1, hx2, hr2, hx4, hA, hbx, hou⟩ := join_step (W := W) (x := y) (b := w.heap.size + 1 + 1) (B := w.heap.size + 5) h4 ho (by omega) hs (by omega) (by omega)
        have hj2 : jerr (l.take (k + 1)) = 0 := by rw [e, jerr_app, if_pos hj, jerr, if_neg hy0, if_neg hy3]; rfl
        have hw : wire (l.take (k + 1)) = wire (l.take k) ++ (UInt8.ofNat y.length :: y) := by rw [e, wire_app]; simp [wire]
        rw [← hw] at hou
        obtain ⟨P, hP⟩ : ∃ P, wire (l.take k) = P := ⟨_, rfl⟩
        rw [hP] at hr1 hr2 hx4 hA hbx hou
        have HR1 := Lib.hid hr1
        have HR2 := Lib.hid hr2
        have HI := Lib.hid (show Aside (fun b => w.heap.size ≤ b ∧ b ≠ w.heap.size + 3 ∧ b ≠ w.heap.size + 4) W (W4.setCell ⟨w.heap.size + 1 + 1, 0, none⟩ (.slice a2 (P.length + 1 + y.length) c2)) ∧ Bx (W4.setCell ⟨w.heap.size + 1 + 1, 0, none⟩ (.slice a2 (P.length + 1 + y.length) c2)) w.heap.size (.string ⟨#[]⟩) ∧ Bx (W4.setCell ⟨w.heap.size + 1 + 1, 0, none⟩ (.slice a2 (P.length + 1 + y.length) c2)) (w.heap.size + 1) (.int .i64 0) ∧ (∃ v, Bx (W4.setCell ⟨w.heap.size + 1 + 1, 0, none⟩ (.slice a2 (P.length + 1 + y.length) c2)) (w.heap.size + 1 + 1) v ∧ OwnU (W4.setCell ⟨w.heap.size + 1 + 1, 0, none⟩ (.slice a2 (P.length + 1 + y.length) c2)) (w.heap.size + 5) v (wire (l.take (k + 1)))) ∧ Aside G w (W4.setCell ⟨w.heap.size + 1 + 1, 0, none⟩ (.slice a2 (P.length + 1 + y.length) c2)) ∧ jerr (l.take (k + 1)) = 0 from
          ⟨hA.mono fun b _ hb => by omega, h2.aside hA (by omega), h3.aside hA (by omega), ⟨_, hbx, hou⟩, ⟨hA.os.trans ha.os, hA.tape.trans ha.tape, hA.output.trans ha.output, Nat.le_trans ha.size hA.size, fun b hb hgb => (hA.block b (Nat.lt_of_lt_of_le hb ha.size) (by omega)).trans (ha.block b hb hgb)⟩, hj2⟩)
        obtain ⟨hc2, hf2⟩ := hx2
        obtain ⟨hc4, hf4⟩ := hx4
        obtain ⟨hcv, hfv⟩ := h4
        have hn : y.length ≤ 255 := by omega
        clear hjl hspl hle e hy hx ha hj ho h3 key hr1 hr2 hA hbx hou hj2 hw hP h2 hc3
        gi_wp2_with (first | (gi_at_builtin; refine wpListIn_append_run (.tmp 13) (.tmp 17) 54 54 rfl rfl rfl rfl HR1.out ?_) | (gi_at_builtin; refine wpListIn_append_run (.tmp 19) (.tmp 20) 54 9 rfl rfl rfl rfl HR2.out ?_))
        exact HI.out
  case hdone =>
    rintro hfin W ⟨h2, h3, ⟨v, h4, ho⟩, ha, hj⟩ hsz hD
    rw [List.length_map, List.take_length] at ho hj
    obtain ⟨P, hP⟩ : ∃ P, wire l = P := ⟨_, rfl⟩
    rw [hP] at ho hl
    obtain ⟨a1, c1, W2, hr, ho2, hg⟩ := run_appS (w := W) (w.heap.size + 5) v P [0] ho (by simp; omega) (by omega)
    have hA2 : Aside (fun b => w.heap.size + 5 ≤ b) W W2 := Aside.grown hg fun k hk => ho.row k hk
    have hx2 := h2.aside hA2 (by omega)
    have hx3 := h3.aside hA2 (by omega)
    have hx4 := h4.aside hA2 (by omega)
    have ho3 := ho2.setCell (p := ⟨w.heap.size + 1 + 1, 0, none⟩) (show w.heap.size + 1 + 1 < w.heap.size + 5 by omega) (.slice a1 (P.length + 1) c1)
    have hA3 : Aside (fun b => b = w.heap.size + 1 + 1 ∨ w.heap.size + 5 ≤ b) W (W2.setCell ⟨w.heap.size + 1 + 1, 0, none⟩ (.slice a1 (P.length + 1) c1)) := (hA2.mono fun _ _ h => .inr h).trans (Aside.setCell _ _ (.inl rfl))
    have hy2 := hx2.aside (G := fun b => b = w.heap.size + 1 + 1) (Aside.setCell W2 (p := ⟨w.heap.size + 1 + 1, 0, none⟩) (.slice a1 (P.length + 1) c1) rfl) (by omega)
    have hy3 := hx3.aside (G := fun b => b = w.heap.size + 1 + 1) (Aside.setCell W2 (p := ⟨w.heap.size + 1 + 1, 0, none⟩) (.slice a1 (P.length + 1) c1) rfl) (by omega)
    have hy4 := hx4.set (.slice a1 (P.length + 1) c1)
    obtain ⟨W3, hW3⟩ : ∃ W3, W2.setCell ⟨w.heap.size + 1 + 1, 0, none⟩ (.slice a1 (P.length + 1) c1) = W3 := ⟨_, rfl⟩
    rw [hW3] at hA3 hy2 hy3 hy4 ho3
    have hback : (convert 54 9 (.slice a1 (P.length + 1) c1)).run Try.prog W3 = .ok (.string (bs (P ++ [0]))) W3 := by
      obtain ⟨a', c', he, hcell⟩ := ho3.shape
      injection he with e1 e2 e3
      subst e1; subst e3
      obtain ⟨g, hg1, _, hg2⟩ := hcell (by simp)
      subst hg1
      have := run_convert_bytes_back (P := Try.prog) W3 54 9 5 ⟨g, 0, none⟩ c1 (P ++ [0]) Try.underlying54 Try.underlying5 Try.underlying9 (fun j hj => by
        rw [WideShapes.add_plain, Nat.zero_add, hg2 j hj, List.getD, List.getElem?_eq_getElem hj]; rfl)
      rw [List.length_append] at this
      exact this
    -- what is told
    have key : ∀ (s : ByteArray) (c : Int), Hid (∃ Wf, Wf = (W3.setCell ⟨w.heap.size, 0, none⟩ (.string s)).setCell ⟨w.heap.size + 1, 0, none⟩ (.int .i64 c) ∧ Wf.heap[w.heap.size + 3]? = some (.deferred (some [])) ∧ (Wf.putObj (w.heap.size + 3) (.deferred none)).cell? ⟨w.heap.size, 0, none⟩ = some (.string s) ∧ (Wf.putObj (w.heap.size + 3) (.deferred none)).cell? ⟨w.heap.size + 1, 0, none⟩ = some (.int .i64 c) ∧ Aside G w (Wf.putObj (w.heap.size + 3) (.deferred none))) := by
      intro s c
      have hz2 := (hy2.set (.string s)).aside (G := fun b => b = w.heap.size + 1) (Aside.setCell _ (p := ⟨w.heap.size + 1, 0, none⟩) (.int .i64 c) rfl) (by omega)
      have hz3 := (hy3.aside (G := fun b => b = w.heap.size) (Aside.setCell _ (p := ⟨w.heap.size, 0, none⟩) (.string s) rfl) (by omega)).set (.int .i64 c)
      have hA4 : Aside (fun b => b = w.heap.size ∨ b = w.heap.size + 1 ∨ b = w.heap.size + 1 + 1 ∨ w.heap.size + 5 ≤ b) W ((W3.setCell ⟨w.heap.size, 0, none⟩ (.string s)).setCell ⟨w.heap.size + 1, 0, none⟩ (.int .i64 c)) :=
        ((hA3.mono fun b _ h => by omega).trans (Aside.setCell _ _ (by simp))).trans (Aside.setCell _ _ (by simp))
      refine ⟨_, rfl, (hA4.block _ (by omega) (by omega)).trans hD, ?_, ?_, (ha.onto hA4 fun b hb _ => by omega).shut (by omega)⟩
      · exact (hz2.aside (G := fun b => b = w.heap.size + 3) (Aside.putObj _ _ rfl) (by omega)).1
      · exact (hz3.aside (G := fun b => b = w.heap.size + 3) (Aside.putObj _ _ rfl) (by omega)).1
    have HR := Lib.hid hr
    obtain ⟨hc4, hf4⟩ := hx4
    obtain ⟨hcv, hfv⟩ := h4
    have hend : ∀ (s : ByteArray) (c : Int), bs (jname l) = s → jcode l = c → Hid (∀ tmps : Array Value, (tmps[2]?).getD undef = .pointer (some ⟨w.heap.size, 0, none⟩) → (tmps[3]?).getD undef = .pointer (some ⟨w.heap.size + 1, 0, none⟩) →
        bodyPostM Fence.wide 0 Try.prog Try.f38 (JoinPost G w l fin) .ret { tmps := tmps, defers := [{ target := .collected (w.heap.size + 3), args := #[] }] } ((W3.setCell ⟨w.heap.size, 0, none⟩ (.string s)).setCell ⟨w.heap.size + 1, 0, none⟩ (.int .i64 c))) := by
      intro s c hs hc tmps ht2 ht3
      obtain ⟨Wf, hWf, hDf, hr2, hr3, haf⟩ := (key s c).out
      rw [← hWf]
      refine marks_ret hDf (.tuple #[.string s, .int .i64 c]) ?_ ⟨haf, .inr ⟨fun _ => hfin, by rw [hs, hc]⟩⟩
      simp [results, Try.results38, go_sem, ht2, ht3, hr2, hr3]
    by_cases hbig : P.length ≤ 254
    · have t1 : decide ((255 : Int) < P.length + 1) = false := by simp; omega
      have HE := hend (bs (P ++ [0])) 0 (by unfold jname; rw [hP, if_pos ⟨hj, hbig⟩]) (by unfold jcode; rw [hP, if_pos hj, if_pos hbig])
      subst hW3
      obtain ⟨hq2, hg2⟩ := hy2
      obtain ⟨hq3, hg3⟩ := hy3
      have hq3' := (World.cell?_setCell_other (w := W2.setCell ⟨w.heap.size + 1 + 1, 0, none⟩ (.slice a1 (P.length + 1) c1)) ⟨w.heap.size, 0, none⟩ ⟨w.heap.size + 1, 0, none⟩ (.string (bs (P ++ [0]))) (by simp)).trans hq3
      clear key hend hr hP hA2 hA3 ho3 ho2 hg ha hj ho hx2 hx3 hy4 h2 h3
      go_wp2_with (at_builtin; refine wpList_append_run (.tmp 22) (.const (.string ⟨#[0]⟩)) 54 9 rfl rfl rfl rfl HR.out ?_)
      exact HE.out _ rfl rfl
    · have t1 : decide ((255 : Int) < P.length + 1) = true := by simp; omega
      have HE := hend ⟨#[]⟩ 3 (by unfold jname; rw [hP, if_neg (fun h => hbig h.2)]; rfl) (by unfold jcode; rw [hP, if_pos hj, if_neg hbig])
      subst hW3
      obtain ⟨hq2, hg2⟩ := hy2
      obtain ⟨hq3, hg3⟩ := hy3
      have hq3' := (World.cell?_setCell_other (w := W2.setCell ⟨w.heap.size + 1 + 1, 0, none⟩ (.slice a1 (P.length + 1) c1)) ⟨w.heap.size, 0, none⟩ ⟨w.heap.size + 1, 0, none⟩ (.string ⟨#[]⟩) (by simp)).trans hq3
      clear key hend hr hP hA2 hA3 ho3 ho2 hg ha hj ho hx2 hx3 hy4 h2 h3
      go_wp2_with (at_builtin; refine wpList_append_run (.tmp 22) (.const (.string ⟨#[0]⟩)) 54 9 rfl rfl rfl rfl HR.out ?_)
      exact HE.out _ rfl rfl
  case hstop =>
    rintro c k W hk ⟨rfl, h2, h3, ha, hj⟩ hD
    have hx2 := (h2.aside (G := fun b => b = w.heap.size + 3) (Aside.putObj W (r := w.heap.size + 3) (.deferred none) rfl) (by simp)).1
    have hx3 := (h3.aside (G := fun b => b = w.heap.size + 3) (Aside.putObj W (r := w.heap.size + 3) (.deferred none) rfl) (by simp)).1
    have e1 : jname l = [] := by unfold jname; rw [if_neg (fun h => hj h.1)]
    have e2 : jcode l = jerr l := by unfold jcode; rw [if_neg hj]
    refine wp_ret (marks_ret hD (.tuple #[.string ⟨#[]⟩, .int .i64 (jerr l)]) (by simp [results, Try.results38, go_sem, hx2, hx3]) ⟨ha.shut (by omega), .inr ⟨fun h => (hj h).elim, by rw [e1, e2]; rfl⟩⟩)
  case hpanic =>
    rintro ch rfl W ⟨h2, h3, _, ha, hj⟩ hD
    rw [List.length_map, List.take_length] at hj
    show bodyPostM Fence.wide 0 Try.prog Try.f38 (JoinPost G w l (some ch)) (.panic ch) _ W
    refine ⟨by simp, .inl ⟨_, _, rfl, run_takeDeferred hD, ?_⟩⟩
    exact ⟨ha.shut (by omega), .inl ⟨hj, ch, rfl, rfl⟩⟩
end Go.Proofs.Ytibaeklpgfadpaa
