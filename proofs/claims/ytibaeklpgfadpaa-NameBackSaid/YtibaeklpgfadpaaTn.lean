/-
  SameTexts, CopyTexts, OverTexts, KeptTexts.
-/
import Derived.Test.YtibaeklpgfadpaaTm
namespace Go.Proofs.Ytibaeklpgfadpaa
open Go.RowKit Go.Shelf
set_option linter.unusedVariables false

/-- A draw or more. -/
def Drawn (w w' : World) : Prop := ∃ n, w' = w.drewN n
theorem Drawn.refl (w : World) : Drawn w w := ⟨0, rfl⟩
theorem Drawn.drew {w w' : World} (h : Drawn w w') : Drawn w w'.drew := by obtain ⟨n, rfl⟩ := h; exact ⟨n + 1, rfl⟩
theorem Drawn.cell {w w' : World} (h : Drawn w w') (p : Addr) : w'.cell? p = w.cell? p := by obtain ⟨n, rfl⟩ := h; rfl
theorem Drawn.below {w w' : World} (h : Drawn w w') (B : Nat) : Below B w w' := by obtain ⟨n, rfl⟩ := h; exact below_drewN (Below.refl _ _) _
theorem Drawn.trans {a b c : World} (h : Drawn a b) (k : Drawn b c) : Drawn a c := by obtain ⟨n, rfl⟩ := h; obtain ⟨m, rfl⟩ := k; exact ⟨n + m, by simp [World.drewN, Nat.add_assoc]⟩

theorem bs_eq (a b : List UInt8) : ((bs a).toList == (bs b).toList) = decide (a = b) := by
  rw [bs_toList, bs_toList]
  by_cases h : a = b <;> simp [h]

def SamePost (w : World) (b : Bool) (e : Ending) (w' : World) : Prop := e = .returned (.bool b) ∧ Drawn w w'

set_option maxHeartbeats 1000000 in
theorem sameT_any {w : World} {lo hi lo' hi' : Nat} {v v' : Value} {l l' : List (List UInt8)} (h : St w lo hi v l) (h' : St w lo' hi' v' l') (hl : l.length ≤ 1000000) (hl' : l'.length ≤ 1000000) :
    Calls Try.prog 15 #[v, v'] w (SamePost w (decide (l = l'))) := by
  obtain ⟨a, c, rfl, hc, hn, hp⟩ := id h
  obtain ⟨a', c', rfl, hc', hn', hp'⟩ := id h'
  have HS := Lib.hid h
  have HS' := Lib.hid h'
  clear h h' hn hp hn' hp' hc hc'
  by_cases hlen : l.length = l'.length
  · have HLEN := Lib.hid hlen
    have t0 : ((l.length : Int) != l'.length) = false := by simp; omega
    clear hlen
    go_enter Try.func15, Try.ntmps15
    go_wp2
    go_loopw [5] (fun i wr => ∃ k : Nat, k ≤ l.length ∧ i = .int .i64 k ∧ Hid (l.take k = l'.take k) ∧ Hid (Drawn w wr)) (fun i _ => l.length - (intOf i).toNat)
    case atStart => exact ⟨0, by omega, rfl, rfl, Drawn.refl w⟩
    case round =>
      obtain ⟨k, hk, rfl, HL, HD⟩ := hrel
      by_cases hlt : k < l.length
      · have hlt' : k < l'.length := by rw [← HLEN.out]; exact hlt
        obtain ⟨b, off, rfl, hb1, hb2, hcell⟩ := HS.out.cell (by omega)
        obtain ⟨b', off', rfl, hb1', hb2', hcell'⟩ := HS'.out.cell (by omega)
        have hc1 := (HD.out.cell _).trans (hcell k hlt)
        have hc2 := (HD.out.cell _).trans (hcell' k hlt')
        have hget : l[k]? = some l[k] := List.getElem?_eq_getElem hlt
        have hget' : l'[k]? = some l'[k] := List.getElem?_eq_getElem hlt'
        have e : l.getD k [] = l[k] := by rw [List.getD, hget]; rfl
        have e' : l'.getD k [] = l'[k] := by rw [List.getD, hget']; rfl
        rw [e] at hc1
        rw [e'] at hc2
        obtain ⟨y, hy⟩ : ∃ y, l[k] = y := ⟨_, rfl⟩
        obtain ⟨y', hy'⟩ : ∃ y, l'[k] = y := ⟨_, rfl⟩
        rw [hy] at hc1 hget
        rw [hy'] at hc2 hget'
        have et : l.take (k + 1) = l.take k ++ [y] := by rw [List.take_add_one, hget]; rfl
        have et' : l'.take (k + 1) = l'.take k ++ [y'] := by rw [List.take_add_one, hget']; rfl
        clear hcell hcell' e e' hy hy'
        unfold tv at hc1 hc2
        have hbe := bs_eq y y'
        by_cases hyy : y = y'
        · have HE := Lib.hid (show l.take (k + 1) = l'.take (k + 1) by rw [et, et', HL.out, hyy])
          rw [decide_eq_true hyy] at hbe
          clear et et' hyy hget hget'
          go_wp2
          go_region
          go_wp2
          refine ⟨⟨k + 1, by omega, by go_num, HE, HD.out.drew⟩, ?_⟩
          simp [intOf]; omega
        · have hne : l ≠ l' := fun e => by
            rw [e, hget'] at hget
            injection hget with hget
            exact hyy hget.symm
          have HE := Lib.hid (show SamePost w (decide (l = l')) (.returned (.bool false)) wr.drew from ⟨by rw [decide_eq_false hne], HD.out.drew⟩)
          rw [decide_eq_false hyy] at hbe
          clear et et' hyy hget hget' hne
          go_wp2
          go_region
          go_wp2
          go_ret
          exact HE.out
      · have heq : l = l' := by
          have := HL.out
          rwa [List.take_of_length_le (by omega), List.take_of_length_le (by have := HLEN.out; omega)] at this
        have HE := Lib.hid (show SamePost w (decide (l = l')) (.returned (.bool true)) wr from ⟨by rw [decide_eq_true heq], HD.out⟩)
        clear heq
        go_wp2
        go_ret
        exact HE.out
  · have t0 : ((l.length : Int) != l'.length) = true := by simp; omega
    have hne : l ≠ l' := fun e => hlen (by rw [e])
    have HE := Lib.hid (show SamePost w (decide (l = l')) (.returned (.bool false)) w from ⟨by rw [decide_eq_false hne], Drawn.refl w⟩)
    clear hne hlen
    go_enter Try.func15, Try.ntmps15
    go_wp2
    go_ret
    exact HE.out

/-! ### CopyTexts -/
def CopyTPost (w : World) (l : List (List UInt8)) (e : Ending) (w' : World) : Prop := ∃ v, e = .returned v ∧ OwnT w' w.heap.size v l ∧ Below w.heap.size w w'

set_option maxHeartbeats 1000000 in
theorem copyT_any {w : World} {lo hi : Nat} {v : Value} {l : List (List UInt8)} (h : St w lo hi v l) (hl : l.length ≤ 1000) : Calls Try.prog 34 #[v] w (CopyTPost w l) := by
  have hb1 : Below w.heap.size w (w.alloc (.cells #[] 9)) := (Below.refl _ _).alloc (Nat.le_refl _) _
  have HS := Lib.hid (h.later hb1)
  have HB := Lib.hid hb1
  have HO := Lib.hid (show OwnT (w.alloc (.cells #[] 9)) w.heap.size (.slice (some ⟨w.heap.size, 0, none⟩) 0 0) [] from
    .inr ⟨w.heap.size, 0, rfl, Nat.le_refl _, Nat.le_refl _, by decide, heap_alloc_new w _⟩)
  clear h hb1
  go_enter Try.func34, Try.ntmps34
  go_wp2_with (at_builtin; refine wpList_appT rfl (.tmp 3) (.tmp 4) rfl rfl w.heap.size lo hi _ v [] l rfl rfl HO.out HS.out ?c2 ?c3 ?_)
  case c2 => simp; omega
  case c3 => simp
  intro a' c' w1 HO2 HB1
  have HB2 := Lib.hid (HB.out.trans HB1.out)
  clear HB HB1 HS HO
  go_wp2_with fail
  go_ret
  exact ⟨_, rfl, HO2.out, HB2.out⟩

/-! ### OverTexts -/
def OverPost (w : World) (B : Nat) (e : Ending) (w' : World) : Prop := e = .returned (.tuple #[]) ∧ Aside (fun b => B ≤ b) w w'

/-- Of block g, from k on, each of the c places holds a text. -/
def TextsFrom (w : World) (g c k : Nat) : Prop := (∀ j, k ≤ j → j < c → ∃ x : List UInt8, x.length ≤ 900000 ∧ w.cell? ⟨g, j, none⟩ = some (tv x)) ∧ ∀ j, w.frozen? ⟨g, j, none⟩ = false

theorem TextsFrom.step {w : World} {g c k : Nat} (h : TextsFrom w g c k) (u : Value) : TextsFrom (w.setCell ⟨g, k, none⟩ u) g c (k + 1) := by
  refine ⟨fun j h1 h2 => ?_, fun j => by rw [World.frozen?_setCell]; exact h.2 j⟩
  obtain ⟨x, hx, hc⟩ := h.1 j (by omega) h2
  exact ⟨x, hx, by rw [World.cell?_setCell_other _ _ _ _ (by first | (simp; done) | (simp; omega))]; exact hc⟩

theorem OwnT.texts {w : World} {B g c : Nat} {n : Nat} {l : List (List UInt8)} (h : OwnT w B (.slice (some ⟨g, 0, none⟩) n c) l) (hl : ∀ x ∈ l, x.length ≤ 900000) : TextsFrom w g c 0 := by
  rcases h with ⟨h, _⟩ | ⟨g', cap, hv, hB, hc, _, hg⟩
  · simp at h
  · injection hv with e1 e2 e3
    injection e1 with e1
    injection e1 with e4 e5 e6
    subst e4; subst e3
    refine ⟨fun j _ hj => ?_, fun j => by simp [World.frozen?, hg]⟩
    rw [World.cell?, hg]
    by_cases h2 : j < l.length
    · refine ⟨l[j], hl _ (List.getElem_mem h2), ?_⟩
      simp [List.getElem?_append_left, h2]
    · refine ⟨[], by simp, ?_⟩
      rw [List.length_map] at hc
      simp [List.getElem?_append_right, show l.length ≤ j by omega, show j - l.length < c - l.length by omega]
      rfl

set_option maxHeartbeats 1000000 in
theorem overT_any {w : World} {B : Nat} {v : Value} {l : List (List UInt8)} (h : OwnT w B v l) (hl : ∀ x ∈ l, x.length ≤ 900000) : Calls Try.prog 19 #[v] w (OverPost w B) := by
  rcases id h with ⟨rfl, h0⟩ | ⟨g, cap, rfl, hB, hc, hm, hg⟩
  · clear h
    go_enter Try.func19, Try.ntmps19
    go_wp2
    go_loop [3] (fun i => i = .int .i64 0) (fun _ => 0)
    case atStart => rfl
    case round =>
      subst hrel
      go_wp2
      go_end0
      exact ⟨rfl, Aside.refl _ _⟩
  · have HT := Lib.hid (h.texts hl)
    have hcap : cap ≤ 9223372036854775807 := by unfold maxLen at hm; omega
    obtain ⟨n, hn⟩ : ∃ n, (l.map tv).length = n := ⟨_, rfl⟩
    rw [hn] at hc ⊢
    clear h hg hm hn
    go_enter Try.func19, Try.ntmps19
    go_wp2
    go_loopw [3] (fun i wr => ∃ k : Nat, k ≤ cap ∧ i = .int .i64 k ∧ Hid (TextsFrom wr g cap k) ∧ Hid (Aside (fun b => B ≤ b) w wr)) (fun i _ => cap - (intOf i).toNat)
    case atStart => exact ⟨0, Nat.zero_le _, rfl, HT, Aside.refl _ _⟩
    case round =>
      obtain ⟨k, hk, rfl, HT2, HA⟩ := hrel
      by_cases hlt : k < cap
      · obtain ⟨x, hx, hc1⟩ := HT2.out.1 k (Nat.le_refl _) hlt
        have hf := HT2.out.2 k
        have hr1 : ∀ w, (Op.stringOp .add (bs x) ⟨#[33]⟩).run Try.prog w = .ok (.string (bs (x ++ [33]))) w := fun w => add_run x [33] (by omega) (by simp) w
        have HN := Lib.hid (HT2.out.step (.string (bs (x ++ [33]))))
        have HA2 := Lib.hid (HA.out.trans (Aside.setCell wr (p := ⟨g, k, none⟩) (.string (bs (x ++ [33]))) hB))
        unfold tv at hc1
        go_wp2
        refine ⟨⟨k + 1, by omega, by go_num, HN, HA2⟩, ?_⟩
        simp [intOf]; omega
      · go_wp2
        go_end0
        exact ⟨rfl, HA.out⟩

/-! ### KeptTexts -/
theorem lentT_n {w : World} {lo hi n c : Nat} {a : Option Addr} {l : List (List UInt8)} (h : St w lo hi (.slice a n c) l) (hl : n ≤ 1000) (hn : n = l.length) (q : Nat) (hq : q = n + 3) :
    Calls Try.prog 10 #[.slice a n c] w fun e w' => e = .returned (.slice (some ⟨w.heap.size, 0, none⟩) n q) ∧ Below w.heap.size w w' ∧ RowT w' w.heap.size (lentT l) := by
  subst hn; subst hq
  exact lentT_any h hl

def KeptTPost (w : World) (e : Ending) (w' : World) : Prop := e = .returned (.bool true) ∧ Below w.heap.size w w'

theorem same_rows {w : World} {g g' k : Nat} {L : List (List UInt8)} (h : RowT w g L) (h' : RowT w g' L) (hk : k = L.length) (hl : k ≤ 1000000) :
    Calls Try.prog 15 #[.slice (some ⟨g, 0, none⟩) k k, .slice (some ⟨g', 0, none⟩) k k] w fun e w' => e = .returned (.bool true) ∧ Below w.heap.size w w' := by
  refine (sameT_any (h.st hk) (h'.st hk) (by omega) (by omega)).mono ?_
  rintro e w' ⟨rfl, hd⟩
  exact ⟨by rw [decide_eq_true rfl], hd.below _⟩

set_option maxHeartbeats 1000000 in
theorem keptT_core {w : World} {lo hi g n c k : Nat} {a : Option Addr} {l : List (List UInt8)} (h : Hid (St w lo hi (.slice a n c) l)) (hl : n ≤ 1000) (hg : Hid (RowT w g (lentT l))) (hlt : g < w.heap.size) (hk : Hid (k = n + 3)) (hnl : Hid (n = l.length)) (e1 : (n : Int) + 3 = (k : Int)) :
    Calls Try.prog 20 #[.slice (some ⟨g, 0, none⟩) n k, .slice a n c] w (KeptTPost w) := by
  have hd : St w.drew lo hi (.slice a n c) l := h.out.keep (fun _ _ _ _ _ => rfl)
  have HD := Lib.hid hd
  have hgd : RowT w.drew g (lentT l) := hg.out
  have HG := Lib.hid hgd
  have hbd : Below w.heap.size w w.drew := (Below.refl _ _).drew
  have HB0 := Lib.hid hbd
  have hkb : k ≤ 1003 := by rw [hk.out]; omega
  have ew : IntKind.i64.wrap ((n : Int) + 3) = (k : Int) := by rw [e1]; exact IntWalk.i64_in _ (by omega)
  have ew2 : IntKind.i64.wrap (k : Int) = (k : Int) := IntWalk.i64_in _ (by omega)
  have hkk : k = (lentT l).length := by rw [hk.out, hnl.out, lentT_len]
  have HK := Lib.hid hkk
  clear hd hgd hbd h hg hkk
  go_enter Try.func20, Try.ntmps20
  go_wp2
  go_region_held3 (fun _ => True) (trivial) (first | (go_at_call 10; refine (lentT_n HD.out hl hnl.out k hk.out).mono ?_; rintro e w1 ⟨rfl, hb, hx⟩; have HB := Lib.hid hb; have HX := Lib.hid (RowT.at_ (g' := w.heap.size) hx rfl); clear hb hx) | (go_at_call 15; refine (same_rows (RowT.later HG.out HB.out) HX.out HK.out (by omega)).mono ?_; rintro e w2 ⟨rfl, hb2⟩; have HB2 := Lib.hid hb2; clear hb2))
  all_goals
    go_wp2
    go_ret
    exact ⟨rfl, HB0.out.trans (HB.out.trans (HB2.out.mono HB.out.size))⟩

theorem keptT_any {w : World} {lo hi g : Nat} {v : Value} {l : List (List UInt8)} (h : St w lo hi v l) (hl : l.length ≤ 1000) (hg : RowT w g (lentT l)) :
    Calls Try.prog 20 #[.slice (some ⟨g, 0, none⟩) l.length (l.length + 3), v] w (KeptTPost w) := by
  obtain ⟨a, c, rfl, hc, hn, hp⟩ := h
  exact keptT_core (l := l) ⟨a, c, rfl, hc, hn, hp⟩ hl hg hg.lt rfl rfl (by omega)
end Go.Proofs.Ytibaeklpgfadpaa
