/-
  A text's reader: over, passes, digit, next, stands, fail.
-/
import Derived.Test.YtibaeklpgfadpaaTo
import Derived.Deep.QuietTactic
import Derived.BigQuiet
import Derived.Laws.Panics
namespace Go.Proofs.Ytibaeklpgfadpaa
open Go.RowKit Go.Shelf
set_option linter.unusedVariables false
set_option linter.unusedSimpArgs false

/-- Block r is a reader that stands at p in the text t. -/
def Rd (w : World) (r : Nat) (t : List UInt8) (p : Nat) : Prop :=
  w.cell? ⟨r, 0, none⟩ = some (.string (bs t)) ∧ w.cell? ⟨r, 1, none⟩ = some (.int .i64 p) ∧ ∀ j, w.frozen? ⟨r, j, none⟩ = false

theorem Rd.lt {w : World} {r : Nat} {t : List UInt8} {p : Nat} (h : Rd w r t p) : r < w.heap.size := World.block_lt_of_cell? w _ h.1
theorem Rd.drawn {w w' : World} {r : Nat} {t : List UInt8} {p : Nat} (h : Rd w r t p) (hd : Drawn w w') : Rd w' r t p := by
  obtain ⟨n, rfl⟩ := hd
  exact h
theorem Rd.block {w w' : World} {r : Nat} {t : List UInt8} {p : Nat} (h : Rd w r t p) (hk : w'.heap[r]? = w.heap[r]?) : Rd w' r t p :=
  ⟨(World.cell?_of_block (a := ⟨r, 0, none⟩) hk).trans h.1, (World.cell?_of_block (a := ⟨r, 1, none⟩) hk).trans h.2.1, fun j => (World.frozen?_of_block (a := ⟨r, j, none⟩) hk).trans (h.2.2 j)⟩
theorem Rd.move {w : World} {r : Nat} {t : List UInt8} {p : Nat} (h : Rd w r t p) (q : Int) (p' : Nat) (hq : q = p') : Rd (w.setCell ⟨r, 1, none⟩ (.int .i64 q)) r t p' := by
  subst hq
  refine ⟨?_, World.cell?_setCell_same _ _ _ h.2.1, fun j => by rw [World.frozen?_setCell]; exact h.2.2 j⟩
  rw [World.cell?_setCell_other _ _ _ _ (by simp)]
  exact h.1

/-- What a fault is panicked with. -/
def ch (e : Int) (a : Nat) : List PanicEntry := [{ v := .iface 67 (.agg #[.int .i64 e, .int .i64 a]), recovered := false }]

set_option maxHeartbeats 400000 in
theorem fail_any (e : Int) (a : Nat) (w : World) : Calls Try.prog 48 #[.int .i64 e, .int .i64 a] w fun en w' => en = .panicked (ch e a) ∧ w' = w := by
  go_enter Try.func48, Try.ntmps48
  go_wp2
  exact ⟨rfl, rfl, rfl⟩

set_option maxHeartbeats 400000 in
theorem stands_any (c : UInt8) (w : World) : Calls Try.prog 56 #[.int .u8 (c.toNat : Nat)] w fun en w' => en = .returned (.bool (decide (33 ≤ c.toNat ∧ c.toNat ≤ 126))) ∧ w = w' := by
  have hc8 : c.toNat < 256 := c.toNat_lt
  obtain ⟨n, hn⟩ : ∃ n, c.toNat = n := ⟨_, rfl⟩
  rw [hn] at hc8 ⊢
  clear hn
  by_cases h : 33 ≤ n
  · have t1 : decide ((33 : Int) ≤ n) = true := by simp; omega
    obtain ⟨b, hb⟩ : ∃ b, decide (n ≤ 126) = b := ⟨_, rfl⟩
    have e : decide (33 ≤ n ∧ n ≤ 126) = b := by rw [← hb]; simp [h]
    have t2 : decide ((n : Int) ≤ 126) = b := by rw [← hb]; simp; omega
    rw [e]
    clear hb e
    go_enter Try.func56, Try.ntmps56
    go_wp2
    go_ret
    exact ⟨rfl, rfl⟩
  · have t1 : decide ((33 : Int) ≤ n) = false := by simp; omega
    rw [decide_eq_false (fun x => h x.1)]
    go_enter Try.func56, Try.ntmps56
    go_wp2
    go_ret
    exact ⟨rfl, rfl⟩

def Told (w : World) (v : Value) (e : Ending) (w' : World) : Prop := e = .returned v ∧ Drawn w w'

set_option maxHeartbeats 1000000 in
theorem over_any {w : World} {r p : Nat} {t : List UInt8} (h : Rd w r t p) (hp : p ≤ t.length) (ht : t.length ≤ 1000000) : Calls Try.prog 60 #[.pointer (some ⟨r, 0, none⟩)] w (Told w (.bool (decide (p = t.length)))) := by
  obtain ⟨h0, h1, hf⟩ := h
  obtain ⟨b, hb⟩ : ∃ b, decide (p = t.length) = b := ⟨_, rfl⟩
  have t1 : ((p : Int) == t.length) = b := by rw [← hb]; by_cases h : p = t.length <;> simp [h]; omega
  rw [hb]
  clear hb hf
  go_enter Try.func60, Try.ntmps60
  go_wp2
  go_quiet (fail)
  go_wp2
  go_ret
  exact ⟨rfl, _, rfl⟩

theorem over_q {w : World} {r p : Nat} {t : List UInt8} (h : Rd w r t p) (hp : p ≤ t.length) (ht : t.length ≤ 1000000) (b : Bool) (hb : decide (p = t.length) = b) (n : Nat) :
    Calls Try.prog 60 #[.pointer (some ⟨r, 0, none⟩)] (w.drewN n) fun e w'' => e = .returned (.bool b) ∧ ∃ m, w'' = w.drewN m := by
  refine (over_any (w := w.drewN n) (h.drawn ⟨n, rfl⟩) hp ht).mono ?_
  rintro e w' ⟨rfl, m, rfl⟩
  exact ⟨by rw [hb], n + m, by rw [World.drewN_drewN]⟩

/-- What has moved the reader: told, and where it stands. -/
def Moved (w : World) (r : Nat) (t : List UInt8) (q : Nat) (v : Value) (e : Ending) (w' : World) : Prop := e = .returned v ∧ Rd w' r t q ∧ Aside (fun b => b = r) w w'

theorem Drawn.aside {w w' : World} (h : Drawn w w') (G : Nat → Prop) : Aside G w w' := Aside.of_all (h.below _)

set_option maxHeartbeats 1000000 in
theorem passes_no {w : World} {r p : Nat} {t : List UInt8} (h : Rd w r t p) (hp : p ≤ t.length) (ht : t.length ≤ 1000000) (hn : t[p]? ≠ some 46) : Calls Try.prog 65 #[.pointer (some ⟨r, 0, none⟩)] w (Told w (.bool false)) := by
  have H := Lib.hid h
  obtain ⟨h0, h1, hf⟩ := h
  clear hf
  by_cases hlt : p < t.length
  · have hd : decide (p = t.length) = false := by simp; omega
    have hix := ix_run t p hlt
    have hne : t[p].toNat ≠ 46 := fun e => hn (by rw [List.getElem?_eq_getElem hlt]; exact congrArg some (UInt8.toNat_inj.mp e))
    have hc8 : t[p].toNat < 256 := t[p].toNat_lt
    obtain ⟨c, hc⟩ : ∃ c, t[p].toNat = c := ⟨_, rfl⟩
    rw [hc] at hix hne hc8
    have t1 : ((c : Int) != 46) = true := by simp; omega
    clear hn hc hne
    go_enter Try.func65, Try.ntmps65
    go_wp2
    go_quiet ((go_at_call 60; exact over_q H.out hp ht false hd _))
    go_wp2
    go_ret
    exact ⟨rfl, _, rfl⟩
  · have hd : decide (p = t.length) = true := by simp; omega
    clear hn
    go_enter Try.func65, Try.ntmps65
    go_wp2
    go_quiet ((go_at_call 60; exact over_q H.out hp ht true hd _))
    go_wp2
    go_ret
    exact ⟨rfl, _, rfl⟩

set_option maxHeartbeats 1000000 in
theorem passes_yes {w : World} {r p : Nat} {t : List UInt8} (h : Rd w r t p) (ht : t.length ≤ 1000000) (hn : t[p]? = some 46) : Calls Try.prog 65 #[.pointer (some ⟨r, 0, none⟩)] w (Moved w r t (p + 1) (.bool true)) := by
  have H := Lib.hid h
  obtain ⟨h0, h1, hf⟩ := h
  have hlt : p < t.length := (List.getElem?_eq_some_iff.mp hn).1
  have hp : p ≤ t.length := by omega
  have hd : decide (p = t.length) = false := by simp; omega
  have hix := ix_run t p hlt
  have he : t[p].toNat = 46 := by rw [List.getElem?_eq_getElem hlt] at hn; injection hn with hn; rw [hn]; rfl
  rw [he] at hix
  have hf1 := hf 1
  clear hn he hf
  go_enter Try.func65, Try.ntmps65
  go_wp2
  go_quiet ((go_at_call 60; exact over_q H.out hp ht false hd _))
  have HR := Lib.hid ((H.out.drawn ⟨nq, rfl⟩).move ((p : Int) + 1) (p + 1) (by omega))
  go_wp2
  go_ret
  exact ⟨rfl, HR.out, ((Drawn.aside ⟨nq, rfl⟩ _).trans (Aside.setCell _ _ rfl))⟩

set_option maxHeartbeats 1000000 in
theorem next_any {w : World} {r p : Nat} {t : List UInt8} (h : Rd w r t p) (ht : t.length ≤ 1000000) (c : UInt8) (hn : t[p]? = some c) : Calls Try.prog 70 #[.pointer (some ⟨r, 0, none⟩)] w (Moved w r t (p + 1) (.int .u8 (c.toNat : Nat))) := by
  have H := Lib.hid h
  obtain ⟨h0, h1, hf⟩ := h
  have hlt : p < t.length := (List.getElem?_eq_some_iff.mp hn).1
  have hix := ix_run t p hlt
  have he : t[p] = c := by rw [List.getElem?_eq_getElem hlt] at hn; injection hn
  rw [he] at hix
  have hf1 := hf 1
  obtain ⟨m, hm⟩ : ∃ m, c.toNat = m := ⟨_, rfl⟩
  rw [hm] at hix ⊢
  clear hn he hf hm
  go_enter Try.func70, Try.ntmps70
  go_wp2
  go_quiet (fail)
  have HR := Lib.hid ((H.out.drawn ⟨nq, rfl⟩).move ((p : Int) + 1) (p + 1) (by omega))
  go_wp2
  go_ret
  exact ⟨rfl, HR.out, ((Drawn.aside ⟨nq, rfl⟩ _).trans (Aside.setCell _ _ rfl))⟩

def isDig (c : UInt8) : Bool := decide (48 ≤ c.toNat ∧ c.toNat ≤ 57)
/-- Is there a digit at this place? -/
def digAt (t : List UInt8) (p : Nat) : Bool := match t[p]? with | some c => isDig c | none => false

set_option maxHeartbeats 2000000 in
theorem digit_any {w : World} {r p : Nat} {t : List UInt8} (h : Rd w r t p) (hp : p ≤ t.length) (ht : t.length ≤ 1000000) : Calls Try.prog 68 #[.pointer (some ⟨r, 0, none⟩)] w (Told w (.bool (digAt t p))) := by
  have H := Lib.hid h
  obtain ⟨h0, h1, hf⟩ := h
  clear hf
  by_cases hlt : p < t.length
  · have hd : decide (p = t.length) = false := by simp; omega
    have hix := ix_run t p hlt
    have hc8 : t[p].toNat < 256 := t[p].toNat_lt
    have e : digAt t p = decide (48 ≤ t[p].toNat ∧ t[p].toNat ≤ 57) := by unfold digAt; rw [List.getElem?_eq_getElem hlt]; rfl
    rw [e]
    obtain ⟨c, hc⟩ : ∃ c, t[p].toNat = c := ⟨_, rfl⟩
    rw [hc] at hix hc8 ⊢
    clear hc e
    by_cases h48 : 48 ≤ c
    · have t1 : decide ((48 : Int) ≤ c) = true := by simp; omega
      obtain ⟨b, hb⟩ : ∃ b, decide (c ≤ 57) = b := ⟨_, rfl⟩
      have e : decide (48 ≤ c ∧ c ≤ 57) = b := by rw [← hb]; simp [h48]
      have t2 : decide ((c : Int) ≤ 57) = b := by rw [← hb]; simp; omega
      rw [e]
      clear hb e
      go_enter Try.func68, Try.ntmps68
      go_wp2
      go_quiet ((go_at_call 60; exact over_q H.out hp ht false hd _))
      go_wp2
      go_ret
      exact ⟨rfl, _, rfl⟩
    · have t1 : decide ((48 : Int) ≤ c) = false := by simp; omega
      rw [decide_eq_false (fun x => h48 x.1)]
      go_enter Try.func68, Try.ntmps68
      go_wp2
      go_quiet ((go_at_call 60; exact over_q H.out hp ht false hd _))
      go_wp2
      go_ret
      exact ⟨rfl, _, rfl⟩
  · have hd : decide (p = t.length) = true := by simp; omega
    have e : digAt t p = false := by unfold digAt; rw [List.getElem?_eq_none (by omega)]
    rw [e]
    clear e
    go_enter Try.func68, Try.ntmps68
    go_wp2
    go_quiet ((go_at_call 60; exact over_q H.out hp ht true hd _))
    go_wp2
    go_ret
    exact ⟨rfl, _, rfl⟩
end Go.Proofs.Ytibaeklpgfadpaa
