/-
  A text leads back to its name, plainly.
-/
import Derived.Test.YtibaeklpgfadpaaWc
import Derived.Test.YtibaeklpgfadpaaUb
import Derived.Test.YtibaeklpgfadpaaVf
namespace Go.Proofs.Ytibaeklpgfadpaa
open Go.RowKit Go.Shelf
set_option linter.unusedVariables false
set_option linter.unusedSimpArgs false

theorem at_drop {t r : List UInt8} {p : Nat} (h : t.drop p = r) (j : Nat) : t[p + j]? = r[j]? := by rw [← h, List.getElem?_drop]
theorem drop_past {t a r : List UInt8} {p : Nat} (h : t.drop p = a ++ r) : t.drop (p + a.length) = r := by
  rw [← List.drop_drop, h, List.drop_left]

theorem std_of {c : UInt8} (h : 33 ≤ c.toNat ∧ c.toNat ≤ 126) : std c = true := by unfold std; exact decide_eq_true h

/-- A written byte is read as it was. -/
theorem letR_back {t rest : List UInt8} {p : Nat} (c : UInt8) (h : t.drop p = esc c ++ rest) : letR t p = .ok c (p + (esc c).length) ∧ t[p]? ≠ some 46 := by
  have h0 := at_drop h 0
  rw [Nat.add_zero] at h0
  by_cases hs : 33 ≤ c.toNat ∧ c.toNat ≤ 126
  · by_cases h2 : c = 46 ∨ c = 92
    · have he : esc c = [92, c] := by unfold esc; rw [if_pos hs, if_pos h2]
      rw [he] at h h0 ⊢
      have h1 := at_drop h 1
      have hd : isDig c = false := by rcases h2 with rfl | rfl <;> rfl
      refine ⟨?_, by rw [h0]; simp⟩
      rw [letR_esc (by simpa using h0) (by simpa using h1) hd (std_of hs)]
      rfl
    · have he : esc c = [c] := by unfold esc; rw [if_pos hs, if_neg h2]
      rw [he] at h h0 ⊢
      refine ⟨?_, by rw [h0]; simp; exact fun e => h2 (.inl e)⟩
      rw [letR_plain (by simpa using h0) (std_of hs) (fun e => h2 (.inr e))]
      rfl
  · have he : esc c = [92, UInt8.ofNat (48 + c.toNat / 100), UInt8.ofNat (48 + c.toNat / 10 % 10), UInt8.ofNat (48 + c.toNat % 10)] := by unfold esc; rw [if_neg hs]
    rw [he] at h h0 ⊢
    have h1 := at_drop h 1
    have h2 := at_drop h 2
    have h3 := at_drop h 3
    have hc8 : c.toNat < 256 := c.toNat_lt
    refine ⟨?_, by rw [h0]; simp⟩
    have m0 : (48 + c.toNat / 100) % 256 = 48 + c.toNat / 100 := by omega
    have m1 : (48 + c.toNat / 10 % 10) % 256 = 48 + c.toNat / 10 % 10 := by omega
    have m2 : (48 + c.toNat % 10) % 256 = 48 + c.toNat % 10 := by omega
    have dg : ∀ k : Nat, k ≤ 9 → isDig (UInt8.ofNat (48 + k)) = true := by
      intro k hk
      unfold isDig
      have : (48 + k) % 256 = 48 + k := by omega
      simp [UInt8.toNat_ofNat', this]
      omega
    rw [letR_num (by simpa using h0) (by simpa using h1) (dg _ (by omega))]
    have d0 : digAt t (p + 1) = true := by unfold digAt; rw [h1]; exact dg _ (by omega)
    have d1 : digAt t (p + 1 + 1) = true := by unfold digAt; rw [show p + 1 + 1 = p + 2 from rfl, h2]; exact dg _ (by omega)
    have d2 : digAt t (p + 1 + 2) = true := by unfold digAt; rw [show p + 1 + 2 = p + 3 from rfl, h3]; exact dg _ (by omega)
    have hv : numV t (p + 1) 3 = c.toNat := by
      simp only [numV]
      rw [List.getD, List.getD, List.getD, show p + 1 + 0 = p + 1 from rfl, show p + 1 + 1 = p + 2 from rfl, show p + 1 + 2 = p + 3 from rfl, h1, h2, h3]
      simp [UInt8.toNat_ofNat', m0, m1, m2]
      omega
    unfold numR
    rw [if_pos ⟨d0, d1, d2⟩, hv, if_pos (by omega)]
    simp

theorem labR_back {t : List UInt8} : ∀ (x : List UInt8) (n p : Nat) (acc rest : List UInt8), t.drop p = x.flatMap esc ++ rest → (rest = [] ∨ rest[0]? = some 46) → (x.flatMap esc ++ rest).length ≤ n →
    labR t n p acc = .ok (acc ++ x) (p + (x.flatMap esc).length + (if rest = [] then 0 else 1)) := by
  intro x
  induction x with
  | nil =>
    intro n p acc rest h hr hn
    rw [List.flatMap_nil, List.nil_append] at h hn
    have h0 := at_drop h 0
    rw [Nat.add_zero] at h0
    rcases hr with rfl | hr
    · cases n with
      | zero => simp [labR]
      | succ n => rw [labR, h0]; simp
    · have hne : rest ≠ [] := fun e => by rw [e] at hr; simp at hr
      cases n with
      | zero => exact absurd (List.eq_nil_of_length_eq_zero (by omega)) hne
      | succ n => rw [labR, h0, hr]; simp [hne]
  | cons c x ih =>
    intro n p acc rest h hr hn
    rw [List.flatMap_cons, List.append_assoc] at h hn
    obtain ⟨h1, h2⟩ := letR_back c h
    have hlen := (esc_len c).1
    obtain ⟨m, rfl⟩ : ∃ m, n = m + 1 := ⟨n - 1, by rw [List.length_append] at hn; omega⟩
    have hpt : p < t.length := by
      have := congrArg List.length h
      rw [List.length_drop, List.length_append] at this
      omega
    have h3 := ih m (p + (esc c).length) (acc ++ [c]) rest (drop_past h) hr (by rw [List.length_append] at hn; omega)
    have h46 : t[p] ≠ 46 := fun e => h2 (by rw [List.getElem?_eq_getElem hpt, e])
    rw [labR, List.getElem?_eq_getElem hpt]
    simp only [if_neg h46, h1]
    rw [h3, List.append_assoc, List.flatMap_cons, List.length_append, Nat.add_assoc p]
    rfl

theorem labelR_back {t x rest : List UInt8} {p : Nat} (h : t.drop p = x.flatMap esc ++ rest) (hr : rest = [] ∨ rest[0]? = some 46) (h0 : 0 < x.length) (h63 : x.length ≤ 63) :
    labelR t p = .ok x (p + (x.flatMap esc).length + (if rest = [] then 0 else 1)) := by
  have hn : (x.flatMap esc ++ rest).length ≤ t.length := by rw [← h, List.length_drop]; omega
  have h1 := labR_back x t.length p [] rest h hr hn
  have h46 : t[p]? ≠ some 46 := by
    obtain ⟨c, y, rfl⟩ : ∃ c y, x = c :: y := by cases x with | nil => simp at h0 | cons c y => exact ⟨c, y, rfl⟩
    rw [List.flatMap_cons, List.append_assoc] at h
    exact (letR_back c h).2
  unfold labelR
  rw [if_neg h46, h1]
  simp only [List.nil_append]
  rw [if_neg (by omega)]

theorem tx_cons (x : List UInt8) (l : List (List UInt8)) : tx (x :: l) = x.flatMap esc ++ 46 :: tx l := by simp [tx, tx1]

theorem labsR_back {t : List UInt8} : ∀ (l : List (List UInt8)) (n p : Nat), t.drop p = tx l → (∀ x ∈ l, 0 < x.length ∧ x.length ≤ 63) → l.length ≤ n → labsR t n p = (l, none) := by
  intro l
  induction l with
  | nil =>
    intro n p h _ _
    have hp : t.length ≤ p := by have := congrArg List.length h; simp [tx] at this; omega
    cases n with
    | zero => rfl
    | succ n => rw [labsR, if_pos hp]
  | cons x l ih =>
    intro n p h hs hn
    rw [tx_cons] at h
    have hx := hs x (by simp)
    have h1 := labelR_back h (.inr rfl) hx.1 hx.2
    have hpt : p < t.length := by
      have := congrArg List.length h
      rw [List.length_drop, List.length_append, List.length_cons] at this
      omega
    obtain ⟨m, rfl⟩ : ∃ m, n = m + 1 := ⟨n - 1, by simp at hn; omega⟩
    rw [if_neg (by simp)] at h1
    have h2 : t.drop (p + (x.flatMap esc).length + 1) = tx l := by
      rw [← List.drop_drop, drop_past h]
      rfl
    rw [labsR, if_neg (by omega), h1]
    simp only
    rw [ih m _ h2 (fun y hy => hs y (by simp [hy])) (by simp at hn; omega)]

theorem flat_ge (x : List UInt8) : x.length ≤ (x.flatMap esc).length := by
  induction x with
  | nil => simp
  | cons c r ih2 => have := (esc_len c).1; simp only [List.flatMap_cons, List.length_append, List.length_cons]; omega

theorem labsR_short_back {t : List UInt8} : ∀ (l : List (List UInt8)) (n p : Nat), l ≠ [] → t.drop p = (tx l).dropLast → (∀ x ∈ l, 0 < x.length ∧ x.length ≤ 63) → l.length ≤ n → labsR t n p = (l, none) := by
  intro l
  induction l with
  | nil => intro _ _ h; exact absurd rfl h
  | cons x l ih =>
    intro n p _ h hs hn
    have hx := hs x (by simp)
    obtain ⟨m, rfl⟩ : ∃ m, n = m + 1 := ⟨n - 1, by simp at hn; omega⟩
    have hfl := flat_ge x
    rw [tx_cons] at h
    by_cases hl : l = []
    · subst hl
      have hd : (x.flatMap esc ++ 46 :: tx []).dropLast = x.flatMap esc ++ [] := by simp [tx]
      rw [hd] at h
      have h1 := labelR_back h (.inl rfl) hx.1 hx.2
      rw [if_pos rfl, Nat.add_zero] at h1
      have hlen := congrArg List.length h
      rw [List.length_drop, List.append_nil] at hlen
      rw [labsR, if_neg (by omega), h1]
      simp only
      cases m with
      | zero => rfl
      | succ m => rw [labsR, if_pos (by omega)]
    · have hd : (x.flatMap esc ++ 46 :: tx l).dropLast = x.flatMap esc ++ 46 :: (tx l).dropLast := by
        have hne : tx l ≠ [] := by
          obtain ⟨y, r, rfl⟩ : ∃ y r, l = y :: r := by cases l with | nil => exact absurd rfl hl | cons y r => exact ⟨y, r, rfl⟩
          rw [tx_cons]; simp
        rw [List.dropLast_append_of_ne_nil (by simp), List.dropLast_cons_of_ne_nil hne]
      rw [hd] at h
      have h1 := labelR_back h (.inr rfl) hx.1 hx.2
      have hlen := congrArg List.length h
      rw [List.length_drop, List.length_append, List.length_cons] at hlen
      rw [if_neg (by simp)] at h1
      have h2 : t.drop (p + (x.flatMap esc).length + 1) = (tx l).dropLast := by
        rw [← List.drop_drop, drop_past h]
        rfl
      rw [labsR, if_neg (by omega), h1]
      simp only
      rw [ih m _ hl h2 (fun y hy => hs y (by simp [hy])) (by simp at hn; omega)]

theorem tx_ge (l : List (List UInt8)) (h : ∀ x ∈ l, 0 < x.length ∧ x.length ≤ 63) : 2 * l.length ≤ (tx l).length := by
  induction l with
  | nil => simp
  | cons x l ih =>
    have h1 := h x (by simp)
    have h2 := flat_ge x
    have h3 := ih fun y hy => h y (by simp [hy])
    rw [tx_cons, List.length_append, List.length_cons, List.length_cons]
    omega

/-- A name's text is read as it. -/
theorem prs_text {n : List UInt8} (h : chk n = 0) : prs (txt n) = (n, 0, 0) := by
  unfold txt
  rw [if_pos h]
  by_cases h0 : n = [0]
  · rw [if_pos h0, h0]; rfl
  · rw [if_neg h0]
    obtain ⟨hs, hw⟩ := shorts_of h
    have hne : labs n ≠ [] := fun e => h0 ((labs_root n h).1 e)
    have hpos : 0 < (labs n).length := List.length_pos_iff.mpr hne
    have hge := tx_ge (labs n) hs.1
    have hb := labsR_back (t := tx (labs n)) (labs n) (tx (labs n)).length 0 (by simp) hs.1 (by omega)
    rw [prs_good (fun e => by rw [e] at hge; simp at hge; omega) (fun e => by rw [e] at hge; simp at hge; omega) (by rw [hb])]
    rw [hb]
    obtain ⟨j1, j2⟩ := jname_short (labs n) hs.1 hs.2
    simp only [j1, j2, ← hw]

/-- .. and without its last point, but of the root. -/
theorem prs_short {n : List UInt8} (h : chk n = 0) (h0 : n ≠ [0]) : prs ((txt n).dropLast) = (n, 0, 0) := by
  unfold txt
  rw [if_pos h, if_neg h0]
  obtain ⟨hs, hw⟩ := shorts_of h
  have hne : labs n ≠ [] := fun e => h0 ((labs_root n h).1 e)
  have hpos : 0 < (labs n).length := List.length_pos_iff.mpr hne
  have hge := tx_ge (labs n) hs.1
  have hb := labsR_short_back (t := (tx (labs n)).dropLast) (labs n) (tx (labs n)).dropLast.length 0 hne (by simp) hs.1 (by rw [List.length_dropLast]; omega)
  have h46 : (tx (labs n)).dropLast ≠ [46] := by
    obtain ⟨x, l, hl⟩ : ∃ x l, labs n = x :: l := by cases hl : labs n with | nil => exact absurd hl hne | cons x l => exact ⟨x, l, rfl⟩
    obtain ⟨c, y, hx⟩ : ∃ c y, x = c :: y := by
      have := hs.1 x (by simp [hl])
      cases x with | nil => simp at this | cons c y => exact ⟨c, y, rfl⟩
    intro e
    have hd : (tx (labs n)).drop 0 = esc c ++ (y.flatMap esc ++ 46 :: tx l) := by rw [hl, tx_cons, hx]; simp
    have h1 := (letR_back c hd).2
    have h2 : (tx (labs n))[0]? = some 46 := by
      have := congrArg (fun u : List UInt8 => u[0]?) e
      simp only [List.getElem?_dropLast] at this
      split at this
      · exact this.trans rfl
      · simp at this
    exact h1 h2
  rw [prs_good (fun e => by have := congrArg List.length e; rw [List.length_dropLast] at this; simp at this; omega) h46 (by rw [hb])]
  rw [hb]
  obtain ⟨j1, j2⟩ := jname_short (labs n) hs.1 hs.2
  simp only [j1, j2, ← hw]

theorem tx_last (l : List (List UInt8)) (h : l ≠ []) : (tx l).getLast? = some 46 := by
  induction l with
  | nil => exact absurd rfl h
  | cons x l ih =>
    rw [tx_cons]
    by_cases hl : l = []
    · subst hl; simp [tx]
    · have := ih hl
      rw [List.getLast?_append, List.getLast?_cons, this]
      simp

theorem txt_last {n : List UInt8} (h : chk n = 0) : 0 < (txt n).length ∧ (txt n)[(txt n).length - 1]? = some 46 := by
  have : (txt n).getLast? = some 46 := by
    unfold txt
    rw [if_pos h]
    split
    · rfl
    · rename_i h0
      exact tx_last _ fun e => h0 ((labs_root n h).1 e)
  rw [List.getLast?_eq_getElem?] at this
  exact ⟨by have := (List.getElem?_eq_some_iff.mp this).1; omega, this⟩

/-! ### what is told of any text -/

theorem letR_bad {t : List UInt8} {p : Nat} {e : Int} {a : Nat} (h : letR t p = .bad e a) (hp : p < t.length) : e ≠ 0 ∧ a ≤ t.length := by
  unfold letR at h
  split at h
  · injection h with h1 h2; omega
  · split at h
    · injection h with h1 h2; omega
    · split at h
      · simp at h
      · split at h
        · injection h with h1 h2; omega
        · rename_i d hd
          have := (List.getElem?_eq_some_iff.mp hd).1
          split at h
          · unfold numR at h
            split at h
            · split at h
              · simp at h
              · injection h with h1 h2; omega
            · injection h with h1 h2; omega
          · split at h
            · simp at h
            · injection h with h1 h2; omega

theorem labR_bad {t : List UInt8} : ∀ (n p : Nat) (acc : List UInt8) (e : Int) (a : Nat), labR t n p acc = .bad e a → e ≠ 0 ∧ a ≤ t.length := by
  intro n
  induction n with
  | zero => intro p acc e a h; simp [labR] at h
  | succ n ih =>
    intro p acc e a h
    rw [labR] at h
    split at h
    · simp at h
    · rename_i c hc
      have hlt := (List.getElem?_eq_some_iff.mp hc).1
      split at h
      · simp at h
      · split at h
        · exact ih _ _ _ _ h
        · rename_i e' a' hb
          injection h with h1 h2
          subst h1; subst h2
          exact letR_bad hb hlt

theorem labelR_bad {t : List UInt8} {p : Nat} {e : Int} {a : Nat} (h : labelR t p = .bad e a) (hp : p ≤ t.length) : e ≠ 0 ∧ a ≤ t.length := by
  unfold labelR at h
  split at h
  · injection h with h1 h2; omega
  · split at h
    · split at h
      · injection h with h1 h2; omega
      · simp at h
    · rename_i e' a' hb
      injection h with h1 h2
      subst h1; subst h2
      exact labR_bad _ _ _ _ _ hb

theorem labsR_bad {t : List UInt8} : ∀ (n p : Nat) (e : Int) (a : Nat), (labsR t n p).2 = some (e, a) → p ≤ t.length → e ≠ 0 ∧ a ≤ t.length := by
  intro n
  induction n with
  | zero => intro p e a h; simp [labsR] at h
  | succ n ih =>
    intro p e a h hp
    rw [labsR] at h
    split at h
    · simp at h
    · split at h
      · rename_i e' a' hb
        injection h with h
        injection h with h1 h2
        subst h1; subst h2
        exact labelR_bad hb hp
      · rename_i l q hl
        exact ih q e a h (labelR_lt hl (by omega)).2.1

/-- Of any text a name is told, or a fault within it. -/
theorem prs_any (t : List UInt8) : ((prs t).2.1 = 0 → chk (prs t).1 = 0) ∧ ((prs t).2.1 ≠ 0 → (prs t).1 = []) ∧ (prs t).2.2 ≤ t.length ∧ (prs t).1.length ≤ 255 := by
  by_cases h0 : t = []
  · subst h0
    refine ⟨fun h => ?_, fun _ => rfl, Nat.zero_le _, Nat.zero_le _⟩
    simp [prs] at h
  · by_cases h1 : t = [46]
    · subst h1
      exact ⟨fun _ => chk_root, fun h => absurd rfl h, Nat.zero_le _, by decide⟩
    · cases hb : (labsR t t.length 0).2 with
      | some x =>
        obtain ⟨e, a⟩ := x
        obtain ⟨h2, h3⟩ := labsR_bad _ _ _ _ hb (Nat.zero_le _)
        rw [prs_bad h0 h1 hb]
        exact ⟨fun h => absurd h h2, fun _ => rfl, h3, Nat.zero_le _⟩
      | none =>
        rw [prs_good h0 h1 hb]
        refine ⟨fun h => ?_, fun h => ?_, Nat.zero_le _, jname_len _⟩
        · obtain ⟨hs, hj⟩ := jcode_zero h
          show chk (jname _) = 0
          rw [hj]
          exact shorts_chk hs
        · show jname _ = []
          unfold jname
          rw [if_neg]
          intro hh
          apply h
          show jcode _ = 0
          unfold jcode
          rw [if_pos hh.1, if_pos hh.2]
end Go.Proofs.Ytibaeklpgfadpaa
