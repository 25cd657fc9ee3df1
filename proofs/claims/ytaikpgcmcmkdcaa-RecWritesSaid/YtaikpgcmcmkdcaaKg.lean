/-
  What is read is a name, or there is a fault; plainly.
-/
import Derived.Test.YtaikpgcmcmkdcaaKe
import Derived.Test.YtaikpgcmcmkdcaaBKept
namespace Go.Proofs.Ytaikpgcmcmkdcaa
open Go.RowKit Go.Shelf
set_option linter.unusedVariables false
set_option maxRecDepth 100000

/-- Reading, way by way. -/
theorem rd_ind (b : List UInt8) (a : Nat) (M : Nat → Nat → Nat → List UInt8 → Got → Prop)
    (fault : ∀ part i next n (e : Int) k, e ≠ 0 → (k ≤ b.length ∨ k = a) → M part i next n ([], 0, e, k))
    (zero : ∀ part i next n (h : i < b.length), b[i].toNat = 0 → M part i next n (n ++ [0], if next = 0 then i + 1 else next, 0, 0))
    (label : ∀ part i next n R (h : i < b.length), b[i].toNat ≠ 0 → b[i].toNat < 64 → i + (1 + b[i].toNat) ≤ b.length → n.length + (1 + b[i].toNat) ≤ 254 →
      M part (i + (1 + b[i].toNat)) next (n ++ (b.drop i).take (1 + b[i].toNat)) R → M part i next n R)
    (lead : ∀ part i next n R (h : i + 1 < b.length), 192 ≤ (b[i]'(by omega)).toNat → ptr (b[i]'(by omega)) b[i + 1] < part →
      M (ptr (b[i]'(by omega)) b[i + 1]) (ptr (b[i]'(by omega)) b[i + 1]) (if next = 0 then i + 2 else next) n R → M part i next n R)
    (part i next : Nat) (n : List UInt8) : M part i next n (rd b a part i next n) := by
  obtain ⟨g, hg⟩ : ∃ g, part * (b.length + 1) + (b.length - i) = g := ⟨_, rfl⟩
  induction g using Nat.strongRecOn generalizing part i next n with
  | _ g ih =>
    by_cases h : i < b.length
    · by_cases h0 : b[i].toNat = 0
      · rw [rd_zero h h0]; exact zero _ _ _ _ h h0
      by_cases h1 : b[i].toNat < 64
      · by_cases h2 : b.length < i + (1 + b[i].toNat)
        · rw [rd_short h h0 h1 h2]; exact fault _ _ _ _ _ _ (by decide) (.inl (Nat.le_refl _))
        by_cases h3 : 254 < n.length + (1 + b[i].toNat)
        · rw [rd_long h h0 h1 h2 h3]; exact fault _ _ _ _ _ _ (by decide) (.inr rfl)
        rw [rd_label h h0 h1 h2 h3]
        exact label _ _ _ _ _ h h0 h1 (by omega) (by omega) (ih _ (by rw [← hg]; omega) _ _ _ _ rfl)
      by_cases h2 : b[i].toNat < 192
      · rw [rd_mid h (by omega) h2]; exact fault _ _ _ _ _ _ (by decide) (.inl (by omega))
      by_cases h3 : i + 1 < b.length
      · by_cases h4 : part ≤ ptr b[i] b[i + 1]
        · rw [rd_back h (by omega) h3 h4]; exact fault _ _ _ _ _ _ (by decide) (.inl (by omega))
        rw [rd_go h (by omega) h3 h4]
        exact lead _ _ _ _ _ h3 (by omega) (by omega) (ih _ (by rw [← hg]; exact lex_lt (by omega) (by omega)) _ _ _ _ rfl)
      · rw [rd_half h (by omega) (by omega)]; exact fault _ _ _ _ _ _ (by decide) (.inl (Nat.le_refl _))
    · rw [rd_end (by omega)]; exact fault _ _ _ _ _ _ (by decide) (.inl (Nat.le_refl _))

/-- A label and its length, cut out of bytes. -/
theorem cut_label {b : List UInt8} {i : Nat} (h : i < b.length) (h2 : i + (1 + b[i].toNat) ≤ b.length) :
    (b.drop i).take (1 + b[i].toNat) = wire [(b.drop (i + 1)).take b[i].toNat] ∧ ((b.drop (i + 1)).take b[i].toNat).length = b[i].toNat := by
  have hl : ((b.drop (i + 1)).take b[i].toNat).length = b[i].toNat := by rw [List.length_take, List.length_drop]; omega
  refine ⟨?_, hl⟩
  rw [List.drop_eq_getElem_cons h, Nat.add_comm 1, List.take_succ_cons, wire, wire, hl]
  simp

/-- What came of reading: a name that may be, its first labels those that were read; or a fault within the bytes. -/
def Fine (b : List UInt8) (ls : List (List UInt8)) (R : Got) : Prop :=
  (R.2.2.1 = 0 ∧ R.2.2.2 = 0 ∧ ∃ ls', R.1 = wire (ls ++ ls') ++ [0] ∧ Shorts (ls ++ ls')) ∨ (R.2.2.1 ≠ 0 ∧ R.1 = [] ∧ R.2.1 = 0 ∧ R.2.2.2 ≤ b.length)

theorem rd_fine (b : List UInt8) (a : Nat) (ha : a ≤ b.length) (part i next : Nat) (n : List UInt8) (ls : List (List UInt8)) (hn : n = wire ls) (hs : Shorts ls) : Fine b ls (rd b a part i next n) := by
  refine rd_ind b a (fun _ _ _ n R => ∀ ls, n = wire ls → Shorts ls → Fine b ls R) ?_ ?_ ?_ ?_ part i next n ls hn hs
  · intro part i next n e k he hk ls _ _
    exact .inr ⟨he, rfl, rfl, by show k ≤ b.length; omega⟩
  · intro part i next n h h0 ls hn hs
    exact .inl ⟨rfl, rfl, [], by rw [List.append_nil]; exact congrArg (· ++ [0]) hn, by rw [List.append_nil]; exact hs⟩
  · intro part i next n R h h0 h1 h2 h3 ih ls hn hs
    obtain ⟨e1, e2⟩ := cut_label h h2
    rcases ih (ls ++ [(b.drop (i + 1)).take b[i].toNat]) (by rw [wire_app, e1, hn]) ⟨fun x hx => by
        rcases List.mem_append.mp hx with hx | hx
        · exact hs.1 x hx
        · rw [List.mem_singleton.mp hx]; omega, by rw [wire_snoc, e2, ← hn]; omega⟩ with ⟨r1, r2, ls', r3, r4⟩ | r
    · exact .inl ⟨r1, r2, (b.drop (i + 1)).take b[i].toNat :: ls', by rw [r3]; simp, by simpa using r4⟩
    · exact .inr r
  · intro part i next n R h h0 h1 ih ls hn hs
    exact ih ls hn hs

theorem rd_kept (b : List UInt8) (a part i next : Nat) (n : List UInt8) (h0 : next ≠ 0) (he : (rd b a part i next n).2.2.1 = 0) : (rd b a part i next n).2.1 = next := by
  refine rd_ind b a (fun _ _ next _ R => next ≠ 0 → R.2.2.1 = 0 → R.2.1 = next) ?_ ?_ ?_ ?_ part i next n h0 he
  · intro part i next n e k he hk h0 h; exact absurd h he
  · intro part i next n h h0 hn _; show (if next = 0 then i + 1 else next) = next; rw [if_neg hn]
  · intro part i next n R h h0 h1 h2 h3 ih hn he; exact ih hn he
  · intro part i next n R h h0 h1 ih hn he
    have := ih (by rw [if_neg hn]; exact hn) he
    rw [if_neg hn] at this
    exact this

/-- Where a name ends whose first part is not left yet. -/
theorem rd_next (b : List UInt8) (a part i : Nat) (n : List UInt8) (hn : n.length ≤ 254) (he : (rd b a part i 0 n).2.2.1 = 0) :
    i < (rd b a part i 0 n).2.1 ∧ (rd b a part i 0 n).2.1 ≤ b.length ∧ (rd b a part i 0 n).2.1 + n.length ≤ i + 256 := by
  have := rd_ind b a (fun part i next n R => next = 0 → n.length ≤ 254 → R = rd b a part i next n → R.2.2.1 = 0 → i < R.2.1 ∧ R.2.1 ≤ b.length ∧ R.2.1 + n.length ≤ i + 256) ?_ ?_ ?_ ?_ part i 0 n rfl hn rfl he
  · exact this
  · intro part i next n e k he hk _ _ _ h; exact absurd h he
  · intro part i next n h h0 hn hl _ _
    subst hn
    show i < i + 1 ∧ i + 1 ≤ b.length ∧ i + 1 + n.length ≤ i + 256
    omega
  · intro part i next n R h h0 h1 h2 h3 ih hn hl hR he
    have hlen : ((b.drop i).take (1 + b[i].toNat)).length = 1 + b[i].toNat := by rw [List.length_take, List.length_drop]; omega
    have := ih hn (by rw [List.length_append, hlen]; omega) (by rw [hR, rd_label h h0 h1 (by omega) (by omega)]) he
    rw [List.length_append, hlen] at this
    omega
  · intro part i next n R h h0 h1 ih hn hl hR he
    subst hn
    rw [rd_go (by omega) h0 h (by omega), if_pos rfl] at hR
    have := rd_kept b a _ _ (i + 2) n (by omega) (by rw [← hR]; exact he)
    rw [← hR] at this
    omega

/-- A name of one part is read from the bytes behind its place alone. -/
theorem rd_alone (b : List UInt8) (a part i k : Nat) (n : List UInt8) (ls : List (List UInt8)) (hk : k ≤ i) (ha : a ≤ b.length) (hn : n = wire ls) (hs : Shorts ls) (he : (rd b a part i 0 n).2.2.1 = 0)
    (hl : (rd b a part i 0 n).2.1 + n.length = i + (rd b a part i 0 n).1.length) (a2 p2 : Nat) :
    rd (b.drop k) a2 p2 (i - k) 0 n = ((rd b a part i 0 n).1, (rd b a part i 0 n).2.1 - k, 0, 0) := by
  have := rd_ind b a (fun part i next n R => next = 0 → R = rd b a part i next n → k ≤ i → ∀ ls, n = wire ls → Shorts ls → R.2.2.1 = 0 → R.2.1 + n.length = i + R.1.length → rd (b.drop k) a2 p2 (i - k) 0 n = (R.1, R.2.1 - k, 0, 0)) ?_ ?_ ?_ ?_ part i 0 n rfl rfl hk ls hn hs he hl
  · exact this
  · intro part i next n e k' he hk' _ _ _ _ _ _ h; exact absurd h he
  · intro part i next n h h0 hn _ hk ls hls hs _ _
    subst hn
    have hb : (b.drop k)[i - k]'(by rw [List.length_drop]; omega) = b[i] := by rw [List.getElem_drop]; congr 1; omega
    rw [rd_zero (by rw [List.length_drop]; omega) (by rw [hb]; exact h0), if_pos rfl]
    show (n ++ [0], i - k + 1, 0, 0) = (n ++ [0], i + 1 - k, 0, 0)
    rw [show i - k + 1 = i + 1 - k by omega]
  · intro part i next n R h h0 h1 h2 h3 ih hn hR hk ls hls hs he hl
    subst hn
    have hb : (b.drop k)[i - k]'(by rw [List.length_drop]; omega) = b[i] := by rw [List.getElem_drop]; congr 1; omega
    obtain ⟨e1, e2⟩ := cut_label h h2
    have hlen : ((b.drop i).take (1 + b[i].toNat)).length = 1 + b[i].toNat := by rw [List.length_take, List.length_drop]; omega
    have := ih rfl (by rw [hR, rd_label h h0 h1 (by omega) (by omega)]) (by omega) (ls ++ [(b.drop (i + 1)).take b[i].toNat]) (by rw [wire_app, e1, hls]) ⟨fun x hx => by
        rcases List.mem_append.mp hx with hx | hx
        · exact hs.1 x hx
        · rw [List.mem_singleton.mp hx]; omega, by rw [wire_snoc, e2, ← hls]; omega⟩ he (by rw [List.length_append, hlen]; omega)
    rw [rd_label (by rw [List.length_drop]; omega) (by rw [hb]; exact h0) (by rw [hb]; exact h1) (by rw [hb, List.length_drop]; omega) (by rw [hb]; omega)]
    rw [hb, show i - k + (1 + b[i].toNat) = i + (1 + b[i].toNat) - k by omega, List.drop_drop, show k + (i - k) = i by omega]
    exact this
  · intro part i next n R h h0 h1 ih hn hR hk ls hls hs he hl
    subst hn
    rw [rd_go (by omega) h0 h (by omega), if_pos rfl] at hR
    have h5 := rd_kept b a _ _ (i + 2) n (by omega) (by rw [← hR]; exact he)
    rw [← hR] at h5
    have h6 := rd_fine b a ha (ptr (b[i]'(Nat.lt_of_succ_lt h)) (b[i + 1]'h)) (ptr (b[i]'(Nat.lt_of_succ_lt h)) (b[i + 1]'h)) (i + 2) n ls hls hs
    rw [← hR] at h6
    rcases h6 with ⟨_, _, ls', r3, r4⟩ | ⟨r1, _⟩
    · exfalso
      have := congrArg List.length r3
      rw [wire_app] at this
      simp only [List.length_append, List.length_cons, List.length_nil] at this
      rw [← hls] at this
      cases ls' with
      | nil => simp [wire] at this; omega
      | cons x r =>
        have := r4.1 x (by simp)
        simp [wire] at *
        omega
    · exact absurd he r1
end Go.Proofs.Ytaikpgcmcmkdcaa
