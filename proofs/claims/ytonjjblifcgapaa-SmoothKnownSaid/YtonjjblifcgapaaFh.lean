import Derived.Test.YtonjjblifcgapaaFg
namespace Go.Proofs.Ytonjjblifcgapaa
set_option linter.unusedVariables false
open Ieee

/-! ### Sizes, and the mean of words -/

def absF (b : Nat) : Nat := b % 9223372036854775808
theorem abs_facts (b : Nat) : isN (absF b) = isN b ∧ key (absF b) = (key b).natAbs ∧ absF b < 18446744073709551616 := by
  have h : b % 9223372036854775808 < 9223372036854775808 := Nat.mod_lt _ (by decide)
  have e : b % 9223372036854775808 % 9223372036854775808 = b % 9223372036854775808 := Nat.mod_eq_of_lt h
  refine ⟨?_, ?_, by unfold absF; omega⟩
  · unfold isN absF; rw [e]
  · rw [key_mod]
    unfold key absF
    rw [if_neg (by omega), e]

theorem V_abs (k : Int) : V (k.natAbs : Int) = ((V k).natAbs : Int) := by
  unfold V
  rw [if_neg (by omega)]
  by_cases h : k < 0
  · rw [if_pos h]; simp
  · rw [if_neg h]; simp

theorem slack_nums {A s S : Int} {c : Int} (hA0 : 0 ≤ A) (hA : A < (rval 9218868437227405311 : Int)) (hc : (sc : Int) ≤ V c * 1073741824)
    (hs : s = V (RS (A * (sc : Int)))) (hS : S = V (RS (V c * s))) : 0 ≤ s ∧ 0 ≤ S ∧ A ≤ S * 8589934592 + 8589934592 := by
  have e0 : V 0 = 0 := by unfold V; simp [rval_zero]
  have hsc := sc_pos
  have hc0 : 0 ≤ V c := by omega
  obtain ⟨a1, a2, a3, a4⟩ := round_near hA0 hA
  rw [← hs] at a3 a4
  have hs0 : 0 ≤ s := by have := V_le a1; rw [e0] at this; omega
  have hn : 0 ≤ s / 1073741824 := Int.ediv_nonneg hs0 (by omega)
  obtain ⟨n, hn'⟩ : ∃ n, s / 1073741824 = n := ⟨_, rfl⟩
  have hN : n * (sc : Int) ≤ V c * s := by
    have h1 : n * (sc : Int) ≤ n * (V c * 1073741824) := Int.mul_le_mul_of_nonneg_left hc (by omega)
    have h2 : V c * (n * 1073741824) ≤ V c * s := Int.mul_le_mul_of_nonneg_left (by omega) hc0
    have h3 : n * (V c * 1073741824) = V c * (n * 1073741824) := by ac_rfl
    omega
  have h1 := V_le (RS_mono hN)
  rw [← hS] at h1
  obtain ⟨b1, b2, b3, b4⟩ := round_near (n := n) (by omega) (by omega)
  generalize V (RS (n * (sc : Int))) = v at *
  have hS0 : 0 ≤ v := by omega
  exact ⟨hs0, by omega, by omega⟩

/-- The words that a mean is made of, where nothing is an edge. -/
theorem mean_words {old now part : Nat} (ho : isN old = false) (hn : isN now = false) (hp : isN part = false)
    (h1 : (key old).natAbs ≤ 6850974717710472879) (h2 : (key now).natAbs ≤ 6850974717710472879) (h3 : 0 ≤ key part) (h4 : key part ≤ 4607182418800017408) :
    ∃ d p : Int, d = RS ((V (key now) - V (key old)) * (sc : Int)) ∧ p = RS (V (key part) * V d) ∧ d.natAbs < 9218868437227405312 ∧ p.natAbs < 9218868437227405312 ∧
      (key (meanF old now part)) = RS ((V (key old) + V p) * (sc : Int)) ∧ isN (meanF old now part) = false ∧ (key (meanF old now part)).natAbs < 9218868437227405312 ∧ (V (key old) + V p).natAbs < rval 9218868437227405311 := by
  obtain ⟨_, _, hT⟩ := big_facts
  have hT0 : 0 < V 6850974717710472879 := by
    have := V_lt (k := 0) (l := 6850974717710472879) (by omega)
    have e0 : V 0 = 0 := by unfold V; simp [rval_zero]
    omega
  have v1 : ((V (key old)).natAbs : Int) ≤ V 6850974717710472879 := by rw [← V_abs]; exact V_le (by omega)
  have v2 : ((V (key now)).natAbs : Int) ≤ V 6850974717710472879 := by rw [← V_abs]; exact V_le (by omega)
  have e0 : V 0 = 0 := by unfold V; simp [rval_zero]
  have q0 : 0 ≤ V (key part) := by have := V_le h3; omega
  have q1 : V (key part) ≤ (sc : Int) := by have := V_le h4; rwa [V1] at this
  -- the difference
  rcases sub_facts hn ho with ⟨_, g, _⟩ | ⟨d, gd, dn, _, dk⟩
  · omega
  rw [KW_fin (by omega), KW_fin (by omega), ← Int.sub_mul] at dk
  obtain ⟨d1, d2, d3⟩ := round_any (n := V (key now) - V (key old)) (by omega)
  rw [← dk] at d1 d2 d3
  -- its part
  obtain ⟨p, gp, pn, _, pk⟩ := mul_facts (x := part) (y := d) (by omega) d1
  obtain ⟨p1, p2⟩ := part_between q0 q1 d1
  rw [← pk] at p1 p2
  have pb : ((V (key p)).natAbs : Int) ≤ (V (key d)).natAbs := by omega
  have pf : (key p).natAbs < 9218868437227405312 := by
    refine Nat.lt_of_not_le fun g => ?_
    have h5 : (d1 : (key d).natAbs < _) = d1 := rfl
    have h6 : ((key d).natAbs : Int) < ((key p).natAbs : Int) := by omega
    have := V_lt h6
    rw [V_abs, V_abs] at this
    omega
  -- the mean
  rcases add_facts ho pn with ⟨_, g, _⟩ | ⟨m, gm, mn, _, mk⟩
  · omega
  rw [KW_fin (by omega), KW_fin pf, ← Int.add_mul] at mk
  have hb : (V (key old) + V (key p)).natAbs < rval 9218868437227405311 := by omega
  obtain ⟨m1, _, _⟩ := round_any (n := V (key old) + V (key p)) hb
  have hm : meanF old now part = m := by
    unfold meanF
    rw [if_neg (by simp [ho]), if_neg (by simp [hn]), gd]; dsimp only
    rw [gp]; dsimp only
    rw [gm]
  rw [← mk] at m1
  rw [hm]
  exact ⟨key d, key p, dk, pk, d1, pf, mk, mn, m1, hb⟩

/-- SmoothBetween, behind its walk. -/
theorem mean_isN {old now part : Nat} (h : isN (meanF old now part) = true) : isN now = true := by
  by_cases ho : isN old = true
  · rwa [mean_old ho] at h
  · have ho' : isN old = false := by simpa using ho
    cases hn : isN now with
    | true => rfl
    | false =>
      exfalso
      unfold meanF at h
      rw [if_neg ho, if_neg (by simp [hn])] at h
      split at h
      · rw [hn] at h; cases h
      · split at h
        · rw [hn] at h; cases h
        · rename_i p e2
          split at h
          · rw [hn] at h; cases h
          · rename_i m e3
            by_cases hop : (isN old || isN p) = true
            · rw [add_nan hop] at e3; cases e3
            · have hpn : isN p = false := by simp at hop; exact hop.2
              rcases add_facts ho' hpn with ⟨g, _⟩ | ⟨r, g, gn, _⟩
              · rw [g] at e3; cases e3
              · rw [g] at e3
                have : r = m := by simpa using e3
                subst this; rw [gn] at h; cases h

theorem mean_zero {old now part : Nat} (ho : isN old = false) (hn : isN now = false) (hp : isN part = false)
    (h1 : (key old).natAbs ≤ 6850974717710472879) (h2 : (key now).natAbs ≤ 6850974717710472879) (h : key part = 0) : eqB (meanF old now part) old = true := by
  obtain ⟨d, p, hd, hpk, _, _, hk, hmn, _, _⟩ := mean_words ho hn hp h1 h2 (by omega) (by omega)
  refine eq_key.mpr ⟨hmn, ho, ?_⟩
  have e0 : V 0 = 0 := by unfold V; simp [rval_zero]
  have r0 : RS 0 = 0 := by unfold RS; simp [rnd_zero]
  rw [h, e0, Int.zero_mul, r0] at hpk
  rw [hk, hpk, e0, Int.add_zero, RS_V (by omega)]

theorem mean_one {old now part : Nat} (ho : isN old = false) (hn : isN now = false) (hp : isN part = false)
    (h1 : (key old).natAbs ≤ 6850974717710472879) (h2 : (key now).natAbs ≤ 6850974717710472879) (h : key part = 4607182418800017408) (h0 : key old = 0) : eqB (meanF old now part) now = true := by
  obtain ⟨d, p, hd, hpk, _, _, hk, hmn, _, _⟩ := mean_words ho hn hp h1 h2 (by omega) (by omega)
  refine eq_key.mpr ⟨hmn, hn, ?_⟩
  have e0 : V 0 = 0 := by unfold V; simp [rval_zero]
  rw [h0, e0, Int.sub_zero, RS_V (by omega)] at hd
  rw [h, V1, hd, Int.mul_comm, RS_V (by omega)] at hpk
  rw [hk, h0, e0, Int.zero_add, hpk, RS_V (by omega)]

theorem min_abs {a b : Int} (h1 : a.natAbs ≤ 6850974717710472879) (h2 : b.natAbs ≤ 6850974717710472879) : (min a b).natAbs < 9218868437227405312 := by omega
theorem max_abs {a b : Int} (h1 : a.natAbs ≤ 6850974717710472879) (h2 : b.natAbs ≤ 6850974717710472879) : (max a b).natAbs < 9218868437227405312 := by omega

theorem ge_low {m low sl lo : Nat} (hmn : isN m = false) (hmf : (key m).natAbs < 9218868437227405312) (hln : isN low = false) (hlf : (key low).natAbs < 9218868437227405312)
    (sln : isN sl = false) (slf : (key sl).natAbs < 9218868437227405312) (hlo : FR (double.sub low sl) lo) (b : V (key low) - V (key sl) ≤ V (key m)) : geB m lo = true := by
  refine ge_key.mpr ?_
  rcases sub_facts hln sln with ⟨_, g, _⟩ | ⟨lo', gl, ln, _, lk⟩
  · omega
  have := FR_some hlo gl; subst this
  refine ⟨hmn, ln, ?_⟩
  rw [lk, KW_fin hlf, KW_fin slf, ← Int.sub_mul]
  exact RS_le hmf b

theorem le_high {m high sl hi : Nat} (hmn : isN m = false) (hmf : (key m).natAbs < 9218868437227405312) (hhn : isN high = false) (hhf : (key high).natAbs < 9218868437227405312)
    (sln : isN sl = false) (slf : (key sl).natAbs < 9218868437227405312) (hhi : FR (double.add high sl) hi) (b : V (key m) ≤ V (key high) + V (key sl)) : leB m hi = true := by
  refine le_key.mpr ?_
  rcases add_facts hhn sln with ⟨_, g, _⟩ | ⟨hi', gl, ln, _, lk⟩
  · omega
  have := FR_some hhi gl; subst this
  refine ⟨hmn, ln, ?_⟩
  rw [lk, KW_fin hhf, KW_fin slf, ← Int.add_mul]
  exact RS_ge hmf b

theorem mean_between {old now part low high s sl lo hi : Nat} (ho : isN old = false) (hn : isN now = false) (hp : isN part = false)
    (h1 : (key old).natAbs ≤ 6850974717710472879) (h2 : (key now).natAbs ≤ 6850974717710472879) (h3 : 0 ≤ key part) (h4 : key part ≤ 4607182418800017408)
    (hln : isN low = false) (hlk : key low = min (key old) (key now)) (hhn : isN high = false) (hhk : key high = max (key old) (key now))
    (hs : FR (double.add (absF old) (absF now)) s) (hsl : FR (double.mul 4472406533629990549 s) sl) (hlo : FR (double.sub low sl) lo) (hhi : FR (double.add high sl) hi) :
    geB (meanF old now part) lo = true ∧ leB (meanF old now part) hi = true := by
  obtain ⟨d, p, hd, hpk, hdf, hpf, hk, hmn, hmf, hb⟩ := mean_words ho hn hp h1 h2 h3 h4
  obtain ⟨_, _, hT⟩ := big_facts
  obtain ⟨c1, c2, c3, c4⟩ := nine_facts
  have v1 : ((V (key old)).natAbs : Int) ≤ V 6850974717710472879 := by rw [← V_abs]; exact V_le (by omega)
  have v2 : ((V (key now)).natAbs : Int) ≤ V 6850974717710472879 := by rw [← V_abs]; exact V_le (by omega)
  have e0 : V 0 = 0 := by unfold V; simp [rval_zero]
  have hsc := sc_pos
  have q0 : 0 ≤ V (key part) := by have := V_le h3; omega
  have q1 : V (key part) ≤ (sc : Int) := by have := V_le h4; rwa [V1] at this
  obtain ⟨ao1, ao2, _⟩ := abs_facts old
  obtain ⟨an1, an2, _⟩ := abs_facts now
  -- the sizes' sum
  rcases add_facts (x := absF old) (y := absF now) (by rw [ao1]; exact ho) (by rw [an1]; exact hn) with ⟨_, g, _⟩ | ⟨s', gs, sn, _, sk⟩
  · rw [ao2] at g; omega
  have := FR_some hs gs; subst this
  rw [ao2, an2, KW_fin (by omega), KW_fin (by omega), ← Int.add_mul, V_abs, V_abs] at sk
  obtain ⟨A, hA⟩ : ∃ A, ((V (key old)).natAbs : Int) + ((V (key now)).natAbs : Int) = A := ⟨_, rfl⟩
  rw [hA] at sk
  obtain ⟨sf, _, _⟩ := round_any (n := A) (by omega)
  rw [← sk] at sf
  -- the slack
  obtain ⟨sl', gsl, sln, _, slk⟩ := mul_facts (x := 4472406533629990549) (y := s) (by rw [c1]; decide) sf
  have := FR_some hsl gsl; subst this
  rw [c1] at slk
  obtain ⟨s0, S0, hS⟩ := slack_nums (A := A) (s := V (key s)) (S := V (key sl)) (c := 4472406533629990549) (by omega) (by omega) c3 (by rw [sk]) (by rw [slk])
  have slf : (key sl).natAbs < 9218868437227405312 := by
    have hle : V (key sl) ≤ V (key s) := by
      have h5 := RS_mono (Int.mul_le_mul_of_nonneg_right c4 s0)
      rw [Int.mul_comm (sc : Int), RS_V sf, ← slk] at h5
      exact V_le h5
    refine Nat.lt_of_not_le fun g => ?_
    by_cases hneg : key sl < 0
    · have := V_lt hneg; omega
    · have h6 : key s < key sl := by omega
      have := V_lt h6; omega
  -- between
  obtain ⟨b1, b2⟩ := between_nums (X := V (key old)) (Y := V (key now)) (D := V d) (P := V p) (M := V (key (meanF old now part))) (S := V (key sl)) (T := V 6850974717710472879)
    hT (by omega) (by omega) (by omega) (by rw [hd]) (by rw [hpk]; exact part_between q0 q1 hdf) (by rw [hk]) S0 (by intro _; omega)
  have hlV : V (key low) = min (V (key old)) (V (key now)) := by
    rw [hlk]
    by_cases g : key old ≤ key now
    · have := V_le g; rw [Int.min_eq_left g, Int.min_eq_left this]
    · have g' : key now ≤ key old := by omega
      have := V_le g'; rw [Int.min_eq_right g', Int.min_eq_right this]
  have hhV : V (key high) = max (V (key old)) (V (key now)) := by
    rw [hhk]
    by_cases g : key old ≤ key now
    · have := V_le g; rw [Int.max_eq_right g, Int.max_eq_right this]
    · have g' : key now ≤ key old := by omega
      have := V_le g'; rw [Int.max_eq_left g', Int.max_eq_left this]
  rw [← hlV] at b1
  rw [← hhV] at b2
  refine ⟨ge_low hmn hmf hln (by rw [hlk]; exact min_abs h1 h2) sln slf hlo b1, le_high hmn hmf hhn (by rw [hhk]; exact max_abs h1 h2) sln slf hhi b2⟩

end Go.Proofs.Ytonjjblifcgapaa
