/-
  Whether the connection goes on.
-/
import Derived.Test.YtkoohdacneflfaaGreatDoorZ09
import Derived.Deep.RegionHeld
import Derived.Test.YtkoohdacneflfaaGreatDoorZ02
import Derived.BigQuiet
import Derived.Tactics2
import Derived.Recover
import Derived.Defers
import Derived.Laws.IdiomCopy
import Derived.Laws.CopyRow
import Derived.Lib.ByteType
import Derived.Lib.AppendZeros
import Derived.BigRegion
import Derived.Laws.Cover3
import Derived.Deep.Draws
namespace Go.Proofs.YtkoohdacneflfaaGreatDoor
open Go.RowKit Go.Shelf
set_option linter.unusedVariables false
set_option linter.unusedSimpArgs false
set_option maxRecDepth 100000
attribute [local go_sem] Oper.semAt_some

theorem keepA_close {k : Bool} {w : List UInt8} {r : List (List UInt8)} (h : sameN (trimB w) nClo = true) : keepA k (w :: r) = false := by rw [keepA, if_pos h]
theorem keepA_on {k : Bool} {w : List UInt8} {r : List (List UInt8)} (h : sameN (trimB w) nClo = false) : keepA k (w :: r) = keepA (k || sameN (trimB w) nAli) r := by rw [keepA, if_neg (by rw [h]; simp)]

/-- The two boxes. -/
def KC (w : World) (N : Nat) (kc : Bool) : Prop := w.cell? ⟨N + 1 + 1, 0, none⟩ = some (.bool kc) ∧ w.frozen? ⟨N + 1 + 1, 0, none⟩ = false ∧ w.cell? ⟨N + 1, 0, none⟩ = some (.bool false) ∧ w.frozen? ⟨N + 1, 0, none⟩ = false
theorem KC.aside {w w' : World} {N : Nat} {kc : Bool} {G : Nat → Prop} (h : KC w N kc) (ha : Aside G w w') (h1 : ¬ G (N + 1)) (h2 : ¬ G (N + 1 + 1)) : KC w' N kc := by
  obtain ⟨e1, e2, e3, e4⟩ := h
  have l1 := World.block_lt_of_cell? w _ e1
  have l3 := World.block_lt_of_cell? w _ e3
  exact ⟨ha.cell_lt e1 h2, (ha.frozen (p := ⟨N + 1 + 1, 0, none⟩) l1 h2).trans e2, ha.cell_lt e3 h1, (ha.frozen (p := ⟨N + 1, 0, none⟩) l3 h1).trans e4⟩
theorem KC.set {w : World} {N : Nat} {kc : Bool} (h : KC w N kc) (b : Bool) : KC (w.setCell ⟨N + 1 + 1, 0, none⟩ (.bool b)) N b := by
  obtain ⟨e1, e2, e3, e4⟩ := h
  refine ⟨World.cell?_setCell_same _ _ _ e1, by rw [World.frozen?_setCell]; exact e2, (World.cell?_setCell_other _ _ _ _ (fun e => ?_)).trans e3, by rw [World.frozen?_setCell]; exact e4⟩
  have := congrArg Addr.block e
  simp at this
/-- The blocks that the loops turn. -/
def GK (N q : Nat) (b : Nat) : Prop := b = N + 1 ∨ b = N + 1 + 1 ∨ q ≤ b

set_option maxHeartbeats 16000000 in
theorem keep_any {w : World} {hi : Nat} {u : Value} {h : Hd} (hh : Hv w hi u h) (h1 : hi ≤ w.heap.size) (hf : Fits h) (hx : ∀ x ∈ h.fs, x.2.length ≤ 1000000) (hE : Env w) :
    Calls Tryz.prog 53 #[u] w (Tells w (.bool (keepH h.v h.fs))) := by
  obtain ⟨m, t, v, l⟩ := h
  have HH := Lib.hid hh
  have HE := Lib.hid hE
  obtain ⟨sl, rfl, hs0⟩ := hh
  simp only at hs0 hx ⊢
  obtain ⟨a, c, rfl⟩ := Lst.shape hs0
  have hmf : ∀ (fn : Fn) (first cap : Array Value) (w : World), (Instr.makeFunc fn first cap).run Tryz.prog w = .ok (.func fn first cap) w := fun _ _ _ _ => rfl
  obtain ⟨N, hN⟩ : ∃ N, w.heap.size = N := ⟨_, rfl⟩
  obtain ⟨W0, hW0⟩ : ∃ W0, ((w.alloc (.cells #[.string (bs m), .string (bs t), .int .i64 v, .slice a l.length c] 42)).alloc (.cells #[.bool false] 4)).alloc (.cells #[.bool (v == 1)] 4) = W0 := ⟨_, rfl⟩
  have hb0 : Below w.heap.size w W0 := by rw [← hW0]; exact (((Below.refl _ _).alloc (Nat.le_refl _) _).alloc (by simp) _).alloc (by simp; omega) _
  have hz0 : W0.heap.size = N + 3 := by rw [← hW0]; simp [hN]
  have hk0 : KC W0 N (v == 1) := by
    rw [← hW0]
    exact ⟨by simp [go_sem, hN], by simp [go_sem, hN], by simp [go_sem, hN], by simp [go_sem, hN]⟩
  have HV := Lib.hid (values_any nCon ((HH.out.wide h1).later hb0) (Nat.le_refl _) hf.1 hf.n)
  have HB0 := Lib.hid hb0
  have HZ0 := Lib.hid hz0
  have HK0 := Lib.hid hk0
  have HE0 := Lib.hid (hE.later hb0)
  have HMM := Lib.hid (fun x (hx' : x ∈ vals l nCon) => show x.length ≤ 1000000 from by
    obtain ⟨y, hy, e⟩ := vals_mem hx'
    rw [e]; exact hx y hy)
  have HLN := Lib.hid (show (vals l nCon).length ≤ 900000 from Nat.le_trans (vals_len l nCon) hf.1)
  have HR := Lib.hid (show keepH v l = keepA (v == 1) ((vals l nCon).flatMap (spl 44)) from rfl)
  simp only at HV
  obtain ⟨L, hL⟩ : ∃ L, vals l nCon = L := ⟨_, rfl⟩
  obtain ⟨R, hR⟩ : ∃ R, keepH v l = R := ⟨_, rfl⟩
  obtain ⟨V1, hV1⟩ : ∃ V, (v == 1) = V := ⟨_, rfl⟩
  rw [hL] at HV HMM HLN HR
  rw [hR] at HR ⊢
  rw [hV1] at HR HK0 hW0
  have HW0 := Lib.hid hW0
  clear hs0 hb0 hz0 hk0 hf hx hE hL hR hW0
  refine calls_of_wp_marks Tryz.func53 rfl ?_
  simp only [Tryz.ntmps53, List.size_toArray, List.length_cons, List.length_nil, Nat.reduceAdd, Nat.reduceSub, Array.replicate_succ,
     Array.replicate_zero, List.push_toArray, List.append_toArray, List.nil_append, List.cons_append]
  go_wp2_with fail
  refine Calls.at_world (show _ = W0 from HW0.out) ?_
  refine (HV.out).mono ?_; rintro e w1 ⟨v1, rfl, ho1, hb1⟩
  obtain ⟨a1, k1, rfl⟩ := ho1.shape
  have HD1 := Lib.hid hb1
  have HS1 := Lib.hid (st_at ho1.st)
  clear ho1 hb1 HV HW0
  have HKC1 := Lib.hid (HK0.out.aside (G := fun _ => False) (Aside.of_all HD1.out) (fun h => h) (fun h => h))
  have HZ1 := Lib.hid (show N + 3 ≤ w1.heap.size by have := HD1.out.size; have := HZ0.out; omega)
  have HE1 := Lib.hid (HE0.out.later HD1.out)
  have HMX := Lib.hid (show mxB < N by
    obtain ⟨mm, hmm⟩ := HE.out.mx
    have := World.block_lt_of_cell? w _ hmm
    rw [hN] at this
    exact this)
  go_wp2_with fail
  refine wp_loop_ghost_k (fun g a' wr => ∃ (ds : List Deferred) (u5 u6 u13 u14 u15 u16 u17 u18 u19 u20 u21 u22 u23 u24 u25 u26 u27 u28 : Value),
    (∃ (k : Nat) (kc : Bool), k + g = L.length ∧ u13 = .int .i64 k ∧ Hid (keepA kc ((L.drop k).flatMap (spl 44)) = R) ∧ Hid (KC wr N kc) ∧ Hid (Aside (GK N w1.heap.size) w1 wr) ∧ Hid (MkL w1.heap.size ds wr.heap.size wr)) ∧
    a' = { tmps := #[.agg #[.string (bs m), .string (bs t), .int .i64 v, .slice a l.length c], .pointer (some ⟨N, 0, none⟩), .pointer (some ⟨N + 1, 0, none⟩), .pointer (some ⟨N + 1 + 1, 0, none⟩), undef, u5, u6, .pointer (some ⟨N, 2, none⟩), .int .i64 v, .bool V1, .agg #[.string (bs m), .string (bs t), .int .i64 v, .slice a l.length c], .slice a1 L.length k1, .int .i64 L.length, u13, u14, u15, u16, u17, u18, u19, u20, u21, u22, u23, u24, u25, u26, u27, u28, undef], defers := ds }) L.length ?start ?round
  case start =>
    refine ⟨[], undef, undef, .int .i64 0, undef, undef, undef, undef, undef, undef, undef, undef, undef, undef, undef, undef, undef, undef, undef, ⟨0, V1, by omega, rfl, Lib.hid (by rw [List.drop_zero]; exact HR.out.symm), HKC1, Lib.hid (Aside.refl _ _), Lib.hid trivial⟩, rfl⟩
  case round =>
    intro gk _ wr hinv
    obtain ⟨ds, u5, u6, u13, u14, u15, u16, u17, u18, u19, u20, u21, u22, u23, u24, u25, u26, u27, u28, ⟨k, kc, hk, rfl, HKA, HKC, HAS, HMK⟩, rfl⟩ := hinv
    intro _ _ _ _
    have hkb : k ≤ 900000 := by have := HLN.out; omega
    by_cases hlt : k < L.length
    · obtain ⟨b1, o1, rfl, hb1, hb2, hc1⟩ := HS1.out (by omega)
      have p0 := HAS.out.cell_lt (hc1 k hlt) (fun h => by
        have := HZ0.out
        have := HZ1.out
        rcases h with h | h | h <;> simp only at h <;> omega)
      have hdr : (L.drop k).flatMap (spl 44) = spl 44 L[k] ++ (L.drop (k + 1)).flatMap (spl 44) := by rw [List.drop_eq_getElem_cons hlt, List.flatMap_cons]
      have hxl := HMM.out L[k] (List.getElem_mem hlt)
      have hka := HKA.out
      rw [hdr] at hka
      obtain ⟨x, hx⟩ : ∃ x, L[k] = x := ⟨_, rfl⟩
      rw [hx] at p0 hxl hka
      have HKA2 := Lib.hid hka
      have HXL := Lib.hid hxl
      clear hdr hx hc1 hka hxl HKA
      go_wp2_with fail
      refine (splitSeq_any x wr).mono ?_
      rintro e w2 ⟨rfl, s1, s2, s3, s4, s5, s6⟩
      have HSS := Lib.hid (And.intro s1 (And.intro s2 (And.intro s3 (And.intro s4 (And.intro s5 s6)))))
      clear s1 s2 s3 s4 s5 s6 p0
      go_wp2_with fail
      obtain ⟨q, hq⟩ : ∃ q, wr.heap.size = q := ⟨_, rfl⟩
      have HQ := Lib.hid (And.intro hq (show w1.heap.size ≤ q by rw [← hq]; exact HAS.out.size))
      rw [hq] at HSS HMK ⊢
      obtain ⟨REST, hREST⟩ : ∃ r, (L.drop (k + 1)).flatMap (spl 44) = r := ⟨_, rfl⟩
      have HRS := Lib.hid hREST
      rw [hREST] at HKA2
      have hbw : Below wr.heap.size wr w2 := by rw [hq]; exact HSS.out.2.2.2.2.2
      have HAS2 := Lib.hid (HAS.out.trans (Aside.of_all hbw))
      have HKC2 := Lib.hid (HKC.out.aside (G := fun _ => False) (Aside.of_all hbw) (fun h => h) (fun h => h))
      have HMK2 := Lib.hid (HMK.out.keep (W' := w2) fun b _ hb => hbw.block b (by rw [hq]; exact hb))
      have HENV := Lib.hid (show Env w2 from HE.out.later (below_aside (B := w.heap.size) ((HB0.out.trans (HD1.out.mono HB0.out.size))) HAS2.out (fun b hb => by
        rw [hN] at hb
        have := HZ1.out
        exact ⟨by omega, fun h => by rcases h with h | h | h <;> omega⟩)))
      clear hREST hbw HAS HKC HMK hq
      apply wp_rangeFunc_T (D := q + 3) (hD := HSS.out.2.2.2.2.1) (K := fun b => b = q + 1 ∨ b = q ∨ b = q + 2 ∨ b = mxB) (G := fun b => b = q) (M := fun b => b = N + 1 ∨ b = N + 1 + 1 ∨ q + 3 + 2 ≤ b) (fin := none) (hg := rfl) (eg := enters_of Tryz.func122 (by kernel_rfl) rfl)
        (hseq := split_seq x (q + 1) q (q + 2) HXL.out (by omega) (by omega) (by have := HMX.out; have := HQ.out.2; have := HZ1.out; omega))
        (I := fun j W => ∃ kc, keepA kc ((spl 44 x).drop j ++ REST) = R ∧ KC W N kc ∧ Aside (GK N q) w2 W) (Ix := fun c j W => c = .ret ∧ R = false ∧ (∃ kc, KC W N kc) ∧ Aside (GK N q) w2 W)
      case hassign =>
        intro l x W K hK
        gi_wp2
        exact hK
      case hSt => exact ⟨HSS.out.1, ⟨HSS.out.2.1, HSS.out.2.2.1⟩, HSS.out.2.2.2.1, HENV.out.mx⟩
      case hStK => exact fun A B h hk _ => h.kept hk
      case hK =>
        intro b hb
        have := HMX.out
        have := HQ.out.2
        have := HZ1.out
        rcases hb with h | h | h | h <;> omega
      case hM =>
        intro b hb
        have := HMX.out
        have := HQ.out.2
        have := HZ1.out
        refine ⟨fun h => ?_, ?_, ?_⟩
        · rcases hb with g | g | g <;> rcases h with h | h | h | h <;> omega
        · rcases hb with g | g | g <;> omega
        · rcases hb with g | g | g <;> omega
      case hGK => exact fun b h => .inr (.inl h)
      case hps => rfl
      case hI =>
        rintro j A B ⟨kc, e1, e2, e3⟩ ha
        have := HQ.out.2
        have := HZ1.out
        exact ⟨kc, e1, e2.aside ha (by omega) (by omega), e3.trans (ha.mono fun b _ h => .inr (.inr (by omega)))⟩
      case hIx =>
        rintro c j A B ⟨e0, e1, ⟨kc, e2⟩, e3⟩ ha
        have := HQ.out.2
        have := HZ1.out
        exact ⟨e0, e1, ⟨kc, e2.aside ha (by omega) (by omega)⟩, e3.trans (ha.mono fun b _ h => .inr (.inr (by omega)))⟩
      case h0 => exact ⟨kc, by rw [List.drop_zero]; exact HKA2.out, HKC2.out, Aside.refl _ _⟩
      case hpanic => exact fun _ h => by cases h
      case hstop =>
        rintro c j W hj ⟨rfl, hRf, ⟨kc', hkc⟩, has⟩ hD
        have HFIN := Lib.hid (fun (tmps : Array Value) (hr : ∀ W', W'.cell? ⟨N + 1, 0, none⟩ = some (.bool false) → (results Tryz.f53 tmps).run Tryz.prog W' = .ok (.bool false) W') (ar : Array Value) =>
          marks_out (P := Tryz.prog) (fn := Tryz.f53) (R := Tells w (.bool R)) (tmps := tmps) w1.heap.size ({ target := .collected (q + 3), args := ar } :: ds) (q + 4) W
            ⟨q + 3, by have := HQ.out.2; omega, by omega, rfl, hD, (HMK2.out.keep (W' := W) fun b hb hb2 => has.block b (by have := HSS.out.2.2.2.2.1; omega) (fun h => by
              have := HZ1.out
              rcases h with h | h | h <;> omega)).wide (by omega)⟩
            (fun W' ha' => by
              have hk' := hkc.aside ha' (by have := HZ1.out; omega) (by have := HZ1.out; omega)
              refine ⟨.bool false, hr W' hk'.2.2.1, by rw [hRf], ?_⟩
              have := HZ1.out
              have := HQ.out.2
              have hbb : Below w.heap.size w w2 := below_aside (B := w.heap.size) (HB0.out.trans (HD1.out.mono HB0.out.size)) HAS2.out (fun b hb => by
                rw [hN] at hb
                exact ⟨by omega, fun h => by rcases h with h | h | h <;> omega⟩)
              refine below_aside (below_aside hbb has (fun b hb => ?_)) ha' (fun b hb => ?_)
              · rw [hN] at hb
                exact ⟨by have := HSS.out.2.2.2.2.1; omega, fun h => by rcases h with h | h | h <;> omega⟩
              · rw [hN] at hb
                exact ⟨by have := has.size; have := HSS.out.2.2.2.2.1; omega, by omega⟩))
        clear hkc has hD hRf
        go_wp2_with fail
        refine HFIN.out _ (fun W' hw => ?_) _
        simp [results, Tryz.results53, go_sem, hw]
      case hdone =>
        rintro _ W ⟨kc', hka, hkc, has⟩ hsz hD
        have HKA3 := Lib.hid (show keepA kc' ((L.drop (k + 1)).flatMap (spl 44)) = R by
          rw [HRS.out, ← hka, List.length_map, List.drop_of_length_le (Nat.le_refl _), List.nil_append])
        have HKC3 := Lib.hid hkc
        have HAS3 := Lib.hid (HAS2.out.trans (has.mono fun b _ h => by
          have := HQ.out.2
          rcases h with h | h | h
          · exact .inl h
          · exact .inr (.inl h)
          · exact .inr (.inr (by omega))))
        have HMK3 := Lib.hid (show ∀ ar, MkL w1.heap.size ({ target := .collected (q + 3), args := ar } :: ds) W.heap.size W from fun ar =>
            ⟨q + 3, by have := HQ.out.2; omega, by omega, rfl, hD, (HMK2.out.keep (W' := W) fun b hb hb2 => has.block b (by have := HSS.out.2.2.2.2.1; omega) (fun h => by
              have := HZ1.out
              rcases h with h | h | h <;> omega)).wide (by omega)⟩)
        clear hka hkc has hsz hD
        go_wp2_with fail
        go_roundg (L.length - (k + 1))
        case measure => omega
        case rel => exact ⟨k + 1, kc', by omega, by go_num, HKA3, HKC3, HAS3, Lib.hid (HMK3.out _)⟩
      case hbody =>
        rintro ll j yb W hy hsz ⟨kc', hka, hkc, has⟩
        rw [List.getElem?_map] at hy
        obtain ⟨y, hyy, rfl⟩ := Option.map_eq_some_iff.mp hy
        have hjl : j < (spl 44 x).length := (List.getElem?_eq_some_iff.mp hyy).1
        have hdj : (spl 44 x).drop j = y :: (spl 44 x).drop (j + 1) := by
          rw [List.drop_eq_getElem_cons hjl]
          congr 1
          exact Option.some.inj ((List.getElem?_eq_getElem hjl).symm.trans hyy)
        have hyl : y.length ≤ 1000000 := Nat.le_trans (spl_sum 44 x y (List.mem_of_getElem? hyy)) HXL.out
        rw [hdj, List.cons_append] at hka
        have HBR := Lib.hid (fun w => bare_any y (by omega) w)
        have HCL := Lib.hid (fun w => same_any2 (trimB y) nClo (by have := trimB_len y; omega) w)
        have HAL := Lib.hid (fun w => same_any2 (trimB y) nAli (by have := trimB_len y; omega) w)
        have HK1 := Lib.hid (show sameN (trimB y) nClo = true → R = false from fun h => by rw [← hka, keepA_close h])
        have HK2 := Lib.hid (show sameN (trimB y) nClo = false → keepA (kc' || sameN (trimB y) nAli) ((spl 44 x).drop (j + 1) ++ REST) = R from fun h => by rw [← hka, keepA_on h])
        obtain ⟨C1, hC1⟩ : ∃ C, sameN (trimB y) nClo = C := ⟨_, rfl⟩
        obtain ⟨C2, hC2⟩ : ∃ C, sameN (trimB y) nAli = C := ⟨_, rfl⟩
        obtain ⟨T, hT⟩ : ∃ C, trimB y = C := ⟨_, rfl⟩
        rw [hC1] at HK1 HK2
        rw [hC2] at HK2
        rw [hT] at HBR
        simp only [hC1] at HCL
        simp only [hC2] at HAL
        rw [hT] at HCL HAL
        have HKC3 := Lib.hid hkc
        have HAS3 := Lib.hid has
        have HSZ3 := Lib.hid hsz
        have HAM := Lib.hid (show ∀ A B : World, q + 3 + 2 ≤ A.heap.size → Below A.heap.size A B → Aside (fun b => b = N + 1 ∨ b = N + 1 + 1 ∨ q + 3 + 2 ≤ b) A B from fun A B _ hb => Aside.of_all hb)
        clear hy hyy hjl hdj hyl hka hkc has hsz hC1 hC2 hT
        gi_wp2_with fail
        refine ⟨trivial, rfl, (CallsIn.inRound ll (callsIn_wide.2 (HBR.out W))).mono ?_⟩
        rintro e w3 ⟨rfl, hb3⟩
        have HD3 := Lib.hid hb3
        clear hb3
        gi_wp2_with fail
        refine ⟨trivial, rfl, (CallsIn.inRound ll (callsIn_wide.2 (HCL.out w3))).mono ?_⟩
        rintro e w4 ⟨rfl, hb4⟩
        have HD4 := Lib.hid (bel_call HD3.out hb4)
        have HKC4 := Lib.hid (HKC3.out.aside (G := fun _ => False) (Aside.of_all (bel_call HD3.out hb4)) (fun h => h) (fun h => h))
        have HAS4 := Lib.hid (HAS3.out.trans (Aside.of_all (bel_call HD3.out hb4)))
        clear hb4
        obtain ⟨d1, d2, d3, d4⟩ := HKC4.out
        cases C1 with
        | true =>
          have HRF := Lib.hid (HK1.out rfl)
          have HAS5 := Lib.hid (HAS4.out.trans (Aside.setCell w4 (p := ⟨N + 1, 0, none⟩) (.bool false) (.inl rfl)))
          have HAM5 := Lib.hid ((HAM.out W w4 HSZ3.out HD4.out).trans (Aside.setCell w4 (p := ⟨N + 1, 0, none⟩) (.bool false) (.inl rfl)))
          have HKC5 := Lib.hid (show KC (w4.setCell ⟨N + 1, 0, none⟩ (.bool false)) N kc' from
            ⟨(World.cell?_setCell_other _ _ _ _ (fun e => by have := congrArg Addr.block e; simp at this)).trans d1, by rw [World.frozen?_setCell]; exact d2, World.cell?_setCell_same _ _ _ d3, by rw [World.frozen?_setCell]; exact d4⟩)
          clear d1 d2
          gi_wp2_with fail
          exact ⟨HAM5.out, rfl, HRF.out, ⟨kc', HKC5.out⟩, HAS5.out⟩
        | false =>
          have HKN := Lib.hid (HK2.out rfl)
          gi_wp2_with fail
          refine ⟨trivial, rfl, (CallsIn.inRound ll (callsIn_wide.2 (HAL.out w4))).mono ?_⟩
          rintro e w5 ⟨rfl, hb5⟩
          have HD5 := Lib.hid (bel_call HD4.out hb5)
          have HKC5 := Lib.hid (HKC4.out.aside (G := fun _ => False) (Aside.of_all hb5) (fun h => h) (fun h => h))
          have HAS5 := Lib.hid (HAS4.out.trans (Aside.of_all hb5))
          clear hb5 d1 d2 d3 d4
          obtain ⟨d1, d2, d3, d4⟩ := HKC5.out
          cases C2 with
          | true =>
            have HAS6 := Lib.hid (HAS5.out.trans (Aside.setCell w5 (p := ⟨N + 1 + 1, 0, none⟩) (.bool true) (.inr (.inl rfl))))
            have HAM6 := Lib.hid ((HAM.out W w5 HSZ3.out HD5.out).trans (Aside.setCell w5 (p := ⟨N + 1 + 1, 0, none⟩) (.bool true) (.inr (.inl rfl))))
            have HKC6 := Lib.hid (HKC5.out.set true)
            have HKT := Lib.hid (show keepA true ((spl 44 x).drop (j + 1) ++ REST) = R by rw [← HKN.out]; simp)
            clear d3 d4
            gi_wp2_with fail
            exact ⟨HAM6.out, true, HKT.out, HKC6.out, HAS6.out⟩
          | false =>
            have HAM6 := Lib.hid (HAM.out W w5 HSZ3.out HD5.out)
            have HKT := Lib.hid (show keepA kc' ((spl 44 x).drop (j + 1) ++ REST) = R by rw [← HKN.out]; simp)
            gi_wp2_with fail
            exact ⟨HAM6.out, kc', HKT.out, HKC5.out, HAS5.out⟩
    · have t1 : ¬ ((k : Int) < L.length) := by omega
      have HRK := Lib.hid (show kc = R by rw [← HKA.out, List.drop_of_length_le (by omega)]; rfl)
      obtain ⟨d1, d2, d3, d4⟩ := HKC.out
      have HKS := Lib.hid (show (wr.setCell ⟨N + 1, 0, none⟩ (.bool kc)).cell? ⟨N + 1, 0, none⟩ = some (.bool kc) from World.cell?_setCell_same _ _ _ d3)
      have HFIN := Lib.hid (fun (tmps : Array Value) (hr : ∀ W', W'.cell? ⟨N + 1, 0, none⟩ = some (.bool kc) → (results Tryz.f53 tmps).run Tryz.prog W' = .ok (.bool kc) W') =>
          marks_out (P := Tryz.prog) (fn := Tryz.f53) (R := Tells w (.bool R)) (tmps := tmps) w1.heap.size ds wr.heap.size (wr.setCell ⟨N + 1, 0, none⟩ (.bool kc))
            (HMK.out.keep fun b hb hb2 => Below.heap_setCell _ _ _ _ (fun e => by
              have := HZ1.out
              simp only at e
              omega))
            (fun W' ha' => by
              refine ⟨.bool kc, hr W' (ha'.cell_lt HKS.out (by have := HZ1.out; simp only; omega)), by rw [HRK.out], ?_⟩
              have := HZ1.out
              have hbb : Below w.heap.size w wr := below_aside (B := w.heap.size) (HB0.out.trans (HD1.out.mono HB0.out.size)) HAS.out (fun b hb => by
                rw [hN] at hb
                exact ⟨by omega, fun h => by rcases h with h | h | h <;> omega⟩)
              refine below_aside (hbb.setCell (p := ⟨N + 1, 0, none⟩) (by rw [hN]; simp) _) ha' (fun b hb => ?_)
              rw [hN] at hb
              exact ⟨by have := HAS.out.size; simp [World.setCell]; omega, by omega⟩))
      clear HKA
      go_wp2_with fail
      refine HFIN.out _ (fun W' hw => ?_)
      simp [results, Tryz.results53, go_sem, hw]
end Go.Proofs.YtkoohdacneflfaaGreatDoor

/-
  The document's words; its Keep.
-/
namespace Go.Proofs.YtkoohdacneflfaaGreatDoor
open Go.RowKit Go.Shelf
set_option linter.unusedVariables false
set_option linter.unusedSimpArgs false
set_option maxRecDepth 100000

def SpPost (w : World) (L : List (List UInt8)) (e : Ending) (w' : World) : Prop := ∃ v, e = .returned v ∧ OwnT w' w.heap.size v L ∧ Below w.heap.size w w'

set_option maxHeartbeats 4000000 in
theorem rsplit_any {w : World} (s : List UInt8) (c : UInt8) (hs : s.length ≤ 900000) : Calls Tryz.prog 55 #[.string (bs s), .int .u8 (c.toNat : Nat)] w (SpPost w (spl c s)) := by
  obtain ⟨X, hX⟩ : ∃ X, spl c s = X := ⟨_, rfl⟩
  rw [hX]
  have H0 := Lib.hid (show splA c [] [] s = X by rw [splA_0]; exact hX)
  have HB := Lib.hid (Below.refl w.heap.size w)
  clear hX
  go_enter Tryz.func55, Tryz.ntmps55
  go_wp2_with fail
  go_loopg [5, 6, 7] s.length (fun g v5 v6 v7 wr => ∃ (k : Nat) (out : List (List UInt8)) (wd : List UInt8), k + g = s.length ∧ v7 = .int .i64 k ∧ v6 = .string (bs wd) ∧ out.length + wd.length ≤ k ∧ Hid (OwnT wr w.heap.size v5 out) ∧ Hid (splA c out wd (s.drop k) = X) ∧ Hid (Below w.heap.size w wr))
  case atStart => exact ⟨0, [], [], by omega, rfl, rfl, by simp, OwnT.nil _ _, by simpa using H0, HB⟩
  case round =>
    clear H0 HB
    obtain ⟨k, out, wd, hk, rfl, rfl, hlen, HO, HS, HB⟩ := hrel
    obtain ⟨a5, c5, rfl⟩ := HO.out.shape
    have hkb : k ≤ 900000 := by omega
    by_cases hlt : k < s.length
    · have ia := ix_run s k hlt
      have hcut := cut_run s k (k + 1) (by omega) (by omega)
      have hdr : s.drop k = s[k] :: s.drop (k + 1) := List.drop_eq_getElem_cons hlt
      rw [show k + 1 - k = 1 by omega, hdr] at hcut
      have hS := HS.out
      rw [hdr] at hS
      obtain ⟨x, hx⟩ : ∃ x, s[k] = x := ⟨_, rfl⟩
      rw [hx] at ia hS hcut
      have hcut : ∀ w, (Instr.slice 9 (.string (bs s)) (some (.int .i64 k)) (some (.int .i64 (k + 1))) none).run Tryz.prog w = .ok (.string (bs [x])) w := fun w => by
        have := hcut w
        simpa using this
      by_cases hxc : x = c
      · subst hxc
        have HS2 := Lib.hid (show splA x (out ++ [wd]) [] (s.drop (k + 1)) = X by rw [← hS, splA_sep])
        clear hS hdr hx hcut
        go_wp2_with (at_builtin; refine wpList_appT rfl (.tmp 19) (.tmp 21) rfl rfl w.heap.size ?l1 ?h1 _ _ out [wd] rfl rfl ?a1 ?b1 ?c1 ?d1 ?_)
        case l1 => exact wr.heap.size
        case h1 => exact wr.heap.size + 1
        case a1 => exact HO.out.below ((Below.refl _ _).alloc (Nat.le_refl _) _)
        case b1 => exact st_one wr wd
        case c1 => first | omega | (simp; omega)
        case d1 => have := HB.out.size; simp; omega
        intro a' c' w' HO3 hb3
        have HB3 := Lib.hid ((HB.out.alloc HB.out.size _).trans hb3.out)
        clear hb3
        go_wp2_with fail
        go_roundg (s.length - (k + 1))
        case measure => omega
        case rel => exact ⟨k + 1, out ++ [wd], [], by omega, by go_num, rfl, by simp; omega, HO3, HS2, HB3⟩
      · have HS2 := Lib.hid (show splA c out (wd ++ [x]) (s.drop (k + 1)) = X by rw [← hS, splA_go _ _ _ _ _ hxc])
        have t1 : ((x.toNat : Int) == c.toNat) = false := by
          rw [beq_eq_false_iff_ne]
          exact fun e => hxc (UInt8.toNat_inj.mp (by exact_mod_cast e))
        have r1 : ∀ w, (Op.stringOp .add (bs wd) (bs [x])).run Tryz.prog w = .ok (.string (bs (wd ++ [x]))) w := fun w => adds_run wd [x] (by omega) (by simp) w
        clear hS hdr hx hxc
        go_wp2_with fail
        go_roundg (s.length - (k + 1))
        case measure => omega
        case rel => exact ⟨k + 1, out, wd ++ [x], by omega, by go_num, rfl, by simp; omega, HO, HS2, HB⟩
    · have t1 : ¬ ((k : Int) < s.length) := by omega
      have HXX := Lib.hid (show X = out ++ [wd] by rw [← HS.out, List.drop_of_length_le (by omega), splA_nil])
      go_wp2_with (at_builtin; refine wpList_appT rfl (.tmp 30) (.tmp 32) rfl rfl w.heap.size ?l1 ?h1 _ _ out [wd] rfl rfl ?a1 ?b1 ?c1 ?d1 ?_)
      case l1 => exact wr.heap.size
      case h1 => exact wr.heap.size + 1
      case a1 => exact HO.out.below ((Below.refl _ _).alloc (Nat.le_refl _) _)
      case b1 => exact st_one wr wd
      case c1 => first | omega | (simp; omega)
      case d1 => have := HB.out.size; simp; omega
      intro a' c' w' HO3 hb3
      have HB3 := Lib.hid ((HB.out.alloc HB.out.size _).trans hb3.out)
      clear hb3
      go_wp2_with fail
      go_ret
      exact ⟨_, rfl, by rw [HXX.out]; exact HO3.out, HB3.out⟩

theorem vals_drop (l : List Fd) (name : List UInt8) (k : Nat) (hk : k < l.length) : vals (l.drop k) name = (if sameN l[k].1 name then [l[k].2] else []) ++ vals (l.drop (k + 1)) name := by
  rw [List.drop_eq_getElem_cons hk]
  unfold vals
  rw [List.filter_cons]
  split <;> simp

set_option maxHeartbeats 16000000 in
theorem rkeep_any {w : World} {hi : Nat} {u : Value} {h : Hd} (hh : Hv w hi u h) (h1 : hi ≤ w.heap.size) (hf : Fits h) (hx : ∀ x ∈ h.fs, x.2.length ≤ 900000) :
    Calls Tryz.prog 40 #[u] w (Tells w (.bool (keepH h.v h.fs))) := by
  obtain ⟨m, t, v, l⟩ := h
  have HH := Lib.hid hh
  obtain ⟨sl, rfl, hs0⟩ := hh
  simp only at hs0 hx ⊢
  obtain ⟨a, c, rfl⟩ := Lst.shape hs0
  have hb0 : Below w.heap.size w (w.alloc (.cells #[.string (bs m), .string (bs t), .int .i64 v, .slice a l.length c] 42)) := (Below.refl _ _).alloc (Nat.le_refl _) _
  have hx0 := cel_new4 w (.string (bs m)) (.string (bs t)) (.int .i64 v) (.slice a l.length c) 42
  have hv0 : Hv (w.alloc (.cells #[.string (bs m), .string (bs t), .int .i64 v, .slice a l.length c] 42)) (w.alloc (.cells #[.string (bs m), .string (bs t), .int .i64 v, .slice a l.length c] 42)).heap.size (.agg #[.string (bs m), .string (bs t), .int .i64 v, .slice a l.length c]) ⟨m, t, v, l⟩ := ((HH.out.wide h1).later hb0)
  obtain ⟨N, hN⟩ : ∃ N, w.heap.size = N := ⟨_, rfl⟩
  rw [hN] at hx0
  have HB0 := Lib.hid hb0
  have HX0 := Lib.hid hx0
  obtain ⟨W, hW⟩ : ∃ W, w.alloc (.cells #[.string (bs m), .string (bs t), .int .i64 v, .slice a l.length c] 42) = W := ⟨_, rfl⟩
  rw [hW] at HB0 HX0 hv0
  have HV0 := Lib.hid hv0
  have HLN := Lib.hid (show l.length ≤ 900000 from hf.1)
  have HFX := Lib.hid (fun x (h : x ∈ l) => And.intro (hf.n x h) (hx x h))
  obtain ⟨R, hR⟩ : ∃ R, keepH v l = R := ⟨_, rfl⟩
  obtain ⟨V1, hV1⟩ : ∃ V, (v == 1) = V := ⟨_, rfl⟩
  have HR := Lib.hid (show keepA V1 ((vals (l.drop 0) nCon).flatMap (spl 44)) = R by rw [← hV1, List.drop_zero]; exact hR)
  rw [hR]
  have H0 := Lib.hid (Below.refl W.heap.size W)
  obtain ⟨c0, c1, c2, c3⟩ := HX0.out.four
  clear hs0 hb0 hx0 hv0 hf hx hR
  go_enter Tryz.func40, Tryz.ntmps40
  go_wp2_with fail
  clear c0 c1 c2 c3
  go_loopg [3, 4] l.length (fun n v3 v4 wr => ∃ (k : Nat) (kc : Bool), k + n = l.length ∧ v4 = .int .i64 k ∧ v3 = .bool kc ∧ Hid (keepA kc ((vals (l.drop k) nCon).flatMap (spl 44)) = R) ∧ Hid (Below W.heap.size W wr))
  case atStart => exact ⟨0, V1, by omega, rfl, rfl, HR, H0⟩
  case round =>
    clear HR H0
    obtain ⟨k, kc, hk, rfl, rfl, HK, HB⟩ := hrel
    have hkb : k ≤ 900000 := by have := HLN.out; omega
    obtain ⟨c0, c1, c2, c3⟩ := (HX0.out.below (by simp) HB.out).four
    by_cases hlt : k < l.length
    · obtain ⟨b, off, c2', he, hb, hc⟩ := (HV0.out.later HB.out).sf.at_ k hlt
      injection he with he hn3 hc3
      clear hn3 hc3
      subst he
      have HAT := Lib.hid (And.intro hc (show b < wr.heap.size from hb))
      obtain ⟨p0, p1⟩ := hc
      have hvs := vals_drop l nCon k hlt
      have hln := HFX.out l[k] (List.getElem_mem hlt)
      obtain ⟨x, hx⟩ : ∃ x, l[k] = x := ⟨_, rfl⟩
      rw [hx] at p0 p1 hvs hln HAT
      have HSM := Lib.hid (rsame_any x.1 nCon hln.1 wr)
      obtain ⟨S, hS⟩ : ∃ S, sameN x.1 nCon = S := ⟨_, rfl⟩
      rw [hS] at HSM hvs
      obtain ⟨REST, hRS⟩ : ∃ r, (vals (l.drop (k + 1)) nCon).flatMap (spl 44) = r := ⟨_, rfl⟩
      have HRS := Lib.hid hRS
      have hkk := HK.out
      rw [hvs, List.flatMap_append, hRS] at hkk
      have HKK := Lib.hid hkk
      have HLX := Lib.hid hln.2
      clear hS hvs hln hx hb hRS hkk HK
      go_wp2_with fail
      refine (HSM.out).mono ?_; rintro e w3 ⟨rfl, hb3⟩
      have HB3 := Lib.hid (bel_call HB.out hb3)
      obtain ⟨q0, q1⟩ := HAT.out.1.keep fun o => hb3.cell (p := ⟨b, o, none⟩) HAT.out.2
      clear hb3 c0 c1 c2 c3 p0 p1
      obtain ⟨c0, c1, c2, c3⟩ := (HX0.out.below (by simp) HB3.out).four
      cases S with
      | false =>
        have HK2 := Lib.hid (show keepA kc ((vals (l.drop (k + 1)) nCon).flatMap (spl 44)) = R by rw [HRS.out]; simpa using HKK.out)
        go_wp2_with fail
        go_roundg (l.length - (k + 1))
        case measure => omega
        case rel => exact ⟨k + 1, kc, by omega, by go_num, rfl, HK2, HB3⟩
      | true =>
        have HK2 := Lib.hid (show keepA kc ((spl 44 x.2).drop 0 ++ REST) = R by simpa using HKK.out)
        have HSP := Lib.hid (rsplit_any (w := w3) x.2 44 (by have := HLX.out; omega))
        obtain ⟨Y, hY⟩ : ∃ Y, spl 44 x.2 = Y := ⟨_, rfl⟩
        have HYL := Lib.hid (show (∀ y ∈ Y, y.length ≤ 900000) ∧ Y.length ≤ 900001 from by
          rw [← hY]
          refine ⟨fun y hy => Nat.le_trans (spl_sum 44 x.2 y hy) HLX.out, ?_⟩
          rw [spl_len]
          have h5 := Lib.countB_le ⟨#[44]⟩ (Nat.le_refl 1) _ (bs x.2) (Nat.le_refl _)
          rw [bs_size] at h5
          have h6 := HLX.out
          show Lib.countB (bs x.2) ⟨#[44]⟩ + 1 ≤ _
          omega)
        rw [hY] at HK2 HSP
        clear hY
        go_wp2_with fail
        refine (HSP.out).mono ?_; rintro e w4 ⟨v4, rfl, ho4, hb4⟩
        have HB4 := Lib.hid (bel_call HB3.out hb4)
        obtain ⟨a4, k4, rfl⟩ := ho4.shape
        have HS4 := Lib.hid (st_at ho4.st)
        clear hb4 ho4 c0 c1 c2 c3 q0 q1
        go_wp2_with fail
        go_loopg [3, 6] Y.length (fun n v3 v6 wq => ∃ (j : Nat) (kc : Bool), j + n = Y.length ∧ v6 = .int .i64 j ∧ v3 = .bool kc ∧ Hid (keepA kc (Y.drop j ++ REST) = R) ∧ Hid (Below w4.heap.size w4 wq))
        case atStart => exact ⟨0, kc, by omega, rfl, rfl, HK2, Lib.hid (Below.refl _ _)⟩
        case round =>
          clear HK2
          obtain ⟨j, kc, hj, rfl, rfl, HK, HB5⟩ := hrel
          have hjb : j ≤ 900001 := by have := HYL.out.2; omega
          by_cases hjl : j < Y.length
          · obtain ⟨b4, o4, rfl, _, hb42, hc4⟩ := HS4.out (by omega)
            have p0 := (HB5.out.cell (p := ⟨b4, o4 + j, none⟩) hb42).trans (hc4 j hjl)
            have HP0 := Lib.hid (fun (wx : World) (hb : Below w4.heap.size w4 wx) => (hb.cell (p := ⟨b4, o4 + j, none⟩) hb42).trans (hc4 j hjl))
            have hka := HK.out
            rw [List.drop_eq_getElem_cons hjl, List.cons_append] at hka
            have hyl := HYL.out.1 _ (List.getElem_mem hjl)
            obtain ⟨y, hy⟩ : ∃ y, Y[j] = y := ⟨_, rfl⟩
            rw [hy] at p0 HP0 hka hyl
            have HTR := Lib.hid (fun w => rtrim_any y (by omega) w)
            have HCL := Lib.hid (fun w => rsame_any (trimB y) nClo (by have := trimB_len y; omega) w)
            have HAL := Lib.hid (fun w => rsame_any (trimB y) nAli (by have := trimB_len y; omega) w)
            have HK1 := Lib.hid (show sameN (trimB y) nClo = true → R = false from fun h => by rw [← hka, keepA_close h])
            have HK2 := Lib.hid (show sameN (trimB y) nClo = false → keepA (kc || sameN (trimB y) nAli) (Y.drop (j + 1) ++ REST) = R from fun h => by rw [← hka, keepA_on h])
            obtain ⟨C1, hC1⟩ : ∃ C, sameN (trimB y) nClo = C := ⟨_, rfl⟩
            obtain ⟨C2, hC2⟩ : ∃ C, sameN (trimB y) nAli = C := ⟨_, rfl⟩
            obtain ⟨T, hT⟩ : ∃ C, trimB y = C := ⟨_, rfl⟩
            rw [hC1] at HK1 HK2
            rw [hC2] at HK2
            rw [hT] at HTR
            simp only [hC1] at HCL
            simp only [hC2] at HAL
            rw [hT] at HCL HAL
            clear hy hka hyl hC1 hC2 hT hc4
            go_wp2_with fail
            refine (HTR.out _).mono ?_; rintro e w5 ⟨rfl, hb5⟩
            have HB6 := Lib.hid (bel_call HB5.out hb5)
            clear hb5 p0
            go_wp2_with fail
            refine (HCL.out _).mono ?_; rintro e w6 ⟨rfl, hb6⟩
            have HB7 := Lib.hid (bel_call HB6.out hb6)
            clear hb6
            cases C1 with
            | true =>
              have HRF := Lib.hid (HK1.out rfl)
              go_wp2_with fail
              go_ret
              exact ⟨by rw [HRF.out]; rfl, HB0.out.trans ((bel_call HB4.out HB7.out).mono HB0.out.size)⟩
            | false =>
              have HKN := Lib.hid (HK2.out rfl)
              have p1 := HP0.out _ HB7.out
              go_wp2_with fail
              refine (HTR.out _).mono ?_; rintro e w7 ⟨rfl, hb7⟩
              have HB8 := Lib.hid (bel_call HB7.out hb7)
              clear hb7 p1
              go_wp2_with fail
              refine (HAL.out _).mono ?_; rintro e w8 ⟨rfl, hb8⟩
              have HB9 := Lib.hid (bel_call HB8.out hb8)
              clear hb8
              cases C2 with
              | true =>
                have HKT := Lib.hid (show keepA true (Y.drop (j + 1) ++ REST) = R by rw [← HKN.out]; simp)
                go_wp2_with fail
                go_roundg (Y.length - (j + 1))
                case measure => omega
                case rel => exact ⟨j + 1, true, by omega, by go_num, rfl, HKT, HB9⟩
              | false =>
                have HKT := Lib.hid (show keepA kc (Y.drop (j + 1) ++ REST) = R by rw [← HKN.out]; simp)
                go_wp2_with fail
                go_roundg (Y.length - (j + 1))
                case measure => omega
                case rel => exact ⟨j + 1, kc, by omega, by go_num, rfl, HKT, HB9⟩
          · have t1 : ¬ ((j : Int) < Y.length) := by omega
            have HK5 := Lib.hid (show keepA kc ((vals (l.drop (k + 1)) nCon).flatMap (spl 44)) = R by rw [HRS.out, ← HK.out, List.drop_of_length_le (by omega), List.nil_append])
            have HB6 := Lib.hid (bel_call HB4.out HB5.out)
            go_wp2_with fail
            go_roundg (l.length - (k + 1))
            case measure => omega
            case rel => exact ⟨k + 1, kc, by omega, by go_num, rfl, HK5, HB6⟩
    · have t1 : ¬ ((k : Int) < l.length) := by omega
      have HRK := Lib.hid (show kc = R by rw [← HK.out, List.drop_of_length_le (by omega)]; rfl)
      go_wp2_with fail
      go_ret
      exact ⟨by rw [HRK.out]; rfl, HB0.out.trans (HB.out.mono HB0.out.size)⟩
end Go.Proofs.YtkoohdacneflfaaGreatDoor

/-
  What lengths are told, plainly.
-/
namespace Go.Proofs.YtkoohdacneflfaaGreatDoor
open Go.RowKit Go.Shelf
set_option linter.unusedVariables false
set_option linter.unusedSimpArgs false
set_option maxRecDepth 100000

theorem numA_app (a : Nat) (s t : List UInt8) : numA a (s ++ t) = numA (numA a s) t := List.foldl_append
theorem dec_facts2 : ∀ n : Nat, onlyR dR (Lib.decDigits n) = true ∧ num (Lib.decDigits n) = n ∧ Lib.decDigits n ≠ [] := by
  intro n
  induction n using Nat.strongRecOn with
  | _ n ih =>
    have hb : ∀ d : Nat, d < 10 → (UInt8.ofNat (48 + d)).toNat = 48 + d := fun d hd => by rw [UInt8.toNat_ofNat']; omega
    by_cases h : n < 10
    · rw [Lib.decDigits_one h]
      refine ⟨?_, ?_, by simp⟩
      · unfold onlyR
        rw [List.all_cons, hb n h, inD, List.all_nil, Bool.and_true, decide_eq_true_eq]
        omega
      · show 10 * 0 + ((UInt8.ofNat (48 + n)).toNat - 48) = n
        rw [hb n h]; omega
    · obtain ⟨h1, h2, h3⟩ := ih (n / 10) (by omega)
      have e : Lib.decDigits n = Lib.decDigits (n / 10) ++ [UInt8.ofNat (48 + n % 10)] := by conv => lhs; rw [Lib.decDigits, dif_neg h]
      rw [e]
      refine ⟨?_, ?_, by simp⟩
      · unfold onlyR at h1 ⊢
        rw [List.all_append, h1, Bool.true_and, List.all_cons, hb _ (by omega), inD, List.all_nil, Bool.and_true, decide_eq_true_eq]
        omega
      · show numA 0 (Lib.decDigits (n / 10) ++ [UInt8.ofNat (48 + n % 10)]) = n
        rw [numA_app]
        have h4 : numA 0 (Lib.decDigits (n / 10)) = n / 10 := h2
        rw [h4]
        show 10 * (n / 10) + ((UInt8.ofNat (48 + n % 10)).toNat - 48) = n
        rw [hb _ (by omega)]
        omega
theorem dec_short : ∀ (k n : Nat), n < 10 ^ (k + 1) → (Lib.decDigits n).length ≤ k + 1
  | 0, n, h => by rw [Lib.decDigits_one (by simpa using h)]; simp
  | k + 1, n, h => by
    by_cases h10 : n < 10
    · rw [Lib.decDigits_one h10]; simp
    · rw [Lib.decDigits, dif_neg h10, List.length_append]
      have := dec_short k (n / 10) (by rw [Nat.pow_succ] at h; omega)
      simp
      omega
theorem dec_ten {n : Nat} (h : n ≤ 1073741824) : (Lib.decDigits n).length ≤ 10 := dec_short 9 n (by omega)

def nCL : List UInt8 := [67, 111, 110, 116, 101, 110, 116, 45, 76, 101, 110, 103, 116, 104]
def nTE : List UInt8 := [84, 114, 97, 110, 115, 102, 101, 114, 45, 69, 110, 99, 111, 100, 105, 110, 103]
theorem sm1 : sameN nCL nTra = false := by decide +kernel
theorem sm2 : sameN nCL nLen = true := by decide +kernel
theorem vals_cons (f : Fd) (l : List Fd) (name : List UInt8) : vals (f :: l) name = (if sameN f.1 name then [f.2] else []) ++ vals l name := by
  unfold vals
  rw [List.filter_cons]
  split <;> simp
theorem badN_self {t : List UInt8} (h0 : t ≠ []) (h : onlyR dR t = true) (hl : t.length ≤ 10) : badN t t = false := by
  unfold badN
  have h1 : (t == []) = false := by simpa using h0
  rw [h1, h, decide_eq_false (by omega)]
  simp
theorem lenV_1 {t : List UInt8} (h0 : t ≠ []) (h : onlyR dR t = true) (hl : t.length ≤ 10) : lenV [t] = if 65535 < num t then (0, 413) else (((num t : Nat) : Int), 200) := by
  show (if [t].any (badN t) = true then _ else _) = _
  rw [List.any_cons, badN_self h0 h hl]
  rfl
end Go.Proofs.YtkoohdacneflfaaGreatDoor

/-
  The statement HeadLengths.
-/
namespace Go.Proofs.YtkoohdacneflfaaGreatDoor
open Go.RowKit Go.Shelf
set_option linter.unusedVariables false
set_option linter.unusedSimpArgs false
set_option maxRecDepth 100000

/-- A field more, in a row that stands in a box's last cell: what runs, what lies behind it. -/
theorem box_app {w : World} {B q n c : Nat} {a : Option Addr} {l : List Fd} {b0 b1 b2 : Value} (x : Fd) (ho : OwnF w B (.slice a n c) l) (hn : n = l.length) (hx : Cel w q [b0, b1, b2, .slice a n c]) (hq : ∀ k, (Value.slice a n c).ownBlock = some k → k ≠ q) (hB : B ≤ w.heap.size) (hl : n + 1 ≤ 1000000) :
    ∃ a' c' w', (Builtin.append_ #[40, 40] 40 #[.slice a n c, .slice (some ⟨w.heap.size, 0, none⟩) 1 1]).run Tryz.prog (w.alloc (.cells #[.string (bs x.1), .string (bs x.2)] 71)) = .ok (.slice a' (n + 1) c') w' ∧
      w'.cell? ⟨q, 3, none⟩ = some (.slice a n c) ∧ (∀ j, w'.frozen? ⟨q, j, none⟩ = false) ∧
      Cel (w'.setCell ⟨q, 3, none⟩ (.slice a' (n + 1) c')) q [b0, b1, b2, .slice a' (n + 1) c'] ∧ OwnF (w'.setCell ⟨q, 3, none⟩ (.slice a' (n + 1) c')) B (.slice a' (n + 1) c') (l ++ [x]) ∧
      (∀ k, (Value.slice a' (n + 1) c').ownBlock = some k → k ≠ q) ∧ Aside (fun b => b = q ∨ B ≤ b) w (w'.setCell ⟨q, 3, none⟩ (.slice a' (n + 1) c')) := by
  subst hn
  have hal : Below w.heap.size w (w.alloc (.cells #[.string (bs x.1), .string (bs x.2)] 71)) := (Below.refl _ _).alloc (Nat.le_refl _) _
  have ho1 := ho.below hal
  have hlt := World.ownsRow.lt ho
  obtain ⟨a', c', w', h1, h2, h3, h4⟩ := run_appF ho1 (sf_one w x) (by simpa using hl) (by rw [World.size_alloc]; omega)
  simp only [List.length_singleton] at h1 h2 h4
  have hxx := (hx.below (by simp) hal).aside (by simp) h3 (fun h => hq _ h rfl)
  have hql := hx.lt (by simp)
  have hq' : ∀ k, (Value.slice a' (l.length + 1) c').ownBlock = some k → k ≠ q := fun k hk => by
    rcases h4 with h4 | h4
    · rw [h4] at hk; exact hq k hk
    · rw [h4, World.size_alloc] at hk
      injection hk with hk
      omega
  have hst : Aside (fun k => k = q) w' (w'.setCell ⟨q, 3, none⟩ (.slice a' (l.length + 1) c')) := Aside.setCell w' (p := ⟨q, 3, none⟩) _ rfl
  refine ⟨a', c', w', h1, hxx.c 3 (by simp), hxx.fz, hxx.set (o := 3) (by simp) _, row_aside h2 hst (fun k hk hg => hq' k hk hg), hq', ?_⟩
  exact (((Aside.of_all hal).trans (h3.mono fun k _ hk => .inr (hlt k hk).1)).trans (hst.mono fun k _ hk => .inl hk))

theorem hv_own {w : World} {B n c : Nat} {a : Option Addr} {l : List Fd} {m t : List UInt8} {v : Int} (ho : OwnF w B (.slice a n c) l) (hl : l.length ≤ 1000000) : Hv w w.heap.size (.agg #[.string (bs m), .string (bs t), .int .i64 v, .slice a n c]) ⟨m, t, v, l⟩ := ⟨_, rfl, ho.sf hl⟩

end Go.Proofs.YtkoohdacneflfaaGreatDoor

/-
  A bytes.Buffer that has been read, too, wherever it lies: its parts, Len, tryGrowByReslice, Reset, Bytes, Next.
-/
namespace Go.Proofs.YtkoohdacneflfaaGreatDoor
open Go.RowKit Go.Shelf
set_option linter.unusedVariables false
set_option maxRecDepth 100000
variable {cs : Nat → Option Value}

/-- The three cells of a buffer in block b, from the place q on; all other cells of the block are as cs tells. -/
def BfC (cs : Nat → Option Value) (w : World) (b q : Nat) (a : Option Addr) (n c off : Nat) (lr : Int) : Prop :=
  w.cell? ⟨b, q, none⟩ = some (.slice a n c) ∧ w.cell? ⟨b, q + 1, none⟩ = some (.int .i64 off) ∧ w.cell? ⟨b, q + 2, none⟩ = some (.int .i8 lr) ∧ ∀ j, w.frozen? ⟨b, j, none⟩ = false ∧ (j < q ∨ q + 2 < j → w.cell? ⟨b, j, none⟩ = cs j)

/-- Its row: none, or block g, of c bytes, another one than b. -/
def BfR (w : World) (b : Nat) (o : Option Nat) (a : Option Addr) (c : Nat) (zs : List Int) : Prop :=
  zs.length = c ∧ c ≤ maxLen ∧ ((o = none ∧ a = none ∧ c = 0) ∨ ∃ g, o = some g ∧ a = some ⟨g, 0, none⟩ ∧ g ≠ b ∧ w.heap[g]? = some (.cells (zs.map (Value.int .u8)).toArray 5 (0, 0)))

/-- It keeps the bytes l; at most t have been written. -/
def Bf (cs : Nat → Option Value) (w : World) (o : Option Nat) (b q t : Nat) (l : List UInt8) : Prop :=
  ∃ a n c off lr zs, BfC cs w b q a n c off lr ∧ BfR w b o a c zs ∧ off + l.length = n ∧ n ≤ c ∧ n ≤ t ∧ ∀ j, j < l.length → zs.getD (off + j) 0 = ((l.getD j 0).toNat : Int)

section
variable {w w' : World} {b q n c off : Nat} {a : Option Addr} {lr : Int} {o : Option Nat} {zs : List Int} {l : List UInt8} {G : Nat → Prop}
theorem BfC.lt (h : BfC cs w b q a n c off lr) : b < w.heap.size := World.block_lt_of_cell? w _ h.1
theorem BfC.aside (h : BfC cs w b q a n c off lr) (ha : Aside G w w') (h0 : ¬ G b) : BfC cs w' b q a n c off lr :=
  ⟨(ha.cell h.lt h0).trans h.1, (ha.cell h.lt h0).trans h.2.1, (ha.cell h.lt h0).trans h.2.2.1, fun j => ⟨(ha.frozen (p := ⟨b, j, none⟩) h.lt h0).trans (h.2.2.2 j).1, fun hj => (ha.cell (p := ⟨b, j, none⟩) h.lt h0).trans ((h.2.2.2 j).2 hj)⟩⟩
theorem BfR.aside (h : BfR w b o a c zs) (ha : Aside G w w') (h0 : ∀ g, o = some g → ¬ G g) : BfR w' b o a c zs := by
  obtain ⟨h1, h2, h3 | ⟨g, rfl, rfl, h4, h5⟩⟩ := h
  · exact ⟨h1, h2, .inl h3⟩
  · exact ⟨h1, h2, .inr ⟨g, rfl, rfl, h4, (ha.block g (Array.getElem?_eq_some_iff.mp h5).1 (h0 g rfl)).trans h5⟩⟩
theorem Bf.aside {t : Nat} (h : Bf cs w o b q t l) (ha : Aside G w w') (h0 : ¬ G b) (h1 : ∀ g, o = some g → ¬ G g) : Bf cs w' o b q t l := by
  obtain ⟨a, n, c, off, lr, zs, h2, h3, h4⟩ := h
  exact ⟨a, n, c, off, lr, zs, h2.aside ha h0, h3.aside ha h1, h4⟩
theorem BfR.set (h : BfR w b o a c zs) (j : Nat) (u : Value) : BfR (w.setCell ⟨b, j, none⟩ u) b o a c zs := by
  obtain ⟨h1, h2, h3 | ⟨g, rfl, rfl, h4, h5⟩⟩ := h
  · exact ⟨h1, h2, .inl h3⟩
  · exact ⟨h1, h2, .inr ⟨g, rfl, rfl, h4, (Below.heap_setCell _ _ _ _ h4).trans h5⟩⟩
/-- All that its row has, as a slice. -/
theorem BfR.sl (h : BfR w b o a c zs) (hn : n ≤ c) : Sl w 0 w.heap.size (.slice a (zs.take n).length c) (zs.take n) := by
  obtain ⟨h1, h2, ⟨_, rfl, rfl⟩ | ⟨g, rfl, rfl, h4, h5⟩⟩ := h
  · have : n = 0 := by omega
    subst this
    exact ⟨none, 0, by simp, by simp, fun _ => rfl, fun h => by simp at h⟩
  · refine ⟨_, c, rfl, by rw [List.length_take]; omega, fun h => by simp at h, fun h0 => ⟨g, 0, rfl, Nat.zero_le _, (Array.getElem?_eq_some_iff.mp h5).1, fun j hj => ?_⟩⟩
    rw [List.length_take] at hj
    rw [Nat.zero_add, World.cell?, h5]
    have hjz : j < zs.length := by omega
    simp [hjz, List.getD, show j < n by omega]
end

/-- What a buffer keeps, as one slice. -/
theorem from_eq {n c off : Nat} (a : Option Addr) (h1 : off ≤ n) (h2 : n ≤ c) (wx : World) : (Instr.slice 28 (.slice a n c) (some (.int .i64 off)) none none).run Tryz.prog wx = .ok (sliced a off n c 1) wx := by
  rw [run_slice_l (P := Tryz.prog) wx 28 a n c Tryz.underlying28 .i64 off (by omega) (by omega), size5]
  simp only [Result.andThen, Int.toNat_natCast]

end Go.Proofs.YtkoohdacneflfaaGreatDoor

/-
  (*bytes.Buffer).grow, of a buffer that has been read, too.
-/
namespace Go.Proofs.YtkoohdacneflfaaGreatDoor
open Go.RowKit Go.Shelf
set_option linter.unusedVariables false
set_option linter.unusedSimpArgs false
set_option maxRecDepth 100000
variable {cs : Nat → Option Value}

theorem BfC.later {w w' : World} {b q n c off : Nat} {a : Option Addr} {lr : Int} (h : BfC cs w b q a n c off lr) (hb : Below w.heap.size w w') : BfC cs w' b q a n c off lr := h.aside (G := fun _ => False) (Aside.of_all hb) fun h => h

end Go.Proofs.YtkoohdacneflfaaGreatDoor

/-
  Lists of byte slices; SameLists.
-/
namespace Go.Proofs.YtkoohdacneflfaaGreatDoor
open Go.RowKit Go.Shelf
set_option linter.unusedVariables false
set_option linter.unusedSimpArgs false
set_option maxRecDepth 100000

/-- A slice of byte slices. -/
def Bl (w : World) (v : Value) (l : List (List UInt8)) : Prop :=
  ∃ a c, v = .slice a l.length c ∧ l.length ≤ c ∧ (0 < l.length → ∃ b off, a = some ⟨b, off, none⟩ ∧ b < w.heap.size ∧ ∀ j, j < l.length → ∃ u, w.cell? ⟨b, off + j, none⟩ = some u ∧ Sl w 0 w.heap.size u (iz (l.getD j [])))

theorem sl_up {w w' : World} {v : Value} {l : List Int} (h : Sl w 0 w.heap.size v l) (hb : Below w.heap.size w w') : Sl w' 0 w'.heap.size v l := (h.below hb (Nat.le_refl _)).wide (Nat.le_refl _) hb.size

theorem Bl.below {w w' : World} {v : Value} {l : List (List UInt8)} (h : Bl w v l) (hb : Below w.heap.size w w') : Bl w' v l := by
  obtain ⟨a, c, rfl, h1, h2⟩ := h
  refine ⟨a, c, rfl, h1, fun h0 => ?_⟩
  obtain ⟨b, off, rfl, hlt, h3⟩ := h2 h0
  refine ⟨b, off, rfl, Nat.lt_of_lt_of_le hlt hb.size, fun j hj => ?_⟩
  obtain ⟨u, h4, h5⟩ := h3 j hj
  exact ⟨u, ((Aside.of_all (G := fun _ => False) hb).cell (p := ⟨b, off + j, none⟩) hlt fun h => h).trans h4, sl_up h5 hb⟩

end Go.Proofs.YtkoohdacneflfaaGreatDoor

/-
  Rows of byte slices, and appends to them; what ends up as a list.
-/
namespace Go.Proofs.YtkoohdacneflfaaGreatDoor
open Go.RowKit Go.Shelf
set_option linter.unusedVariables false
set_option linter.unusedSimpArgs false
set_option maxRecDepth 100000

theorem Tryz.infoS : (Tryz.prog.info? 28).map (fun i => (i.zero, i.size, i.bytes)) = some (some (.slice none 0 0), 1, 24) := by kernel_rfl

/-- A row of byte slices of the call's own. -/
def OwnS (w : World) (B : Nat) (v : Value) (us : List Value) : Prop := OwnZ w B 28 (.slice none 0 0) v us

theorem OwnS.shape {w : World} {B : Nat} {v : Value} {us : List Value} (h : OwnS w B v us) : ∃ a c, v = .slice a us.length c := by
  rcases h with ⟨rfl, h0⟩ | ⟨g, cap, rfl, _⟩
  · rw [h0]; exact ⟨.none, 0, rfl⟩
  · exact ⟨_, cap, rfl⟩

/-- append of one byte slice, that lies in a block of its own. -/
theorem run_appS1 {w : World} (B : Nat) (v u : Value) (us : List Value) (g : Nat) (hown : OwnS w B v us) (hy : w.cell? ⟨g, 0, .none⟩ = some u) (hu : u.oneCell' = true) (hb : us.length + 1 ≤ 1000000) (hB : B ≤ w.heap.size) :
    ∃ a' c' w', (Builtin.append_ #[22, 22] 22 #[v, .slice (some ⟨g, 0, .none⟩) 1 1]).run Tryz.prog w = .ok (.slice a' (us.length + 1) c') w' ∧ OwnS w' B (.slice a' (us.length + 1) c') (us ++ [u]) ∧ w.grownBy w' v.ownBlock := by
  obtain ⟨i0, hi, hz0, hz1, hz2⟩ := info_parts Tryz.infoS
  obtain ⟨v', w', h1, h2, h3⟩ := run_append_Z (P := Tryz.prog) (w := w) B 22 22 28 i0 (.slice none 0 0) 24 Tryz.underlying22 hi hz0 hz1 hz2 rfl v us hown ⟨g, 0, none⟩ 1 1 [u] (by simp)
    (fun j x hx => by
      have hj : j < 1 := by have := (List.getElem?_eq_some_iff.mp hx).1; simpa using this
      obtain rfl : j = 0 := by omega
      simp at hx
      subst hx
      rw [WideShapes.add_plain]; exact hy) (by intro x hx; simp at hx; subst hx; exact hu) (by unfold maxLen; omega) (by omega) hB
  have h4 : OwnS w' B v' (us ++ [u]) := h2
  obtain ⟨a', c', hv⟩ := h4.shape
  rw [List.length_append] at hv
  subst hv
  exact ⟨a', c', w', h1, h4, h3⟩

/-- What a row's append may turn. -/
theorem aside_grown {w w' : World} {v : Value} (h : w.grownBy w' v.ownBlock) : Aside (fun b => v.ownBlock = some b) w w' := Aside.grown h fun _ h => h

/-- append of no bytes. -/
theorem run_appB0 {w : World} (B : Nat) (v : Value) (l : List UInt8) (ad : Option Addr) (c : Nat) (hown : OwnB w B v l) :
    (Builtin.append_ #[28, 28] 28 #[v, .slice ad 0 c]).run Tryz.prog w = .ok v w := by
  obtain ⟨i0, hi, hz0, hz1, hz2⟩ := info_parts Tryz.info5
  rcases hown with ⟨rfl, rfl⟩ | ⟨g, cap, fz, rfl, hbg, hlc, hcm, hfz, hg⟩
  · cases ad <;> simp [Builtin.append_, run_underlying Tryz.underlying28, sizeOf, typeInfo, hi, Builtin.lenOf, Builtin.firstCells, loadCells, loadCellsFrom]
  · cases ad <;> simp [Builtin.append_, run_underlying Tryz.underlying28, sizeOf, typeInfo, hi, Builtin.lenOf, Builtin.firstCells, loadCells, loadCellsFrom, storeCells, hlc]

/-- append of any bytes. -/
theorem run_appBs {w : World} (B : Nat) (v xv : Value) (l l' : List UInt8) {lo hi : Nat} (hown : OwnB w B v l) (hx : Sl w lo hi xv (iz l')) (hb : l.length + l'.length ≤ 1000000) (hB : B ≤ w.heap.size) :
    ∃ a' c' w', (Builtin.append_ #[28, 28] 28 #[v, xv]).run Tryz.prog w = .ok (.slice a' (l.length + l'.length) c') w' ∧ OwnB w' B (.slice a' (l.length + l'.length) c') (l ++ l') ∧ Aside (fun b => v.ownBlock = some b) w w' := by
  rcases Nat.eq_zero_or_pos l'.length with h0 | h0
  · have : l' = [] := List.eq_nil_of_length_eq_zero h0
    subst this
    obtain ⟨ad, c, rfl, _⟩ := hx
    have h1 := run_appB0 B v l ad c hown
    obtain ⟨a', c', rfl⟩ := hown.shape
    exact ⟨a', c', w, h1, by rw [List.append_nil]; exact hown, Aside.refl _ _⟩
  · obtain ⟨v', w', h1, h2, h3, _⟩ := run_appB B v xv l l' hown hx h0 hb hB
    obtain ⟨a', c', hv⟩ := h2.shape
    rw [List.length_append] at hv
    subst hv
    exact ⟨a', c', w', h1, h2, aside_grown h3⟩

/-- A row of byte slices reads as a list, where each of them reads. -/
theorem OwnS.bl {w : World} {B : Nat} {v : Value} {us : List Value} {l : List (List UInt8)} (h : OwnS w B v us) (hl : us.length = l.length) (hu : ∀ j, j < l.length → Sl w 0 w.heap.size (us.getD j (.slice none 0 0)) (iz (l.getD j []))) : Bl w v l := by
  rcases h with ⟨rfl, h0⟩ | ⟨g, cap, rfl, hB, hc, _, hg⟩
  · subst h0
    have : l = [] := List.eq_nil_of_length_eq_zero hl.symm
    subst this
    exact ⟨none, 0, rfl, Nat.le_refl _, fun h => by simp at h⟩
  · refine ⟨some ⟨g, 0, .none⟩, cap, by rw [hl], by omega, fun _ => ⟨g, 0, rfl, (Array.getElem?_eq_some_iff.mp hg).1, fun j hj => ⟨us.getD j (.slice none 0 0), ?_, hu j hj⟩⟩⟩
    rw [Nat.zero_add, World.cell?, hg]
    simp [List.getElem?_append_left, show j < us.length by omega, List.getD]
end Go.Proofs.YtkoohdacneflfaaGreatDoor

/-
  A stream as messages, plainly.
-/
namespace Go.Proofs.YtkoohdacneflfaaGreatDoor
set_option linter.unusedVariables false
set_option maxRecDepth 100000

/-- The number that the first two bytes are. -/
def hd2 (l : List UInt8) : Nat := 256 * (l.getD 0 0).toNat + (l.getD 1 0).toNat
/-- A stream read: the messages that are whole, what is kept, the error. -/
def runF (M : Nat) (l : List UInt8) : List (List UInt8) × List UInt8 × Int :=
  if l.length < 2 then ([], l, 0)
  else if hd2 l < 12 then ([], [], 4)
  else if M < hd2 l then ([], [], 3)
  else if l.length < 2 + hd2 l then ([], l, 0)
  else ((l.drop 2).take (hd2 l) :: (runF M (l.drop (2 + hd2 l))).1, (runF M (l.drop (2 + hd2 l))).2)
termination_by l.length
decreasing_by all_goals (simp; omega)

end Go.Proofs.YtkoohdacneflfaaGreatDoor

/-
  The document's reader: New, Want.
-/
namespace Go.Proofs.YtkoohdacneflfaaGreatDoor
open Go.RowKit Go.Shelf
set_option linter.unusedVariables false
set_option linter.unusedSimpArgs false
set_option maxRecDepth 100000

/-- The document's reader, in block r: its most, what it keeps (in blocks from B on), whether it is broken. -/
def Rd (w : World) (r M B : Nat) (l : List UInt8) (out : Bool) : Prop :=
  ∃ v, w.cell? ⟨r, 0, none⟩ = some (.int .i64 M) ∧ w.cell? ⟨r, 1, none⟩ = some v ∧ w.cell? ⟨r, 2, none⟩ = some (.bool out) ∧ (∀ j, w.frozen? ⟨r, j, none⟩ = false) ∧ Sl w B w.heap.size v (iz l)

theorem Rd.lt {w : World} {r M B : Nat} {l : List UInt8} {out : Bool} (h : Rd w r M B l out) : r < w.heap.size := by
  obtain ⟨v, h1, _⟩ := h
  exact World.block_lt_of_cell? w _ h1

theorem Rd.aside {G : Nat → Prop} {w w' : World} {r M B : Nat} {l : List UInt8} {out : Bool} (h : Rd w r M B l out) (ha : Aside G w w') (h0 : ¬ G r) (h1 : ∀ b, B ≤ b → b < w.heap.size → ¬ G b) : Rd w' r M B l out := by
  have hlt := h.lt
  obtain ⟨v, c0, c1, c2, c3, hs⟩ := h
  refine ⟨v, (ha.cell hlt h0).trans c0, (ha.cell hlt h0).trans c1, (ha.cell hlt h0).trans c2, fun j => (ha.frozen (p := ⟨r, j, none⟩) hlt h0).trans (c3 j), ?_⟩
  exact (hs.keep fun b o hb hb2 => ha.cell (p := ⟨b, o, none⟩) hb2 (h1 b hb hb2)).wide (Nat.le_refl _) ha.size

end Go.Proofs.YtkoohdacneflfaaGreatDoor

/-
  The document's reader: Push: one message told.
-/
namespace Go.Proofs.YtkoohdacneflfaaGreatDoor
open Go.RowKit Go.Shelf
set_option linter.unusedVariables false
set_option linter.unusedSimpArgs false
set_option maxRecDepth 100000

/-- A row of byte slices is no row of bytes. -/
theorem OwnS.ne {W : World} {B B' : Nat} {v v' : Value} {us : List Value} {l : List UInt8} (h : OwnS W B v us) (h' : OwnB W B' v' l) : ∀ b, v'.ownBlock = some b → ¬ v.ownBlock = some b := by
  intro b hb hb'
  rcases h with ⟨rfl, _⟩ | ⟨g, cap, rfl, _, _, _, hg⟩
  · cases hb'
  rcases h' with ⟨rfl, _⟩ | ⟨g', cap', fz, rfl, _, _, _, _, hg'⟩
  · cases hb
  have e1 : g = b := by injection hb'
  have e2 : g' = b := by injection hb
  subst e1; subst e2
  rw [hg] at hg'
  injection hg' with hg'
  injection hg' with _ h3 _
  exact absurd h3 (by decide)

theorem OwnS.mono {w : World} {B B' : Nat} {v : Value} {us : List Value} (h : OwnS w B v us) (hB : B' ≤ B) : OwnS w B' v us := OwnZ.mono h hB
theorem OwnS.below {w w' : World} {B : Nat} {v : Value} {us : List Value} (h : OwnS w B v us) (hb : Below w.heap.size w w') : OwnS w' B v us := OwnZ.below h hb

/-- Told messages, in a row of the call's own. -/
structure Told (W : World) (B : Nat) (v : Value) (us : List Value) (ls : List (List UInt8)) : Prop where
  row : OwnS W B v us
  len : us.length = ls.length
  each : ∀ j, j < ls.length → OwnB W B (us.getD j (.slice none 0 0)) (ls.getD j [])

theorem Told.bl {W : World} {B : Nat} {v : Value} {us : List Value} {ls : List (List UInt8)} (h : Told W B v us ls) : Bl W v ls :=
  h.row.bl h.len fun j hj => (h.each j hj).sl.wide (Nat.zero_le _) (Nat.le_refl _)

theorem Told.below {W W' : World} {B : Nat} {v : Value} {us : List Value} {ls : List (List UInt8)} (h : Told W B v us ls) (hb : Below W.heap.size W W') : Told W' B v us ls :=
  ⟨h.row.below hb, h.len, fun j hj => (h.each j hj).below hb⟩

end Go.Proofs.YtkoohdacneflfaaGreatDoor

/-
  The document's reader: Push.
-/
namespace Go.Proofs.YtkoohdacneflfaaGreatDoor
open Go.RowKit Go.Shelf
set_option linter.unusedVariables false
set_option linter.unusedSimpArgs false
set_option maxRecDepth 100000

/-- What is behind a place. -/
theorem from_sl {w : World} {lo hi n c p : Nat} {a : Option Addr} {l : List UInt8} (h : Sl w lo hi (.slice a n c) (iz l)) (hn : n = l.length) (hp : p ≤ n) :
    ∃ sa sn sc, (∀ wx, (Instr.slice 28 (.slice a n c) (some (.int .i64 p)) none none).run Tryz.prog wx = .ok (.slice sa sn sc) wx) ∧ ∀ w', Sl w' lo hi (.slice a n c) (iz l) → Sl w' lo hi (.slice sa sn sc) (iz (l.drop p)) := by
  subst hn
  have hc : l.length ≤ c := by
    obtain ⟨a', c', he, hc, _⟩ := h
    injection he with _ _ e3
    subst e3
    rwa [iz_len] at hc
  refine ⟨_, _, _, from_eq a hp hc, fun w' h' => ?_⟩
  have h2 : Sl w' lo hi (.slice a (iz l).length c) (iz l) := by rw [iz_len]; exact h'
  obtain ⟨sv, e1, e2⟩ := slice_cut h2 (p := p) (m := l.length - p) (by rw [iz_len]; omega)
  have e3 := e1 w'
  rw [iz_len, show (p : Int) + (l.length - p : Nat) = (l.length : Nat) by omega, run_slice_lh (P := Tryz.prog) w' 28 a l.length c Tryz.underlying28 .i64 .i64 p l.length (by omega) (by omega) (by omega), size5] at e3
  simp only [Result.andThen, Int.toNat_natCast] at e3
  injection e3 with e3
  show Sl w' lo hi (sliced a p l.length c 1) _
  rw [e3]
  rw [iz_cut] at e2
  have e4 : (l.drop p).take (l.length - p) = l.drop p := List.take_of_length_le (by rw [List.length_drop]; exact Nat.le_refl _)
  rwa [e4] at e2

theorem Told.aside {G : Nat → Prop} {W W' : World} {B : Nat} {v : Value} {us : List Value} {ls : List (List UInt8)} (h : Told W B v us ls) (ha : Aside G W W') (hG : ∀ b, B ≤ b → ¬ G b) : Told W' B v us ls :=
  ⟨OwnZ.aside h.row ha hG, h.len, fun j hj => (h.each j hj).aside ha fun b hb => hG b ((h.each j hj).lt b hb).1⟩

end Go.Proofs.YtkoohdacneflfaaGreatDoor
