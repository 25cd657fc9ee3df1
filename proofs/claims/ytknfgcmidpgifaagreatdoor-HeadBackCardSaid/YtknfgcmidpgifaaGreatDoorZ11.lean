/-
  Whether the connection goes on.
-/
import Derived.Test.YtknfgcmidpgifaaGreatDoorZ10
namespace Go.Proofs.YtknfgcmidpgifaaGreatDoor
open Go.RowKit Go.Shelf
set_option linter.unusedVariables false
set_option linter.unusedSimpArgs false
set_option maxRecDepth 100000
attribute [local go_sem] Oper.semAt_some

theorem keepA_close {k : Bool} {w : List UInt8} {r : List (List UInt8)} (h : sameN (trimB w) nClo = true) : keepA k (w :: r) = false := by rw [keepA, if_pos h]
theorem keepA_on {k : Bool} {w : List UInt8} {r : List (List UInt8)} (h : sameN (trimB w) nClo = false) : keepA k (w :: r) = keepA (k || sameN (trimB w) nAli) r := by rw [keepA, if_neg (by rw [h]; simp)]

/-- The two boxes. -/
def KC (w : World) (N : Nat) (kc : Bool) : Prop := w.cell? ⟨N + 1 + 1, 0, none⟩ = some (.bool kc) ∧ w.frozen? ⟨N + 1 + 1, 0, none⟩ = false ∧ w.cell? ⟨N + 1, 0, none⟩ = some (.bool false) ∧ w.frozen? ⟨N + 1, 0, none⟩ = false
theorem KC.aside {w w' : World} {N : Nat} {kc : Bool} {G : Nat → Prop} (h : KC w N kc) (ha : Aside G w w') (h1 : ¬ G (N + 1)) (h2 : ¬ G (N + 1 + 1)) : KC w' N kc := by
  obtain ⟨e1, e2, e3, e4⟩ := h
  have l1 := World.block_lt_of_cell? w _ e1
  have l3 := World.block_lt_of_cell? w _ e3
  exact ⟨ha.cell_lt e1 h2, (ha.frozen (p := ⟨N + 1 + 1, 0, none⟩) l1 h2).trans e2, ha.cell_lt e3 h1, (ha.frozen (p := ⟨N + 1, 0, none⟩) l3 h1).trans e4⟩
theorem KC.set {w : World} {N : Nat} {kc : Bool} (h : KC w N kc) (b : Bool) : KC (w.setCell ⟨N + 1 + 1, 0, none⟩ (.bool b)) N b := by
  obtain ⟨e1, e2, e3, e4⟩ := h
  refine ⟨World.cell?_setCell_same _ _ _ e1, by rw [World.frozen?_setCell]; exact e2, (World.cell?_setCell_other _ _ _ _ (fun e => ?_)).trans e3, by rw [World.frozen?_setCell]; exact e4⟩
  have := congrArg Addr.block e
  simp at this
/-- The blocks that the loops turn. -/
def GK (N q : Nat) (b : Nat) : Prop := b = N + 1 ∨ b = N + 1 + 1 ∨ q ≤ b

set_option maxHeartbeats 16000000 in
theorem keep_any {w : World} {hi : Nat} {u : Value} {h : Hd} (hh : Hv w hi u h) (h1 : hi ≤ w.heap.size) (hf : Fits h) (hx : ∀ x ∈ h.fs, x.2.length ≤ 1000000) (hE : Env w) :
    Calls Tryz.prog 23 #[u] w (Tells w (.bool (keepH h.v h.fs))) := by
  obtain ⟨m, t, v, l⟩ := h
  have HH := Lib.hid hh
  have HE := Lib.hid hE
  obtain ⟨sl, rfl, hs0⟩ := hh
  simp only at hs0 hx ⊢
  obtain ⟨a, c, rfl⟩ := Lst.shape hs0
  have hmf : ∀ (fn : Fn) (first cap : Array Value) (w : World), (Instr.makeFunc fn first cap).run Tryz.prog w = .ok (.func fn first cap) w := fun _ _ _ _ => rfl
  obtain ⟨N, hN⟩ : ∃ N, w.heap.size = N := ⟨_, rfl⟩
  obtain ⟨W0, hW0⟩ : ∃ W0, ((w.alloc (.cells #[.string (bs m), .string (bs t), .int .i64 v, .slice a l.length c] 24)).alloc (.cells #[.bool false] 4)).alloc (.cells #[.bool (v == 1)] 4) = W0 := ⟨_, rfl⟩
  have hb0 : Below w.heap.size w W0 := by rw [← hW0]; exact (((Below.refl _ _).alloc (Nat.le_refl _) _).alloc (by simp) _).alloc (by simp; omega) _
  have hz0 : W0.heap.size = N + 3 := by rw [← hW0]; simp [hN]
  have hk0 : KC W0 N (v == 1) := by
    rw [← hW0]
    exact ⟨by simp [go_sem, hN], by simp [go_sem, hN], by simp [go_sem, hN], by simp [go_sem, hN]⟩
  have HV := Lib.hid (values_any nCon ((HH.out.wide h1).later hb0) (Nat.le_refl _) hf.1 hf.n)
  have HB0 := Lib.hid hb0
  have HZ0 := Lib.hid hz0
  have HK0 := Lib.hid hk0
  have HE0 := Lib.hid (hE.later hb0)
  have HMM := Lib.hid (fun x (hx' : x ∈ vals l nCon) => show x.length ≤ 1000000 from by
    obtain ⟨y, hy, e⟩ := vals_mem hx'
    rw [e]; exact hx y hy)
  have HLN := Lib.hid (show (vals l nCon).length ≤ 900000 from Nat.le_trans (vals_len l nCon) hf.1)
  have HR := Lib.hid (show keepH v l = keepA (v == 1) ((vals l nCon).flatMap (spl 44)) from rfl)
  simp only at HV
  obtain ⟨L, hL⟩ : ∃ L, vals l nCon = L := ⟨_, rfl⟩
  obtain ⟨R, hR⟩ : ∃ R, keepH v l = R := ⟨_, rfl⟩
  obtain ⟨V1, hV1⟩ : ∃ V, (v == 1) = V := ⟨_, rfl⟩
  rw [hL] at HV HMM HLN HR
  rw [hR] at HR ⊢
  rw [hV1] at HR HK0 hW0
  have HW0 := Lib.hid hW0
  clear hs0 hb0 hz0 hk0 hf hx hE hL hR hW0
  refine calls_of_wp_marks Tryz.func23 rfl ?_
  simp only [Tryz.ntmps23, List.size_toArray, List.length_cons, List.length_nil, Nat.reduceAdd, Nat.reduceSub, Array.replicate_succ,
     Array.replicate_zero, List.push_toArray, List.append_toArray, List.nil_append, List.cons_append]
  go_wp2_with fail
  refine Calls.at_world (show _ = W0 from HW0.out) ?_
  refine (HV.out).mono ?_; rintro e w1 ⟨v1, rfl, ho1, hb1⟩
  obtain ⟨a1, k1, rfl⟩ := ho1.shape
  have HD1 := Lib.hid hb1
  have HS1 := Lib.hid (st_at ho1.st)
  clear ho1 hb1 HV HW0
  have HKC1 := Lib.hid (HK0.out.aside (G := fun _ => False) (Aside.of_all HD1.out) (fun h => h) (fun h => h))
  have HZ1 := Lib.hid (show N + 3 ≤ w1.heap.size by have := HD1.out.size; have := HZ0.out; omega)
  have HE1 := Lib.hid (HE0.out.later HD1.out)
  have HMX := Lib.hid (show mxB < N by
    obtain ⟨mm, hmm⟩ := HE.out.mx
    have := World.block_lt_of_cell? w _ hmm
    rw [hN] at this
    exact this)
  go_wp2_with fail
  refine wp_loop_ghost_k (fun g a' wr => ∃ (ds : List Deferred) (u5 u6 u13 u14 u15 u16 u17 u18 u19 u20 u21 u22 u23 u24 u25 u26 u27 u28 : Value),
    (∃ (k : Nat) (kc : Bool), k + g = L.length ∧ u13 = .int .i64 k ∧ Hid (keepA kc ((L.drop k).flatMap (spl 44)) = R) ∧ Hid (KC wr N kc) ∧ Hid (Aside (GK N w1.heap.size) w1 wr) ∧ Hid (MkL w1.heap.size ds wr.heap.size wr)) ∧
    a' = { tmps := #[.agg #[.string (bs m), .string (bs t), .int .i64 v, .slice a l.length c], .pointer (some ⟨N, 0, none⟩), .pointer (some ⟨N + 1, 0, none⟩), .pointer (some ⟨N + 1 + 1, 0, none⟩), undef, u5, u6, .pointer (some ⟨N, 2, none⟩), .int .i64 v, .bool V1, .agg #[.string (bs m), .string (bs t), .int .i64 v, .slice a l.length c], .slice a1 L.length k1, .int .i64 L.length, u13, u14, u15, u16, u17, u18, u19, u20, u21, u22, u23, u24, u25, u26, u27, u28, undef], defers := ds }) L.length ?start ?round
  case start =>
    refine ⟨[], undef, undef, .int .i64 0, undef, undef, undef, undef, undef, undef, undef, undef, undef, undef, undef, undef, undef, undef, undef, ⟨0, V1, by omega, rfl, Lib.hid (by rw [List.drop_zero]; exact HR.out.symm), HKC1, Lib.hid (Aside.refl _ _), Lib.hid trivial⟩, rfl⟩
  case round =>
    intro gk _ wr hinv
    obtain ⟨ds, u5, u6, u13, u14, u15, u16, u17, u18, u19, u20, u21, u22, u23, u24, u25, u26, u27, u28, ⟨k, kc, hk, rfl, HKA, HKC, HAS, HMK⟩, rfl⟩ := hinv
    intro _ _ _ _
    have hkb : k ≤ 900000 := by have := HLN.out; omega
    by_cases hlt : k < L.length
    · obtain ⟨b1, o1, rfl, hb1, hb2, hc1⟩ := HS1.out (by omega)
      have p0 := HAS.out.cell_lt (hc1 k hlt) (fun h => by
        have := HZ0.out
        have := HZ1.out
        rcases h with h | h | h <;> simp only at h <;> omega)
      have hdr : (L.drop k).flatMap (spl 44) = spl 44 L[k] ++ (L.drop (k + 1)).flatMap (spl 44) := by rw [List.drop_eq_getElem_cons hlt, List.flatMap_cons]
      have hxl := HMM.out L[k] (List.getElem_mem hlt)
      have hka := HKA.out
      rw [hdr] at hka
      obtain ⟨x, hx⟩ : ∃ x, L[k] = x := ⟨_, rfl⟩
      rw [hx] at p0 hxl hka
      have HKA2 := Lib.hid hka
      have HXL := Lib.hid hxl
      clear hdr hx hc1 hka hxl HKA
      go_wp2_with fail
      refine (splitSeq_any x wr).mono ?_
      rintro e w2 ⟨rfl, s1, s2, s3, s4, s5, s6⟩
      have HSS := Lib.hid (And.intro s1 (And.intro s2 (And.intro s3 (And.intro s4 (And.intro s5 s6)))))
      clear s1 s2 s3 s4 s5 s6 p0
      go_wp2_with fail
      obtain ⟨q, hq⟩ : ∃ q, wr.heap.size = q := ⟨_, rfl⟩
      have HQ := Lib.hid (And.intro hq (show w1.heap.size ≤ q by rw [← hq]; exact HAS.out.size))
      rw [hq] at HSS HMK ⊢
      obtain ⟨REST, hREST⟩ : ∃ r, (L.drop (k + 1)).flatMap (spl 44) = r := ⟨_, rfl⟩
      have HRS := Lib.hid hREST
      rw [hREST] at HKA2
      have hbw : Below wr.heap.size wr w2 := by rw [hq]; exact HSS.out.2.2.2.2.2
      have HAS2 := Lib.hid (HAS.out.trans (Aside.of_all hbw))
      have HKC2 := Lib.hid (HKC.out.aside (G := fun _ => False) (Aside.of_all hbw) (fun h => h) (fun h => h))
      have HMK2 := Lib.hid (HMK.out.keep (W' := w2) fun b _ hb => hbw.block b (by rw [hq]; exact hb))
      have HENV := Lib.hid (show Env w2 from HE.out.later (below_aside (B := w.heap.size) ((HB0.out.trans (HD1.out.mono HB0.out.size))) HAS2.out (fun b hb => by
        rw [hN] at hb
        have := HZ1.out
        exact ⟨by omega, fun h => by rcases h with h | h | h <;> omega⟩)))
      clear hREST hbw HAS HKC HMK hq
      apply wp_rangeFunc_T (D := q + 3) (hD := HSS.out.2.2.2.2.1) (K := fun b => b = q + 1 ∨ b = q ∨ b = q + 2 ∨ b = mxB) (G := fun b => b = q) (M := fun b => b = N + 1 ∨ b = N + 1 + 1 ∨ q + 3 + 2 ≤ b) (fin := none) (hg := rfl) (eg := enters_of Tryz.func94 (by kernel_rfl) rfl)
        (hseq := split_seq x (q + 1) q (q + 2) HXL.out (by omega) (by omega) (by have := HMX.out; have := HQ.out.2; have := HZ1.out; omega))
        (I := fun j W => ∃ kc, keepA kc ((spl 44 x).drop j ++ REST) = R ∧ KC W N kc ∧ Aside (GK N q) w2 W) (Ix := fun c j W => c = .ret ∧ R = false ∧ (∃ kc, KC W N kc) ∧ Aside (GK N q) w2 W)
      case hassign =>
        intro l x W K hK
        gi_wp2
        exact hK
      case hSt => exact ⟨HSS.out.1, ⟨HSS.out.2.1, HSS.out.2.2.1⟩, HSS.out.2.2.2.1, HENV.out.mx⟩
      case hStK => exact fun A B h hk _ => h.kept hk
      case hK =>
        intro b hb
        have := HMX.out
        have := HQ.out.2
        have := HZ1.out
        rcases hb with h | h | h | h <;> omega
      case hM =>
        intro b hb
        have := HMX.out
        have := HQ.out.2
        have := HZ1.out
        refine ⟨fun h => ?_, ?_, ?_⟩
        · rcases hb with g | g | g <;> rcases h with h | h | h | h <;> omega
        · rcases hb with g | g | g <;> omega
        · rcases hb with g | g | g <;> omega
      case hGK => exact fun b h => .inr (.inl h)
      case hps => rfl
      case hI =>
        rintro j A B ⟨kc, e1, e2, e3⟩ ha
        have := HQ.out.2
        have := HZ1.out
        exact ⟨kc, e1, e2.aside ha (by omega) (by omega), e3.trans (ha.mono fun b _ h => .inr (.inr (by omega)))⟩
      case hIx =>
        rintro c j A B ⟨e0, e1, ⟨kc, e2⟩, e3⟩ ha
        have := HQ.out.2
        have := HZ1.out
        exact ⟨e0, e1, ⟨kc, e2.aside ha (by omega) (by omega)⟩, e3.trans (ha.mono fun b _ h => .inr (.inr (by omega)))⟩
      case h0 => exact ⟨kc, by rw [List.drop_zero]; exact HKA2.out, HKC2.out, Aside.refl _ _⟩
      case hpanic => exact fun _ h => by cases h
      case hstop =>
        rintro c j W hj ⟨rfl, hRf, ⟨kc', hkc⟩, has⟩ hD
        have HFIN := Lib.hid (fun (tmps : Array Value) (hr : ∀ W', W'.cell? ⟨N + 1, 0, none⟩ = some (.bool false) → (results Tryz.f23 tmps).run Tryz.prog W' = .ok (.bool false) W') (ar : Array Value) =>
          marks_out (P := Tryz.prog) (fn := Tryz.f23) (R := Tells w (.bool R)) (tmps := tmps) w1.heap.size ({ target := .collected (q + 3), args := ar } :: ds) (q + 4) W
            ⟨q + 3, by have := HQ.out.2; omega, by omega, rfl, hD, (HMK2.out.keep (W' := W) fun b hb hb2 => has.block b (by have := HSS.out.2.2.2.2.1; omega) (fun h => by
              have := HZ1.out
              rcases h with h | h | h <;> omega)).wide (by omega)⟩
            (fun W' ha' => by
              have hk' := hkc.aside ha' (by have := HZ1.out; omega) (by have := HZ1.out; omega)
              refine ⟨.bool false, hr W' hk'.2.2.1, by rw [hRf], ?_⟩
              have := HZ1.out
              have := HQ.out.2
              have hbb : Below w.heap.size w w2 := below_aside (B := w.heap.size) (HB0.out.trans (HD1.out.mono HB0.out.size)) HAS2.out (fun b hb => by
                rw [hN] at hb
                exact ⟨by omega, fun h => by rcases h with h | h | h <;> omega⟩)
              refine below_aside (below_aside hbb has (fun b hb => ?_)) ha' (fun b hb => ?_)
              · rw [hN] at hb
                exact ⟨by have := HSS.out.2.2.2.2.1; omega, fun h => by rcases h with h | h | h <;> omega⟩
              · rw [hN] at hb
                exact ⟨by have := has.size; have := HSS.out.2.2.2.2.1; omega, by omega⟩))
        clear hkc has hD hRf
        go_wp2_with fail
        refine HFIN.out _ (fun W' hw => ?_) _
        simp [results, Tryz.results23, go_sem, hw]
      case hdone =>
        rintro _ W ⟨kc', hka, hkc, has⟩ hsz hD
        have HKA3 := Lib.hid (show keepA kc' ((L.drop (k + 1)).flatMap (spl 44)) = R by
          rw [HRS.out, ← hka, List.length_map, List.drop_of_length_le (Nat.le_refl _), List.nil_append])
        have HKC3 := Lib.hid hkc
        have HAS3 := Lib.hid (HAS2.out.trans (has.mono fun b _ h => by
          have := HQ.out.2
          rcases h with h | h | h
          · exact .inl h
          · exact .inr (.inl h)
          · exact .inr (.inr (by omega))))
        have HMK3 := Lib.hid (show ∀ ar, MkL w1.heap.size ({ target := .collected (q + 3), args := ar } :: ds) W.heap.size W from fun ar =>
            ⟨q + 3, by have := HQ.out.2; omega, by omega, rfl, hD, (HMK2.out.keep (W' := W) fun b hb hb2 => has.block b (by have := HSS.out.2.2.2.2.1; omega) (fun h => by
              have := HZ1.out
              rcases h with h | h | h <;> omega)).wide (by omega)⟩)
        clear hka hkc has hsz hD
        go_wp2_with fail
        go_roundg (L.length - (k + 1))
        case measure => omega
        case rel => exact ⟨k + 1, kc', by omega, by go_num, HKA3, HKC3, HAS3, Lib.hid (HMK3.out _)⟩
      case hbody =>
        rintro ll j yb W hy hsz ⟨kc', hka, hkc, has⟩
        rw [List.getElem?_map] at hy
        obtain ⟨y, hyy, rfl⟩ := Option.map_eq_some_iff.mp hy
        have hjl : j < (spl 44 x).length := (List.getElem?_eq_some_iff.mp hyy).1
        have hdj : (spl 44 x).drop j = y :: (spl 44 x).drop (j + 1) := by
          rw [List.drop_eq_getElem_cons hjl]
          congr 1
          exact Option.some.inj ((List.getElem?_eq_getElem hjl).symm.trans hyy)
        have hyl : y.length ≤ 1000000 := Nat.le_trans (spl_sum 44 x y (List.mem_of_getElem? hyy)) HXL.out
        rw [hdj, List.cons_append] at hka
        have HBR := Lib.hid (fun w => bare_any y (by omega) w)
        have HCL := Lib.hid (fun w => same_any2 (trimB y) nClo (by have := trimB_len y; omega) w)
        have HAL := Lib.hid (fun w => same_any2 (trimB y) nAli (by have := trimB_len y; omega) w)
        have HK1 := Lib.hid (show sameN (trimB y) nClo = true → R = false from fun h => by rw [← hka, keepA_close h])
        have HK2 := Lib.hid (show sameN (trimB y) nClo = false → keepA (kc' || sameN (trimB y) nAli) ((spl 44 x).drop (j + 1) ++ REST) = R from fun h => by rw [← hka, keepA_on h])
        obtain ⟨C1, hC1⟩ : ∃ C, sameN (trimB y) nClo = C := ⟨_, rfl⟩
        obtain ⟨C2, hC2⟩ : ∃ C, sameN (trimB y) nAli = C := ⟨_, rfl⟩
        obtain ⟨T, hT⟩ : ∃ C, trimB y = C := ⟨_, rfl⟩
        rw [hC1] at HK1 HK2
        rw [hC2] at HK2
        rw [hT] at HBR
        simp only [hC1] at HCL
        simp only [hC2] at HAL
        rw [hT] at HCL HAL
        have HKC3 := Lib.hid hkc
        have HAS3 := Lib.hid has
        have HSZ3 := Lib.hid hsz
        have HAM := Lib.hid (show ∀ A B : World, q + 3 + 2 ≤ A.heap.size → Below A.heap.size A B → Aside (fun b => b = N + 1 ∨ b = N + 1 + 1 ∨ q + 3 + 2 ≤ b) A B from fun A B _ hb => Aside.of_all hb)
        clear hy hyy hjl hdj hyl hka hkc has hsz hC1 hC2 hT
        gi_wp2_with fail
        refine ⟨trivial, rfl, (CallsIn.inRound ll (callsIn_wide.2 (HBR.out W))).mono ?_⟩
        rintro e w3 ⟨rfl, hb3⟩
        have HD3 := Lib.hid hb3
        clear hb3
        gi_wp2_with fail
        refine ⟨trivial, rfl, (CallsIn.inRound ll (callsIn_wide.2 (HCL.out w3))).mono ?_⟩
        rintro e w4 ⟨rfl, hb4⟩
        have HD4 := Lib.hid (bel_call HD3.out hb4)
        have HKC4 := Lib.hid (HKC3.out.aside (G := fun _ => False) (Aside.of_all (bel_call HD3.out hb4)) (fun h => h) (fun h => h))
        have HAS4 := Lib.hid (HAS3.out.trans (Aside.of_all (bel_call HD3.out hb4)))
        clear hb4
        obtain ⟨d1, d2, d3, d4⟩ := HKC4.out
        cases C1 with
        | true =>
          have HRF := Lib.hid (HK1.out rfl)
          have HAS5 := Lib.hid (HAS4.out.trans (Aside.setCell w4 (p := ⟨N + 1, 0, none⟩) (.bool false) (.inl rfl)))
          have HAM5 := Lib.hid ((HAM.out W w4 HSZ3.out HD4.out).trans (Aside.setCell w4 (p := ⟨N + 1, 0, none⟩) (.bool false) (.inl rfl)))
          have HKC5 := Lib.hid (show KC (w4.setCell ⟨N + 1, 0, none⟩ (.bool false)) N kc' from
            ⟨(World.cell?_setCell_other _ _ _ _ (fun e => by have := congrArg Addr.block e; simp at this)).trans d1, by rw [World.frozen?_setCell]; exact d2, World.cell?_setCell_same _ _ _ d3, by rw [World.frozen?_setCell]; exact d4⟩)
          clear d1 d2
          gi_wp2_with fail
          exact ⟨HAM5.out, rfl, HRF.out, ⟨kc', HKC5.out⟩, HAS5.out⟩
        | false =>
          have HKN := Lib.hid (HK2.out rfl)
          gi_wp2_with fail
          refine ⟨trivial, rfl, (CallsIn.inRound ll (callsIn_wide.2 (HAL.out w4))).mono ?_⟩
          rintro e w5 ⟨rfl, hb5⟩
          have HD5 := Lib.hid (bel_call HD4.out hb5)
          have HKC5 := Lib.hid (HKC4.out.aside (G := fun _ => False) (Aside.of_all hb5) (fun h => h) (fun h => h))
          have HAS5 := Lib.hid (HAS4.out.trans (Aside.of_all hb5))
          clear hb5 d1 d2 d3 d4
          obtain ⟨d1, d2, d3, d4⟩ := HKC5.out
          cases C2 with
          | true =>
            have HAS6 := Lib.hid (HAS5.out.trans (Aside.setCell w5 (p := ⟨N + 1 + 1, 0, none⟩) (.bool true) (.inr (.inl rfl))))
            have HAM6 := Lib.hid ((HAM.out W w5 HSZ3.out HD5.out).trans (Aside.setCell w5 (p := ⟨N + 1 + 1, 0, none⟩) (.bool true) (.inr (.inl rfl))))
            have HKC6 := Lib.hid (HKC5.out.set true)
            have HKT := Lib.hid (show keepA true ((spl 44 x).drop (j + 1) ++ REST) = R by rw [← HKN.out]; simp)
            clear d3 d4
            gi_wp2_with fail
            exact ⟨HAM6.out, true, HKT.out, HKC6.out, HAS6.out⟩
          | false =>
            have HAM6 := Lib.hid (HAM.out W w5 HSZ3.out HD5.out)
            have HKT := Lib.hid (show keepA kc' ((spl 44 x).drop (j + 1) ++ REST) = R by rw [← HKN.out]; simp)
            gi_wp2_with fail
            exact ⟨HAM6.out, kc', HKT.out, HKC5.out, HAS5.out⟩
    · have t1 : ¬ ((k : Int) < L.length) := by omega
      have HRK := Lib.hid (show kc = R by rw [← HKA.out, List.drop_of_length_le (by omega)]; rfl)
      obtain ⟨d1, d2, d3, d4⟩ := HKC.out
      have HKS := Lib.hid (show (wr.setCell ⟨N + 1, 0, none⟩ (.bool kc)).cell? ⟨N + 1, 0, none⟩ = some (.bool kc) from World.cell?_setCell_same _ _ _ d3)
      have HFIN := Lib.hid (fun (tmps : Array Value) (hr : ∀ W', W'.cell? ⟨N + 1, 0, none⟩ = some (.bool kc) → (results Tryz.f23 tmps).run Tryz.prog W' = .ok (.bool kc) W') =>
          marks_out (P := Tryz.prog) (fn := Tryz.f23) (R := Tells w (.bool R)) (tmps := tmps) w1.heap.size ds wr.heap.size (wr.setCell ⟨N + 1, 0, none⟩ (.bool kc))
            (HMK.out.keep fun b hb hb2 => Below.heap_setCell _ _ _ _ (fun e => by
              have := HZ1.out
              simp only at e
              omega))
            (fun W' ha' => by
              refine ⟨.bool kc, hr W' (ha'.cell_lt HKS.out (by have := HZ1.out; simp only; omega)), by rw [HRK.out], ?_⟩
              have := HZ1.out
              have hbb : Below w.heap.size w wr := below_aside (B := w.heap.size) (HB0.out.trans (HD1.out.mono HB0.out.size)) HAS.out (fun b hb => by
                rw [hN] at hb
                exact ⟨by omega, fun h => by rcases h with h | h | h <;> omega⟩)
              refine below_aside (hbb.setCell (p := ⟨N + 1, 0, none⟩) (by rw [hN]; simp) _) ha' (fun b hb => ?_)
              rw [hN] at hb
              exact ⟨by have := HAS.out.size; simp [World.setCell]; omega, by omega⟩))
      clear HKA
      go_wp2_with fail
      refine HFIN.out _ (fun W' hw => ?_)
      simp [results, Tryz.results23, go_sem, hw]
end Go.Proofs.YtknfgcmidpgifaaGreatDoor

/-
  The document's words; its Keep.
-/
namespace Go.Proofs.YtknfgcmidpgifaaGreatDoor
open Go.RowKit Go.Shelf
set_option linter.unusedVariables false
set_option linter.unusedSimpArgs false
set_option maxRecDepth 100000

def SpPost (w : World) (L : List (List UInt8)) (e : Ending) (w' : World) : Prop := ∃ v, e = .returned v ∧ OwnT w' w.heap.size v L ∧ Below w.heap.size w w'

set_option maxHeartbeats 4000000 in
theorem rsplit_any {w : World} (s : List UInt8) (c : UInt8) (hs : s.length ≤ 900000) : Calls Tryz.prog 58 #[.string (bs s), .int .u8 (c.toNat : Nat)] w (SpPost w (spl c s)) := by
  obtain ⟨X, hX⟩ : ∃ X, spl c s = X := ⟨_, rfl⟩
  rw [hX]
  have H0 := Lib.hid (show splA c [] [] s = X by rw [splA_0]; exact hX)
  have HB := Lib.hid (Below.refl w.heap.size w)
  clear hX
  go_enter Tryz.func58, Tryz.ntmps58
  go_wp2_with fail
  go_loopg [5, 6, 7] s.length (fun g v5 v6 v7 wr => ∃ (k : Nat) (out : List (List UInt8)) (wd : List UInt8), k + g = s.length ∧ v7 = .int .i64 k ∧ v6 = .string (bs wd) ∧ out.length + wd.length ≤ k ∧ Hid (OwnT wr w.heap.size v5 out) ∧ Hid (splA c out wd (s.drop k) = X) ∧ Hid (Below w.heap.size w wr))
  case atStart => exact ⟨0, [], [], by omega, rfl, rfl, by simp, OwnT.nil _ _, by simpa using H0, HB⟩
  case round =>
    clear H0 HB
    obtain ⟨k, out, wd, hk, rfl, rfl, hlen, HO, HS, HB⟩ := hrel
    obtain ⟨a5, c5, rfl⟩ := HO.out.shape
    have hkb : k ≤ 900000 := by omega
    by_cases hlt : k < s.length
    · have ia := ix_run s k hlt
      have hcut := cut_run s k (k + 1) (by omega) (by omega)
      have hdr : s.drop k = s[k] :: s.drop (k + 1) := List.drop_eq_getElem_cons hlt
      rw [show k + 1 - k = 1 by omega, hdr] at hcut
      have hS := HS.out
      rw [hdr] at hS
      obtain ⟨x, hx⟩ : ∃ x, s[k] = x := ⟨_, rfl⟩
      rw [hx] at ia hS hcut
      have hcut : ∀ w, (Instr.slice 9 (.string (bs s)) (some (.int .i64 k)) (some (.int .i64 (k + 1))) none).run Tryz.prog w = .ok (.string (bs [x])) w := fun w => by
        have := hcut w
        simpa using this
      by_cases hxc : x = c
      · subst hxc
        have HS2 := Lib.hid (show splA x (out ++ [wd]) [] (s.drop (k + 1)) = X by rw [← hS, splA_sep])
        clear hS hdr hx hcut
        go_wp2_with (at_builtin; refine wpList_appT rfl (.tmp 19) (.tmp 21) rfl rfl w.heap.size ?l1 ?h1 _ _ out [wd] rfl rfl ?a1 ?b1 ?c1 ?d1 ?_)
        case l1 => exact wr.heap.size
        case h1 => exact wr.heap.size + 1
        case a1 => exact HO.out.below ((Below.refl _ _).alloc (Nat.le_refl _) _)
        case b1 => exact st_one wr wd
        case c1 => first | omega | (simp; omega)
        case d1 => have := HB.out.size; simp; omega
        intro a' c' w' HO3 hb3
        have HB3 := Lib.hid ((HB.out.alloc HB.out.size _).trans hb3.out)
        clear hb3
        go_wp2_with fail
        go_roundg (s.length - (k + 1))
        case measure => omega
        case rel => exact ⟨k + 1, out ++ [wd], [], by omega, by go_num, rfl, by simp; omega, HO3, HS2, HB3⟩
      · have HS2 := Lib.hid (show splA c out (wd ++ [x]) (s.drop (k + 1)) = X by rw [← hS, splA_go _ _ _ _ _ hxc])
        have t1 : ((x.toNat : Int) == c.toNat) = false := by
          rw [beq_eq_false_iff_ne]
          exact fun e => hxc (UInt8.toNat_inj.mp (by exact_mod_cast e))
        have r1 : ∀ w, (Op.stringOp .add (bs wd) (bs [x])).run Tryz.prog w = .ok (.string (bs (wd ++ [x]))) w := fun w => adds_run wd [x] (by omega) (by simp) w
        clear hS hdr hx hxc
        go_wp2_with fail
        go_roundg (s.length - (k + 1))
        case measure => omega
        case rel => exact ⟨k + 1, out, wd ++ [x], by omega, by go_num, rfl, by simp; omega, HO, HS2, HB⟩
    · have t1 : ¬ ((k : Int) < s.length) := by omega
      have HXX := Lib.hid (show X = out ++ [wd] by rw [← HS.out, List.drop_of_length_le (by omega), splA_nil])
      go_wp2_with (at_builtin; refine wpList_appT rfl (.tmp 30) (.tmp 32) rfl rfl w.heap.size ?l1 ?h1 _ _ out [wd] rfl rfl ?a1 ?b1 ?c1 ?d1 ?_)
      case l1 => exact wr.heap.size
      case h1 => exact wr.heap.size + 1
      case a1 => exact HO.out.below ((Below.refl _ _).alloc (Nat.le_refl _) _)
      case b1 => exact st_one wr wd
      case c1 => first | omega | (simp; omega)
      case d1 => have := HB.out.size; simp; omega
      intro a' c' w' HO3 hb3
      have HB3 := Lib.hid ((HB.out.alloc HB.out.size _).trans hb3.out)
      clear hb3
      go_wp2_with fail
      go_ret
      exact ⟨_, rfl, by rw [HXX.out]; exact HO3.out, HB3.out⟩

theorem vals_drop (l : List Fd) (name : List UInt8) (k : Nat) (hk : k < l.length) : vals (l.drop k) name = (if sameN l[k].1 name then [l[k].2] else []) ++ vals (l.drop (k + 1)) name := by
  rw [List.drop_eq_getElem_cons hk]
  unfold vals
  rw [List.filter_cons]
  split <;> simp

set_option maxHeartbeats 16000000 in
theorem rkeep_any {w : World} {hi : Nat} {u : Value} {h : Hd} (hh : Hv w hi u h) (h1 : hi ≤ w.heap.size) (hf : Fits h) (hx : ∀ x ∈ h.fs, x.2.length ≤ 900000) :
    Calls Tryz.prog 24 #[u] w (Tells w (.bool (keepH h.v h.fs))) := by
  obtain ⟨m, t, v, l⟩ := h
  have HH := Lib.hid hh
  obtain ⟨sl, rfl, hs0⟩ := hh
  simp only at hs0 hx ⊢
  obtain ⟨a, c, rfl⟩ := Lst.shape hs0
  have hb0 : Below w.heap.size w (w.alloc (.cells #[.string (bs m), .string (bs t), .int .i64 v, .slice a l.length c] 24)) := (Below.refl _ _).alloc (Nat.le_refl _) _
  have hx0 := cel_new4 w (.string (bs m)) (.string (bs t)) (.int .i64 v) (.slice a l.length c) 24
  have hv0 : Hv (w.alloc (.cells #[.string (bs m), .string (bs t), .int .i64 v, .slice a l.length c] 24)) (w.alloc (.cells #[.string (bs m), .string (bs t), .int .i64 v, .slice a l.length c] 24)).heap.size (.agg #[.string (bs m), .string (bs t), .int .i64 v, .slice a l.length c]) ⟨m, t, v, l⟩ := ((HH.out.wide h1).later hb0)
  obtain ⟨N, hN⟩ : ∃ N, w.heap.size = N := ⟨_, rfl⟩
  rw [hN] at hx0
  have HB0 := Lib.hid hb0
  have HX0 := Lib.hid hx0
  obtain ⟨W, hW⟩ : ∃ W, w.alloc (.cells #[.string (bs m), .string (bs t), .int .i64 v, .slice a l.length c] 24) = W := ⟨_, rfl⟩
  rw [hW] at HB0 HX0 hv0
  have HV0 := Lib.hid hv0
  have HLN := Lib.hid (show l.length ≤ 900000 from hf.1)
  have HFX := Lib.hid (fun x (h : x ∈ l) => And.intro (hf.n x h) (hx x h))
  obtain ⟨R, hR⟩ : ∃ R, keepH v l = R := ⟨_, rfl⟩
  obtain ⟨V1, hV1⟩ : ∃ V, (v == 1) = V := ⟨_, rfl⟩
  have HR := Lib.hid (show keepA V1 ((vals (l.drop 0) nCon).flatMap (spl 44)) = R by rw [← hV1, List.drop_zero]; exact hR)
  rw [hR]
  have H0 := Lib.hid (Below.refl W.heap.size W)
  obtain ⟨c0, c1, c2, c3⟩ := HX0.out.four
  clear hs0 hb0 hx0 hv0 hf hx hR
  go_enter Tryz.func24, Tryz.ntmps24
  go_wp2_with fail
  clear c0 c1 c2 c3
  go_loopg [3, 4] l.length (fun n v3 v4 wr => ∃ (k : Nat) (kc : Bool), k + n = l.length ∧ v4 = .int .i64 k ∧ v3 = .bool kc ∧ Hid (keepA kc ((vals (l.drop k) nCon).flatMap (spl 44)) = R) ∧ Hid (Below W.heap.size W wr))
  case atStart => exact ⟨0, V1, by omega, rfl, rfl, HR, H0⟩
  case round =>
    clear HR H0
    obtain ⟨k, kc, hk, rfl, rfl, HK, HB⟩ := hrel
    have hkb : k ≤ 900000 := by have := HLN.out; omega
    obtain ⟨c0, c1, c2, c3⟩ := (HX0.out.below (by simp) HB.out).four
    by_cases hlt : k < l.length
    · obtain ⟨b, off, c2', he, hb, hc⟩ := (HV0.out.later HB.out).sf.at_ k hlt
      injection he with he hn3 hc3
      clear hn3 hc3
      subst he
      have HAT := Lib.hid (And.intro hc (show b < wr.heap.size from hb))
      obtain ⟨p0, p1⟩ := hc
      have hvs := vals_drop l nCon k hlt
      have hln := HFX.out l[k] (List.getElem_mem hlt)
      obtain ⟨x, hx⟩ : ∃ x, l[k] = x := ⟨_, rfl⟩
      rw [hx] at p0 p1 hvs hln HAT
      have HSM := Lib.hid (rsame_any x.1 nCon hln.1 wr)
      obtain ⟨S, hS⟩ : ∃ S, sameN x.1 nCon = S := ⟨_, rfl⟩
      rw [hS] at HSM hvs
      obtain ⟨REST, hRS⟩ : ∃ r, (vals (l.drop (k + 1)) nCon).flatMap (spl 44) = r := ⟨_, rfl⟩
      have HRS := Lib.hid hRS
      have hkk := HK.out
      rw [hvs, List.flatMap_append, hRS] at hkk
      have HKK := Lib.hid hkk
      have HLX := Lib.hid hln.2
      clear hS hvs hln hx hb hRS hkk HK
      go_wp2_with fail
      refine (HSM.out).mono ?_; rintro e w3 ⟨rfl, hb3⟩
      have HB3 := Lib.hid (bel_call HB.out hb3)
      obtain ⟨q0, q1⟩ := HAT.out.1.keep fun o => hb3.cell (p := ⟨b, o, none⟩) HAT.out.2
      clear hb3 c0 c1 c2 c3 p0 p1
      obtain ⟨c0, c1, c2, c3⟩ := (HX0.out.below (by simp) HB3.out).four
      cases S with
      | false =>
        have HK2 := Lib.hid (show keepA kc ((vals (l.drop (k + 1)) nCon).flatMap (spl 44)) = R by rw [HRS.out]; simpa using HKK.out)
        go_wp2_with fail
        go_roundg (l.length - (k + 1))
        case measure => omega
        case rel => exact ⟨k + 1, kc, by omega, by go_num, rfl, HK2, HB3⟩
      | true =>
        have HK2 := Lib.hid (show keepA kc ((spl 44 x.2).drop 0 ++ REST) = R by simpa using HKK.out)
        have HSP := Lib.hid (rsplit_any (w := w3) x.2 44 (by have := HLX.out; omega))
        obtain ⟨Y, hY⟩ : ∃ Y, spl 44 x.2 = Y := ⟨_, rfl⟩
        have HYL := Lib.hid (show (∀ y ∈ Y, y.length ≤ 900000) ∧ Y.length ≤ 900001 from by
          rw [← hY]
          refine ⟨fun y hy => Nat.le_trans (spl_sum 44 x.2 y hy) HLX.out, ?_⟩
          rw [spl_len]
          have h5 := Lib.countB_le ⟨#[44]⟩ (Nat.le_refl 1) _ (bs x.2) (Nat.le_refl _)
          rw [bs_size] at h5
          have h6 := HLX.out
          show Lib.countB (bs x.2) ⟨#[44]⟩ + 1 ≤ _
          omega)
        rw [hY] at HK2 HSP
        clear hY
        go_wp2_with fail
        refine (HSP.out).mono ?_; rintro e w4 ⟨v4, rfl, ho4, hb4⟩
        have HB4 := Lib.hid (bel_call HB3.out hb4)
        obtain ⟨a4, k4, rfl⟩ := ho4.shape
        have HS4 := Lib.hid (st_at ho4.st)
        clear hb4 ho4 c0 c1 c2 c3 q0 q1
        go_wp2_with fail
        go_loopg [3, 6] Y.length (fun n v3 v6 wq => ∃ (j : Nat) (kc : Bool), j + n = Y.length ∧ v6 = .int .i64 j ∧ v3 = .bool kc ∧ Hid (keepA kc (Y.drop j ++ REST) = R) ∧ Hid (Below w4.heap.size w4 wq))
        case atStart => exact ⟨0, kc, by omega, rfl, rfl, HK2, Lib.hid (Below.refl _ _)⟩
        case round =>
          clear HK2
          obtain ⟨j, kc, hj, rfl, rfl, HK, HB5⟩ := hrel
          have hjb : j ≤ 900001 := by have := HYL.out.2; omega
          by_cases hjl : j < Y.length
          · obtain ⟨b4, o4, rfl, _, hb42, hc4⟩ := HS4.out (by omega)
            have p0 := (HB5.out.cell (p := ⟨b4, o4 + j, none⟩) hb42).trans (hc4 j hjl)
            have HP0 := Lib.hid (fun (wx : World) (hb : Below w4.heap.size w4 wx) => (hb.cell (p := ⟨b4, o4 + j, none⟩) hb42).trans (hc4 j hjl))
            have hka := HK.out
            rw [List.drop_eq_getElem_cons hjl, List.cons_append] at hka
            have hyl := HYL.out.1 _ (List.getElem_mem hjl)
            obtain ⟨y, hy⟩ : ∃ y, Y[j] = y := ⟨_, rfl⟩
            rw [hy] at p0 HP0 hka hyl
            have HTR := Lib.hid (fun w => rtrim_any y (by omega) w)
            have HCL := Lib.hid (fun w => rsame_any (trimB y) nClo (by have := trimB_len y; omega) w)
            have HAL := Lib.hid (fun w => rsame_any (trimB y) nAli (by have := trimB_len y; omega) w)
            have HK1 := Lib.hid (show sameN (trimB y) nClo = true → R = false from fun h => by rw [← hka, keepA_close h])
            have HK2 := Lib.hid (show sameN (trimB y) nClo = false → keepA (kc || sameN (trimB y) nAli) (Y.drop (j + 1) ++ REST) = R from fun h => by rw [← hka, keepA_on h])
            obtain ⟨C1, hC1⟩ : ∃ C, sameN (trimB y) nClo = C := ⟨_, rfl⟩
            obtain ⟨C2, hC2⟩ : ∃ C, sameN (trimB y) nAli = C := ⟨_, rfl⟩
            obtain ⟨T, hT⟩ : ∃ C, trimB y = C := ⟨_, rfl⟩
            rw [hC1] at HK1 HK2
            rw [hC2] at HK2
            rw [hT] at HTR
            simp only [hC1] at HCL
            simp only [hC2] at HAL
            rw [hT] at HCL HAL
            clear hy hka hyl hC1 hC2 hT hc4
            go_wp2_with fail
            refine (HTR.out _).mono ?_; rintro e w5 ⟨rfl, hb5⟩
            have HB6 := Lib.hid (bel_call HB5.out hb5)
            clear hb5 p0
            go_wp2_with fail
            refine (HCL.out _).mono ?_; rintro e w6 ⟨rfl, hb6⟩
            have HB7 := Lib.hid (bel_call HB6.out hb6)
            clear hb6
            cases C1 with
            | true =>
              have HRF := Lib.hid (HK1.out rfl)
              go_wp2_with fail
              go_ret
              exact ⟨by rw [HRF.out]; rfl, HB0.out.trans ((bel_call HB4.out HB7.out).mono HB0.out.size)⟩
            | false =>
              have HKN := Lib.hid (HK2.out rfl)
              have p1 := HP0.out _ HB7.out
              go_wp2_with fail
              refine (HTR.out _).mono ?_; rintro e w7 ⟨rfl, hb7⟩
              have HB8 := Lib.hid (bel_call HB7.out hb7)
              clear hb7 p1
              go_wp2_with fail
              refine (HAL.out _).mono ?_; rintro e w8 ⟨rfl, hb8⟩
              have HB9 := Lib.hid (bel_call HB8.out hb8)
              clear hb8
              cases C2 with
              | true =>
                have HKT := Lib.hid (show keepA true (Y.drop (j + 1) ++ REST) = R by rw [← HKN.out]; simp)
                go_wp2_with fail
                go_roundg (Y.length - (j + 1))
                case measure => omega
                case rel => exact ⟨j + 1, true, by omega, by go_num, rfl, HKT, HB9⟩
              | false =>
                have HKT := Lib.hid (show keepA kc (Y.drop (j + 1) ++ REST) = R by rw [← HKN.out]; simp)
                go_wp2_with fail
                go_roundg (Y.length - (j + 1))
                case measure => omega
                case rel => exact ⟨j + 1, kc, by omega, by go_num, rfl, HKT, HB9⟩
          · have t1 : ¬ ((j : Int) < Y.length) := by omega
            have HK5 := Lib.hid (show keepA kc ((vals (l.drop (k + 1)) nCon).flatMap (spl 44)) = R by rw [HRS.out, ← HK.out, List.drop_of_length_le (by omega), List.nil_append])
            have HB6 := Lib.hid (bel_call HB4.out HB5.out)
            go_wp2_with fail
            go_roundg (l.length - (k + 1))
            case measure => omega
            case rel => exact ⟨k + 1, kc, by omega, by go_num, rfl, HK5, HB6⟩
    · have t1 : ¬ ((k : Int) < l.length) := by omega
      have HRK := Lib.hid (show kc = R by rw [← HK.out, List.drop_of_length_le (by omega)]; rfl)
      go_wp2_with fail
      go_ret
      exact ⟨by rw [HRK.out]; rfl, HB0.out.trans (HB.out.mono HB0.out.size)⟩
end Go.Proofs.YtknfgcmidpgifaaGreatDoor

/-
  The statement HeadTells.
-/
namespace Go.Proofs.YtknfgcmidpgifaaGreatDoor
open Go.RowKit Go.Shelf
set_option linter.unusedVariables false
set_option linter.unusedSimpArgs false
set_option maxRecDepth 100000

set_option maxHeartbeats 16000000 in
theorem tells_law {w : World} {hi : Nat} {u : Value} {h : Hd} (name : ByteArray) (hh : Hv w hi u h) (h1 : hi ≤ w.heap.size) (hm : Mem h) (hE : Env w) :
    Calls Tryz.prog 4 #[u, .string name] w (Tells w (.bool true)) := by
  obtain ⟨m, t, v, l⟩ := h
  have HH := Lib.hid (And.intro hh h1)
  have HE := Lib.hid hE
  obtain ⟨sl, rfl, hs0⟩ := hh
  simp only at hs0
  obtain ⟨a, c, rfl⟩ := Lst.shape hs0
  have hb0 : Below w.heap.size w (w.alloc (.cells #[.string (bs m), .string (bs t), .int .i64 v, .slice a l.length c] 24)) := (Below.refl _ _).alloc (Nat.le_refl _) _
  have hx := cel_new4 w (.string (bs m)) (.string (bs t)) (.int .i64 v) (.slice a l.length c) 24
  obtain ⟨N, hN⟩ : ∃ N, w.heap.size = N := ⟨_, rfl⟩
  rw [hN] at hx
  have HB0 := Lib.hid hb0
  have HX0 := Lib.hid hx
  have hz : (w.alloc (.cells #[.string (bs m), .string (bs t), .int .i64 v, .slice a l.length c] 24)).heap.size = N + 1 := by simp [hN]
  obtain ⟨W, hW⟩ : ∃ W, w.alloc (.cells #[.string (bs m), .string (bs t), .int .i64 v, .slice a l.length c] 24) = W := ⟨_, rfl⟩
  rw [hW] at HB0 HX0 hz
  have HZ0 := Lib.hid hz
  have HHv := Lib.hid (fun (wx : World) (hb : Below w.heap.size w wx) => (HH.out.1.below hb HH.out.2).wide (hi' := wx.heap.size) (Nat.le_trans HH.out.2 hb.size))
  have HAW := Lib.hid (fun (wx : World) (hb : Below w.heap.size w wx) => awake_any (HE.out.later hb))
  have HLH := Lib.hid (longH_any (HHv.out _ HB0.out) (Nat.le_refl _) hm)
  obtain ⟨LG, hLG⟩ : ∃ B, longH ⟨m, t, v, l⟩ = B := ⟨_, rfl⟩
  rw [hLG] at HLH
  obtain ⟨c0, c1, c2, c3⟩ := HX0.out.four
  clear hs0 hb0 hx hz hm hE
  have hnm : name = bs name.data.toList := bs_eta name
  obtain ⟨nm, hnn⟩ : ∃ n, name.data.toList = n := ⟨_, rfl⟩
  rw [hnn] at hnm
  subst hnm
  clear hnn
  cases LG with
  | true =>
    clear hLG
    go_enter Tryz.func4, Tryz.ntmps4
    go_wp2_with fail
    refine (HLH.out).mono ?_; rintro e w1 ⟨rfl, hb1⟩
    have HB1 := Lib.hid (HB0.out.trans (hb1.mono HB0.out.size))
    clear hb1
    go_wp2_with fail
    refine (HAW.out _ HB1.out).mono ?_; rintro e w2 ⟨rfl, hb2⟩
    have HB2 := Lib.hid (HB1.out.trans (hb2.mono HB1.out.size))
    clear hb2
    go_wp2_with fail
    go_ret
    exact ⟨rfl, HB2.out⟩
  | false =>
    have HSH := Lib.hid hLG
    clear hLG
    have HLL := Lib.hid (show l.length ≤ 900000 by have := (short_of HSH.out).2.2.1; simp only at this; omega)
    by_cases h200 : 200 < nm.length
    · have t200 : (200 : Int) < nm.length := by omega
      go_enter Tryz.func4, Tryz.ntmps4
      go_wp2_with fail
      refine (HLH.out).mono ?_; rintro e w1 ⟨rfl, hb1⟩
      have HB1 := Lib.hid (HB0.out.trans (hb1.mono HB0.out.size))
      clear hb1
      go_wp2_with fail
      refine (HAW.out _ HB1.out).mono ?_; rintro e w2 ⟨rfl, hb2⟩
      have HB2 := Lib.hid (HB1.out.trans (hb2.mono HB1.out.size))
      clear hb2
      go_wp2_with fail
      go_ret
      exact ⟨rfl, HB2.out⟩
    · have t200 : ¬ ((200 : Int) < nm.length) := by omega
      go_enter Tryz.func4, Tryz.ntmps4
      go_wp2_with fail
      refine (HLH.out).mono ?_; rintro e w1 ⟨rfl, hb1⟩
      have HB1 := Lib.hid (HB0.out.trans (hb1.mono HB0.out.size))
      have HX1 := Lib.hid (HX0.out.below (by simp) hb1)
      have HZ1 := Lib.hid (show N < w1.heap.size by have := hb1.size; have := HZ0.out; omega)
      have HCP := Lib.hid (copyH_any (HHv.out _ HB1.out) (Nat.le_refl _) HLL.out)
      clear hb1 c0 c1 c2 c3
      obtain ⟨c0, c1, c2, c3⟩ := HX1.out.four
      go_wp2_with fail
      refine (HCP.out).mono ?_; rintro e w2 ⟨v2, rfl, ⟨sl2, rfl, ho2⟩, hb2⟩
      obtain ⟨a2, k2, rfl⟩ := OwnF.shape ho2
      simp only at ho2
      have hal : Below w2.heap.size w2 (w2.alloc (.cells #[.string (bs m), .string (bs t), .int .i64 v, .slice a2 l.length k2] 24)) := (Below.refl _ _).alloc (Nat.le_refl _) _
      have hxx := (HX1.out.below (by simp) hb2).below (by simp) hal
      have hyy := cel_new4 w2 (.string (bs m)) (.string (bs t)) (.int .i64 v) (.slice a2 l.length k2) 24
      have hoo := ho2.below hal
      have hbb := HB1.out.trans ((bel_call hb2 hal).mono HB1.out.size)
      have hzz : w2.heap.size + 1 = (w2.alloc (.cells #[.string (bs m), .string (bs t), .int .i64 v, .slice a2 l.length k2] 24)).heap.size := by simp
      have HM2 := Lib.hid (show w1.heap.size ≤ w2.heap.size from hb2.size)
      obtain ⟨W2, hW2⟩ : ∃ W2, w2.alloc (.cells #[.string (bs m), .string (bs t), .int .i64 v, .slice a2 l.length k2] 24) = W2 := ⟨_, rfl⟩
      have HWW := Lib.hid hW2
      clear c0 c1 c2 c3
      obtain ⟨c0, c1, c2, c3⟩ := hxx.four
      rw [hW2] at hxx hyy hoo hbb hzz
      have HX2 := Lib.hid hxx
      have HY2 := Lib.hid hyy
      have HO2 := Lib.hid hoo
      have HB2 := Lib.hid hbb
      have HZ2 := Lib.hid hzz
      clear hal hxx hyy hoo hbb hzz hb2 ho2 hW2
      go_wp2_with fail
      rw [HWW.out]
      clear c0 c1 c2 c3 HCP HLH t200 h200
      have HFT := Lib.hid (short_fits HSH.out)
      have HX9 := Lib.hid (show ∀ x ∈ l, x.2.length ≤ 900000 from fun x hx => by have := short_mem HSH.out x hx; omega)
      have HVI := Lib.hid (fun (wx : World) (ho : OwnF wx w1.heap.size (.slice a2 l.length k2) l) => show Hv wx wx.heap.size (.agg #[.string (bs m), .string (bs t), .int .i64 v, .slice a2 l.length k2]) ⟨m, t, v, l⟩ from ⟨.slice a2 l.length k2, rfl, OwnF.sf ho (Nat.le_trans HLL.out (by omega))⟩)
      have HFA := Lib.hid (fun (wx : World) (ho : OwnF wx w1.heap.size (.slice a2 l.length k2) l) => field_any nm (HVI.out wx ho) (Nat.le_refl _) HFT.out)
      have HFB := Lib.hid (fun (wx : World) (hb : Below w.heap.size w wx) => rfield_any nm (HHv.out wx hb) (Nat.le_refl _) HFT.out)
      have HLA := Lib.hid (fun (wx : World) (ho : OwnF wx w1.heap.size (.slice a2 l.length k2) l) => length_any (HVI.out wx ho) (Nat.le_refl _) HFT.out)
      have HLB := Lib.hid (fun (wx : World) (hb : Below w.heap.size w wx) => rlength_any (HHv.out wx hb) (Nat.le_refl _) HFT.out)
      have HKA := Lib.hid (fun (wx : World) (ho : OwnF wx w1.heap.size (.slice a2 l.length k2) l) (hb : Below w.heap.size w wx) => keep_any (HVI.out wx ho) (Nat.le_refl _) HFT.out (fun x hx => Nat.le_trans (HX9.out x hx) (by omega)) (HE.out.later hb))
      have HKB := Lib.hid (fun (wx : World) (hb : Below w.heap.size w wx) => rkeep_any (HHv.out wx hb) (Nat.le_refl _) HFT.out HX9.out)
      simp only at HFA HFB HLA HLB HKA HKB
      obtain ⟨F1, hF1⟩ : ∃ F, (fldH l nm).1 = F := ⟨_, rfl⟩
      obtain ⟨F2, hF2⟩ : ∃ F, (fldH l nm).2 = F := ⟨_, rfl⟩
      obtain ⟨G1, hG1⟩ : ∃ F, (lenH l).1 = F := ⟨_, rfl⟩
      obtain ⟨G2, hG2⟩ : ∃ F, (lenH l).2 = F := ⟨_, rfl⟩
      obtain ⟨KK, hKK⟩ : ∃ F, keepH v l = F := ⟨_, rfl⟩
      simp only [hF1, hF2] at HFA HFB
      simp only [hG1, hG2] at HLA HLB
      simp only [hKK] at HKA HKB
      obtain ⟨q, hq⟩ : ∃ q, w2.heap.size = q := ⟨_, rfl⟩
      have HQQ := Lib.hid hq
      rw [hq] at HY2 HZ2 HM2
      clear hF1 hF2 hG1 hG2 hKK
      refine (HFA.out _ HO2.out).mono ?_; rintro e w3 ⟨rfl, hb3⟩
      have HB3 := Lib.hid (HB2.out.trans (hb3.mono HB2.out.size))
      have HX3 := Lib.hid (HX2.out.below (by simp) hb3)
      have HY3 := Lib.hid (HY2.out.below (by simp) hb3)
      have HO3 := Lib.hid (HO2.out.below hb3)
      clear hb3
      obtain ⟨c0, c1, c2, c3⟩ := HX3.out.four
      go_wp2_with fail
      clear c0 c1 c2 c3
      refine (HFB.out _ HB3.out).mono ?_; rintro e w4 ⟨rfl, hb4⟩
      have HB4 := Lib.hid (HB3.out.trans (hb4.mono HB3.out.size))
      have HX4 := Lib.hid (HX3.out.below (by simp) hb4)
      have HY4 := Lib.hid (HY3.out.below (by simp) hb4)
      have HO4 := Lib.hid (HO3.out.below hb4)
      clear hb4
      obtain ⟨c0, c1, c2, c3⟩ := HY4.out.four
      go_wp2_with fail
      clear c0 c1 c2 c3
      refine (HLA.out _ HO4.out).mono ?_; rintro e w5 ⟨rfl, hb5⟩
      have HB5 := Lib.hid (HB4.out.trans (hb5.mono HB4.out.size))
      have HX5 := Lib.hid (HX4.out.below (by simp) hb5)
      have HY5 := Lib.hid (HY4.out.below (by simp) hb5)
      have HO5 := Lib.hid (HO4.out.below hb5)
      clear hb5
      obtain ⟨c0, c1, c2, c3⟩ := HX5.out.four
      go_wp2_with fail
      clear c0 c1 c2 c3
      refine (HLB.out _ HB5.out).mono ?_; rintro e w6 ⟨rfl, hb6⟩
      have HB6 := Lib.hid (HB5.out.trans (hb6.mono HB5.out.size))
      have HX6 := Lib.hid (HX5.out.below (by simp) hb6)
      have HY6 := Lib.hid (HY5.out.below (by simp) hb6)
      have HO6 := Lib.hid (HO5.out.below hb6)
      clear hb6
      go_wp2_with fail
      have hdr : Below w6.heap.size w6 w6.drew := (Below.refl _ w6).drew
      have HD := Lib.hid hdr
      have HK7 := Lib.hid (HKA.out w6.drew (HO6.out.below hdr) (HB6.out.trans (hdr.mono HB6.out.size)))
      have HQ := Lib.hid (show ∀ wx, Below w6.heap.size w6 wx → (wx.cell? ⟨N, 0, none⟩ = some (.string (bs m)) ∧ wx.cell? ⟨N, 1, none⟩ = some (.string (bs t)) ∧ wx.cell? ⟨N, 2, none⟩ = some (.int .i64 v) ∧ wx.cell? ⟨N, 3, none⟩ = some (.slice a l.length c)) ∧ (wx.cell? ⟨q, 0, none⟩ = some (.string (bs m)) ∧ wx.cell? ⟨q, 1, none⟩ = some (.string (bs t)) ∧ wx.cell? ⟨q, 2, none⟩ = some (.int .i64 v) ∧ wx.cell? ⟨q, 3, none⟩ = some (.slice a2 l.length k2)) from fun wx hb => ⟨(HX6.out.below (by simp) hb).four, (HY6.out.below (by simp) hb).four⟩)
      have HSA := Lib.hid (fun (wx : World) (hb : Below w6.heap.size w6 wx) => sameH_yes (HVI.out wx (HO6.out.below hb)) (HHv.out wx (HB6.out.trans (hb.mono HB6.out.size))) (Nat.le_refl _) (Nat.le_refl _))
      clear hdr
      go_region_held3 (fun wx => (wx.cell? ⟨N, 0, none⟩ = some (.string (bs m)) ∧ wx.cell? ⟨N, 1, none⟩ = some (.string (bs t)) ∧ wx.cell? ⟨N, 2, none⟩ = some (.int .i64 v) ∧ wx.cell? ⟨N, 3, none⟩ = some (.slice a l.length c)) ∧ (wx.cell? ⟨q, 0, none⟩ = some (.string (bs m)) ∧ wx.cell? ⟨q, 1, none⟩ = some (.string (bs t)) ∧ wx.cell? ⟨q, 2, none⟩ = some (.int .i64 v) ∧ wx.cell? ⟨q, 3, none⟩ = some (.slice a2 l.length k2))) (first | exact HQ.out _ HD.out | exact HQ.out _ HD7.out | exact HQ.out _ HD8.out | exact HQ.out _ HD9.out | exact HQ.out _ HD10.out) (first
        | (go_at_call 23; refine (HK7.out).mono ?_; rintro e w7 ⟨rfl, hb7⟩; have HD7 : Hid (Below w6.heap.size w6 w7) := bel_call HD.out hb7; clear hb7)
        | (go_at_call 24; refine (HKB.out _ (HB6.out.trans (HD7.out.mono HB6.out.size))).mono ?_; rintro e w8 ⟨rfl, hb8⟩; have HD8 : Hid (Below w6.heap.size w6 w8) := bel_call HD7.out hb8; clear hb8)
        | (go_at_call 18; refine (HSA.out _ HD8.out).mono ?_; rintro e w9 ⟨rfl, hb9⟩; have HD9 : Hid (Below w6.heap.size w6 w9) := bel_call HD8.out hb9; clear hb9)
        | (go_at_call 10; refine (HAW.out _ (HB6.out.trans (HD9.out.mono HB6.out.size))).mono ?_; rintro e w10 ⟨rfl, hb10⟩; have HD10 : Hid (Below w6.heap.size w6 w10) := bel_call HD9.out hb10; clear hb10))
      all_goals
        go_wp2_with fail
        go_ret
        exact ⟨rfl, HB6.out.trans (HD10.out.mono HB6.out.size)⟩
end Go.Proofs.YtknfgcmidpgifaaGreatDoor
