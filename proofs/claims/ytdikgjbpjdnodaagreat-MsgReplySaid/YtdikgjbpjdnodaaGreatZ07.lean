/-
  Write.
-/
import Derived.Test.YtdikgjbpjdnodaaGreatZ06
import Derived.Test.YtdikgjbpjdnodaaGreatZ02
import Derived.Test.YtdikgjbpjdnodaaGreatZ05
import Derived.Deep.Slices
import Derived.Deep.LoopGhost
import Derived.ChangeArms
import Derived.Outline
import Derived.Maps.AppendAt
import Derived.Test.YtdikgjbpjdnodaaGreatZ01
namespace Go.Proofs.YtdikgjbpjdnodaaGreat
open Go.RowKit Go.Shelf
set_option linter.unusedVariables false
set_option linter.unusedSimpArgs false
set_option maxRecDepth 100000

/-- Write's pieces, its row of bytes and its packer, round for round. -/
structure Wk (w wr : World) (p bm B0 : Nat) (vl vb : Value) (L : List Pc) (acc : List UInt8) (K : KK) (e : Nat) : Prop where
  rp : OwnP wr w.heap.size vl L
  lo : ∀ b, vl.ownBlock = some b → b < B0
  rb : OwnB wr B0 vb acc
  pk : Pk wr p bm K e
  has : Aside (fun b => b = p ∨ b = bm) w wr
  size : B0 ≤ wr.heap.size
  base : w.heap.size ≤ B0
  hp : p < w.heap.size
  hm : bm < w.heap.size

section
variable {w wr w' : World} {p bm B0 e : Nat} {vl vb : Value} {L : List Pc} {acc : List UInt8} {K : KK}
theorem Wk.later (h : Wk w wr p bm B0 vl vb L acc K e) (hb : Below wr.heap.size wr w') : Wk w w' p bm B0 vl vb L acc K e :=
  ⟨h.rp.below hb, h.lo, h.rb.below hb, h.pk.later hb, h.has.trans (Aside.of_all hb), Nat.le_trans h.size hb.size, h.base, h.hp, h.hm⟩
theorem Wk.name {K' : KK} {e' : Nat} (h : Wk w wr p bm B0 vl vb L acc K e) (ha : Aside (fun b => b = p ∨ b = bm) wr w') (hk : Pk w' p bm K' e') : Wk w w' p bm B0 vl vb L acc K' e' := by
  have h1 := h.hp
  have h2 := h.hm
  have h3 := h.base
  refine ⟨h.rp.aside ha fun b hb hg => ?_, h.lo, h.rb.aside ha fun b hb hg => ?_, hk, h.has.trans ha, Nat.le_trans h.size ha.size, h3, h1, h2⟩
  · have := (h.rp.lt b hb).1; omega
  · have := (h.rb.lt b hb).1; omega
theorem Wk.app (h : Wk w wr p bm B0 vl vb L acc K e) {xv : Value} {l' : List UInt8} {lo hi : Nat} (hx : Sl wr lo hi xv (iz l')) (hb : acc.length + l'.length ≤ 1000000) :
    ∃ a' c' w', (Builtin.append_ #[28, 28] 28 #[vb, xv]).run Tryz.prog wr = .ok (.slice a' (acc.length + l'.length) c') w' ∧ Wk w w' p bm B0 vl (.slice a' (acc.length + l'.length) c') L (acc ++ l') K e := by
  obtain ⟨a', c', w', h1, h2, ha⟩ := run_appBs B0 vb xv acc l' h.rb hx hb h.size
  have hlt := h.rb.lt
  have g1 := h.hp
  have g2 := h.hm
  have g3 := h.base
  refine ⟨a', c', w', h1, h.rp.aside ha fun b hb hg => by have := h.lo b hb; have := (hlt b hg).1; omega, h.lo, h2, h.pk.aside ha (fun hg => by have := (hlt p hg).1; omega) (fun hg => by have := (hlt bm hg).1; omega), ?_, Nat.le_trans h.size ha.size, g3, g1, g2⟩
  have ha2 : Aside (fun b => w.heap.size ≤ b) wr w' := ha.mono fun b _ hg => by have := (hlt b hg).1; omega
  exact ⟨ha2.os.trans h.has.os, ha2.tape.trans h.has.tape, ha2.output.trans h.has.output, Nat.le_trans h.has.size ha2.size, fun b hb hg => (ha2.block b (Nat.lt_of_lt_of_le hb h.has.size) (by omega)).trans (h.has.block b hb hg)⟩
end

def WrPost (w : World) (p bm : Nat) (R : WR) (x : Ending) (w' : World) : Prop :=
  ∃ v, x = .returned (.tuple #[v, .int .i64 R.code]) ∧ OwnB w' w.heap.size v R.out ∧ Pk w' p bm R.K R.e ∧ Aside (fun b => b = p ∨ b = bm) w w'

theorem fits_nam {ks : List PK} {L : List Pc} (h : Fits ks L) : ∀ x ∈ L, x.2 = true → chk x.1 = 0 := by
  induction h with
  | nil => simp
  | fix h h2 ih => intro x hx hf; rcases List.mem_cons.mp hx with rfl | hx; cases hf; exact ih x hx hf
  | nam h h2 ih => intro x hx hf; rcases List.mem_cons.mp hx with rfl | hx; exact h; exact ih x hx hf
  | txt h => intro x hx hf; obtain rfl := List.mem_singleton.mp hx; cases hf
  | rst => intro x hx hf; obtain rfl := List.mem_singleton.mp hx; cases hf

set_option maxHeartbeats 8000000 in
theorem write_any {w : World} {p bm e : Nat} {K : KK} (h : Pk w p bm K e) (hG : GoodK K) (hK : K.length ≤ 800000) (he : e ≤ 900000) (a t : Int) (d : List UInt8) (hd : d.length ≤ 1000000) :
    Calls Tryz.prog 134 #[.pointer (some ⟨p, 0, none⟩), .int .i64 a, .int .i64 t, .string (bs d)] w (WrPost w p bm (wrR a t d K e)) := by
  have HM := Lib.hid (pmade_any h hG (by omega) (by omega))
  have hpl := h.lt
  have hml := h.map.lt
  rcases hR : spl t d with L | ⟨c, aa⟩
  · have eR : wrR a t d K e = wrL a L K e [] := by unfold wrR; rw [hR]
    rw [eR]
    have HS := Lib.hid (fun wx => split_ok hR hd wx)
    obtain ⟨_, _, hd6, hf, hj⟩ := spl_ok hR
    have hfl := fits_len hf
    have hk3 := (kinds_small t).1
    have HP := Lib.hid (fun k (h : k < L.length) => show L[k].1.length ≤ 65535 from by
      have h1 := joined_take h
      have h2 := joined_part L (k + 1)
      rw [h1, List.length_append, hj] at h2
      omega)
    have HNM := Lib.hid (fun k (h : k < L.length) (h2 : L[k].2 = true) => fits_nam hf L[k] (List.getElem_mem h) h2)
    obtain ⟨X, hX⟩ : ∃ X, wrL a L K e [] = X := ⟨_, rfl⟩
    rw [hX]
    have HX := Lib.hid hX
    obtain ⟨n, hn⟩ : ∃ n, L.length = n := ⟨_, rfl⟩
    have HN := Lib.hid hn
    have hn3 : n ≤ 3 := by omega
    clear hR eR hf hj hfl hk3 hd6 hn hX h
    go_enter Tryz.func134, Tryz.ntmps134
    go_wp2_with fail
    refine HM.out.mono ?_; rintro e0 w1 ⟨rfl, hpk1, ha1⟩
    have HP1 := Lib.hid (And.intro hpk1 ha1)
    clear hpk1 ha1
    go_wp2_with fail
    refine (HS.out w1).mono ?_; rintro e0 w2 ⟨vl, rfl, hown, hb2⟩
    have HWk : Hid (Wk w w2 p bm w2.heap.size vl (.slice none 0 0) L [] K e) := ⟨hown.mono HP1.out.2.size, fun b hb => (hown.lt b hb).2, OwnB.nil _ _, HP1.out.1.later hb2, HP1.out.2.trans (Aside.of_all hb2), Nat.le_refl _, Nat.le_trans HP1.out.2.size hb2.size, hpl, hml⟩
    obtain ⟨al, cl, rfl⟩ := hown.shape
    rw [HN.out] at HWk ⊢
    obtain ⟨B0, hB0⟩ : ∃ B0, w2.heap.size = B0 := ⟨_, rfl⟩
    rw [hB0] at HWk
    clear hown hb2 hB0 HP1 HM
    go_wp2_with fail
    go_loopg [12, 30] n (fun g v12 v30 wr => ∃ (k z : Nat) (acc : List UInt8) (K' : KK) (e' : Nat) (ab : Option Addr) (cb : Nat), k + g = n ∧ v30 = .int .i64 k ∧ v12 = .slice ab z cb ∧ acc.length = z ∧ z ≤ 65535 * k ∧ K'.length ≤ K.length + 127 * k ∧ e' ≤ 1000000 ∧ Hid (Wk w wr p bm B0 (.slice al n cl) (.slice ab z cb) L acc K' e') ∧ Hid (GoodK K') ∧ Hid (wrL a (L.drop k) K' e' acc = X))
    case atStart => exact ⟨0, 0, [], K, e, none, 0, by omega, rfl, rfl, rfl, by omega, by omega, by omega, HWk, hG, HX⟩
    case round =>
      obtain ⟨k, z, acc, K', e', ab, cb, hk, rfl, rfl, hz, hzl, hKl, hel, HW, HGk, HXk⟩ := hrel
      clear HWk
      by_cases hlt0 : k < n
      · have hlt : k < L.length := by have := HN.out; omega
        obtain ⟨g0, c0, he0, hc0, hc1⟩ := OwnP.at_ HW.out.rp k hlt
        injection he0 with he1 he2 he3
        subst he1
        subst he3
        have hxl := HP.out k hlt
        have hst := HXk.out
        rw [List.drop_eq_getElem_cons hlt, wrL] at hst
        obtain ⟨x, hx⟩ : ∃ x, L[k].1 = x := ⟨_, rfl⟩
        obtain ⟨f, hf⟩ : ∃ f, L[k].2 = f := ⟨_, rfl⟩
        rw [hx] at hc0 hxl hst
        rw [hf] at hc1 hst
        rw [hz] at hst
        have hal : Below wr.heap.size wr (wr.alloc (.cells #[.string (bs x), .bool f] 184)) := (Below.refl _ _).alloc (Nat.le_refl _) _
        obtain ⟨cap, W, hcv, ho, hbW, hltW⟩ := conv_B (wr.alloc (.cells #[.string (bs x), .bool f] 184)) x (by omega)
        have hsz : (wr.alloc (.cells #[.string (bs x), .bool f] 184)).heap.size = wr.heap.size + 1 := World.size_alloc _ _
        rw [hsz] at hcv ho hbW hltW
        have d0 : W.cell? ⟨wr.heap.size, 0, none⟩ = some (.string (bs x)) := (hbW.cell (p := ⟨wr.heap.size, 0, none⟩) (Nat.lt_succ_self _)).trans (by simp [go_sem])
        have d1 : W.cell? ⟨wr.heap.size, 1, none⟩ = some (.bool f) := (hbW.cell (p := ⟨wr.heap.size, 1, none⟩) (Nat.lt_succ_self _)).trans (by simp [go_sem])
        have HWW := Lib.hid ((HW.out.later hal).later (by rw [hsz]; exact hbW))
        have HO := Lib.hid ho
        have hnm := fun h => HNM.out k hlt h
        rw [hf, hx] at hnm
        clear hx hf hal ho hbW hltW he2 hsz
        cases f with
        | false =>
          rw [if_neg (by simp)] at hst
          have HST := Lib.hid hst
          obtain ⟨l2, hl2⟩ : ∃ l2, x.length = l2 := ⟨_, rfl⟩
          obtain ⟨a3, c3, w3, hr3, hk3⟩ := HWW.out.app HO.out.sl (by omega)
          rw [hz, hl2] at hr3 hk3
          have HR3 := Lib.hid hr3
          have HK3 := Lib.hid hk3
          have hzl2 : z + l2 ≤ 65535 * (k + 1) := by omega
          have hlen : (acc ++ x).length = z + l2 := by rw [List.length_append, hz, hl2]
          rw [hl2] at hcv
          clear hr3 hk3 hst hl2 HO
          go_wp2_with (at_builtin; refine wpList_append_run (.tmp 53) (.tmp 54) 28 28 rfl rfl rfl rfl HR3.out ?_)
          go_roundg (n - (k + 1))
          case measure => omega
          case rel => exact ⟨k + 1, z + l2, acc ++ x, K', e', a3, c3, by omega, by go_num, by simp, hlen, hzl2, by omega, hel, HK3, HGk, HST⟩
        | true =>
          rw [if_pos rfl] at hst
          have hx255 := (chk_pos (hnm rfl)).2
          have hnb := nameB_len (e := e') (a := wrap64 (a + z)) (n := x) HGk.out
          have hnk := nameK_good (e := e') (a := wrap64 (a + z)) (n := x) HGk.out
          have HNm0 := name_any HWW.out.pk HGk.out (by omega) (by omega) (wrap64 (a + z)) x (by omega)
          obtain ⟨q, hq⟩ : ∃ q, wrap64 (a + z) = q := ⟨_, rfl⟩
          rw [hq] at hst hnb hnk HNm0
          by_cases hE : pkE e' q x = 0
          · rw [if_neg (by simpa using hE)] at hst
            have HST := Lib.hid hst
            obtain ⟨T, hT⟩ : ∃ T, nameB K' e' q x = T := ⟨_, rfl⟩
            obtain ⟨K2, hK2⟩ : ∃ K2, nameK K' e' q x = K2 := ⟨_, rfl⟩
            obtain ⟨e2, he2⟩ : ∃ e2, nameE K' e' q x = e2 := ⟨_, rfl⟩
            rw [hT, hK2, he2] at HST
            have HNm : Hid (Calls Tryz.prog 103 #[.pointer (some ⟨p, 0, none⟩), .int .i64 q, .string (bs x)] W fun y w' => ∃ v, y = .returned (.tuple #[v, .int .i64 0]) ∧ OwnB w' W.heap.size v T ∧ Pk w' p bm K2 e2 ∧ Aside (fun b => b = p ∨ b = bm) W w') := by
              refine HNm0.mono ?_
              rintro y w' ⟨v, rfl, g1, g2, g3⟩
              rw [hE]
              rw [hT] at g1
              rw [hK2, he2] at g2
              exact ⟨v, rfl, g1, g2, g3⟩
            rw [hT] at hnb
            rw [hK2, he2] at hnk
            clear hst HNm0 hT hK2 he2 hE hnm
            go_wp2_with fail
            rw [hq]
            refine HNm.out.mono ?_; rintro e0 w3 ⟨v3, rfl, ho3, hpk3, ha3⟩
            have HK3 := HWW.out.name ha3 hpk3
            obtain ⟨l2, hl2⟩ : ∃ l2, T.length = l2 := ⟨_, rfl⟩
            obtain ⟨a4, c4, w4, hr4, hk4⟩ := HK3.app ho3.sl (by omega)
            obtain ⟨a5, c5, rfl⟩ := ho3.shape
            rw [hz, hl2] at hr4 hk4
            rw [hl2] at hnb ⊢
            have HR4 := Lib.hid hr4
            have HK4 := Lib.hid hk4
            have hzl2 : z + l2 ≤ 65535 * (k + 1) := by omega
            have hlen : (acc ++ T).length = z + l2 := by rw [List.length_append, hz, hl2]
            have hG2 := Lib.hid hnk.1
            clear hr4 hk4 hl2 HO ho3 hpk3 ha3 HK3 hq
            go_wp2_with (at_builtin; refine wpList_append_run (.tmp 53) (.tmp 54) 28 28 rfl rfl rfl rfl HR4.out ?_)
            go_roundg (n - (k + 1))
            case measure => omega
            case rel => exact ⟨k + 1, z + l2, acc ++ T, K2, e2, a4, c4, by omega, by go_num, by simp, hlen, hzl2, by omega, by omega, HK4, hG2, HST⟩
          · rw [if_pos (by simpa using hE)] at hst
            have HST := Lib.hid hst
            have hnk0 : nameK K' e' q x = K' ∧ nameE K' e' q x = e' := by unfold nameK nameE; rw [if_neg hE, if_neg hE]; exact ⟨rfl, rfl⟩
            obtain ⟨cc, hcc⟩ : ∃ cc, pkE e' q x = cc := ⟨_, rfl⟩
            rw [hcc] at HST hE
            have HNm : Hid (Calls Tryz.prog 103 #[.pointer (some ⟨p, 0, none⟩), .int .i64 q, .string (bs x)] W fun y w' => ∃ v, y = .returned (.tuple #[v, .int .i64 cc]) ∧ Pk w' p bm K' e' ∧ Aside (fun b => b = p ∨ b = bm) W w') := by
              refine HNm0.mono ?_
              rintro y w' ⟨v, rfl, _, g2, g3⟩
              rw [hcc]
              rw [hnk0.1, hnk0.2] at g2
              exact ⟨v, rfl, g2, g3⟩
            have tc : (cc != 0) = true := by simpa using hE
            clear hst HNm0 hcc hE hnm hnk0 hnk hnb
            go_wp2_with fail
            rw [hq]
            refine HNm.out.mono ?_; rintro e0 w3 ⟨v3, rfl, hpk3, ha3⟩
            have HK3 := Lib.hid (HWW.out.name ha3 hpk3)
            clear hpk3 ha3 hq
            go_wp2_with fail
            go_ret2
            rw [← HST.out]
            exact ⟨_, rfl, OwnB.nil _ _, HK3.out.pk, HK3.out.has⟩
      · have hXe : wrL a [] K' e' acc = X := by have h := HXk.out; rw [List.drop_eq_nil_of_le (by have := HN.out; omega)] at h; exact h
        have HXe := Lib.hid hXe
        clear hXe
        go_wp2_with fail
        go_ret2
        rw [← HXe.out]
        have hh := HW.out
        exact ⟨_, rfl, hh.rb.mono hh.base, hh.pk, hh.has⟩
  · have eR : wrR a t d K e = ⟨[], c, K, e⟩ := by unfold wrR; rw [hR]
    rw [eR]
    have HS := Lib.hid (fun wx => split_bad hR hd wx)
    have tc : (c != 0) = true := by simpa using code_bad hR
    clear hR eR h
    go_enter Tryz.func134, Tryz.ntmps134
    go_wp2_with fail
    refine HM.out.mono ?_; rintro e0 w1 ⟨rfl, hpk1, ha1⟩
    have HP1 := Lib.hid (And.intro hpk1 ha1)
    clear hpk1 ha1
    go_wp2_with fail
    refine (HS.out w1).mono ?_; rintro e0 w2 ⟨vl, rfl, hb2⟩
    have HP2 := Lib.hid (And.intro (HP1.out.1.later hb2) (HP1.out.2.trans (Aside.of_all hb2)))
    clear hb2
    go_wp2_with fail
    go_ret2
    exact ⟨_, rfl, OwnB.nil _ _, HP2.out⟩
end Go.Proofs.YtdikgjbpjdnodaaGreat

/-
  Numbers as bytes; whether a packer was made; a question's bytes.
-/
namespace Go.Proofs.YtdikgjbpjdnodaaGreat
open Go.RowKit Go.Shelf
set_option linter.unusedVariables false
set_option linter.unusedSimpArgs false
set_option maxRecDepth 100000

def two (n : Int) : List UInt8 := [UInt8.ofNat (n.toNat / 256), UInt8.ofNat (n.toNat % 256)]
def four (n : Int) : List UInt8 := [UInt8.ofNat (n.toNat / 16777216), UInt8.ofNat (n.toNat / 65536 % 256), UInt8.ofNat (n.toNat / 256 % 256), UInt8.ofNat (n.toNat % 256)]

theorem iz_two (n : Int) (h0 : 0 ≤ n) (h1 : n ≤ 65535) : iz (two n) = putL2 n := by
  unfold putL2 two iz
  rw [if_pos ⟨h0, h1⟩]
  simp only [List.map_cons, List.map_nil, UInt8.toNat_ofNat']
  congr 1
  · omega
  · congr 1; omega

theorem iz_four (n : Int) (h0 : 0 ≤ n) (h1 : n ≤ 4294967295) : iz (four n) = putL4 n := by
  unfold putL4 four iz
  rw [if_pos ⟨h0, h1⟩]
  simp only [List.map_cons, List.map_nil, UInt8.toNat_ofNat']
  congr 1
  · omega
  · congr 1
    · omega
    · congr 1
      · omega
      · congr 1; omega

theorem sl_keep {w w' : World} {v : Value} {l : List Int} (h : Sl w 0 w.heap.size v l) (hb : Below w.heap.size w w') : Sl w' 0 w'.heap.size v l := (h.below hb (Nat.le_refl _)).wide (Nat.le_refl _) hb.size

theorem two_any (n : Int) (h0 : 0 ≤ n) (h1 : n ≤ 65535) (w : World) : Calls Tryz.prog 105 #[.int .i64 n] w fun e w' => ∃ a c, e = .returned (.slice a 2 c) ∧ Sl w' 0 w'.heap.size (.slice a 2 c) (iz (two n)) ∧ Below w.heap.size w w' := by
  have HP : Hid (Calls Tryz.prog 54 #[.int .i64 n] w fun e w' => ∃ a c, e = .returned (.tuple #[.slice a 2 c, .int .i64 (putE 65535 n)]) ∧ Sl w' 0 w'.heap.size (.slice a 2 c) (iz (two n)) ∧ Below w.heap.size w w') := by
    refine (put16_any n w).mono ?_
    rintro e w' ⟨v, g, rfl, ho, _, _, hb⟩
    rw [← iz_two n h0 h1] at ho
    have hs := ho.sl.top
    obtain ⟨a, c, rfl, _⟩ := id hs
    exact ⟨a, c, rfl, hs, hb⟩
  obtain ⟨E, hE⟩ : ∃ E, putE 65535 n = E := ⟨_, rfl⟩
  rw [hE] at HP
  clear hE
  go_enter Tryz.func105, Tryz.ntmps105
  go_wp2_with fail
  refine HP.out.mono ?_; rintro e w1 ⟨a, c, rfl, hs, hb⟩
  have HQ := Lib.hid (And.intro hs hb)
  clear hs hb
  go_wp2_with fail
  go_ret
  exact ⟨a, c, rfl, HQ.out⟩

theorem four_any (n : Int) (h0 : 0 ≤ n) (h1 : n ≤ 4294967295) (w : World) : Calls Tryz.prog 135 #[.int .i64 n] w fun e w' => ∃ a c, e = .returned (.slice a 4 c) ∧ Sl w' 0 w'.heap.size (.slice a 4 c) (iz (four n)) ∧ Below w.heap.size w w' := by
  have HP : Hid (Calls Tryz.prog 141 #[.int .i64 n] w fun e w' => ∃ a c, e = .returned (.tuple #[.slice a 4 c, .int .i64 (putE 4294967295 n)]) ∧ Sl w' 0 w'.heap.size (.slice a 4 c) (iz (four n)) ∧ Below w.heap.size w w') := by
    refine (put32_any n w).mono ?_
    rintro e w' ⟨v, g, rfl, ho, _, _, hb⟩
    rw [← iz_four n h0 h1] at ho
    have hs := ho.sl.top
    obtain ⟨a, c, rfl, _⟩ := id hs
    exact ⟨a, c, rfl, hs, hb⟩
  obtain ⟨E, hE⟩ : ∃ E, putE 4294967295 n = E := ⟨_, rfl⟩
  rw [hE] at HP
  clear hE
  go_enter Tryz.func135, Tryz.ntmps135
  go_wp2_with fail
  refine HP.out.mono ?_; rintro e w1 ⟨a, c, rfl, hs, hb⟩
  have HQ := Lib.hid (And.intro hs hb)
  clear hs hb
  go_wp2_with fail
  go_ret
  exact ⟨a, c, rfl, HQ.out⟩

theorem made_any {w : World} {p bm e : Nat} {K : KK} (h : Pk w p bm K e) (hG : GoodK K) (hK : K.length ≤ 900000) (he : e ≤ 1000000) : Calls Tryz.prog 101 #[.pointer (some ⟨p, 0, none⟩)] w fun x w' => x = .returned (.bool true) ∧ Pk w' p bm K e ∧ Aside (fun b => b = p ∨ b = bm) w w' := by
  have hE : pkE e 0 [] = 4 := by unfold pkE; rw [if_pos (by rw [chk_nil]; decide), chk_nil]
  have HN : Hid (Calls Tryz.prog 103 #[.pointer (some ⟨p, 0, none⟩), .int .i64 0, .string ⟨#[]⟩] w fun x w' => ∃ v, x = .returned (.tuple #[v, .int .i64 4]) ∧ Pk w' p bm K e ∧ Aside (fun b => b = p ∨ b = bm) w w') := by
    refine (show Calls Tryz.prog _ #[.pointer (some ⟨p, 0, none⟩), .int .i64 0, .string ⟨#[]⟩] w _ from name_any h hG hK he 0 [] (by simp)).mono ?_
    rintro x w' ⟨v, rfl, _, hp, ha⟩
    unfold nameK nameE at hp
    rw [hE, if_neg (by decide), if_neg (by decide)] at hp
    exact ⟨v, by rw [hE], hp, ha⟩
  clear h hE
  go_enter Tryz.func101, Tryz.ntmps101
  go_wp2_with fail
  refine HN.out.mono ?_; rintro e w1 ⟨v, rfl, hp, ha⟩
  have HP := Lib.hid (And.intro hp ha)
  clear hp ha
  go_wp2_with fail
  go_ret
  exact ⟨rfl, HP.out⟩

/-- A question's bytes, or the error. -/
def askW (a : Int) (n : List UInt8) (t c : Int) (K : KK) (e : Nat) : WR :=
  if askE n t c ≠ 0 then ⟨[], askE n t c, K, e⟩ else if pkE e a n ≠ 0 then ⟨[], pkE e a n, K, e⟩ else ⟨nameB K e a n ++ (two t ++ two c), 0, nameK K e a n, nameE K e a n⟩

theorem askE_ok {n : List UInt8} {t c : Int} (h : askE n t c = 0) : chk n = 0 ∧ 0 ≤ t ∧ t ≤ 65535 ∧ 0 ≤ c ∧ c ≤ 65535 := by
  unfold askE at h
  split at h
  · rename_i h1; exact absurd h h1
  · rename_i h1
    split at h
    · exact absurd h (by decide)
    · exact ⟨by simpa using h1, by omega, by omega, by omega, by omega⟩

theorem cel_new3 (w : World) (a b c : Value) (T : TypeId) : Cel (w.alloc (.cells #[a, b, c] T)) w.heap.size [a, b, c] := ⟨fun j hj => by
    match j, hj with
    | 0, _ => simp [go_sem]
    | 1, _ => simp [go_sem]
    | 2, _ => simp [go_sem], fun j => by simp [go_sem]⟩

set_option maxHeartbeats 8000000 in
theorem askC_any {w : World} {p bm e : Nat} {K : KK} (h : Pk w p bm K e) (hG : GoodK K) (hK : K.length ≤ 800000) (he : e ≤ 900000) (a : Int) (n : List UInt8) (hn : n.length ≤ 1000000) (t c : Int) :
    Calls Tryz.prog 97 #[.pointer (some ⟨p, 0, none⟩), .int .i64 a, .agg #[.string (bs n), .int .i64 t, .int .i64 c]] w (WrPost w p bm (askW a n t c K e)) := by
  obtain ⟨W0, hW0⟩ : ∃ W0, w.alloc (.cells #[.string (bs n), .int .i64 t, .int .i64 c] 56) = W0 := ⟨_, rfl⟩
  have hb0 : Below w.heap.size w W0 := by rw [← hW0]; exact (Below.refl _ _).alloc (Nat.le_refl _) _
  have hx : Cel W0 w.heap.size [.string (bs n), .int .i64 t, .int .i64 c] := by rw [← hW0]; exact cel_new3 w _ _ _ _
  have HM := Lib.hid (made_any (h.later hb0) hG (by omega) (by omega))
  have hpl := h.lt
  have hml := h.map.lt
  have HA0 := Lib.hid (Aside.of_all hb0 : Aside (fun b => b = p ∨ b = bm) w W0)
  have HAk := Lib.hid (fun wx => ask_any n hn t c wx)
  obtain ⟨g, hg⟩ : ∃ g, w.heap.size = g := ⟨_, rfl⟩
  have HX := Lib.hid hx
  rw [hg] at HX
  have hgp : ¬ (g = p ∨ g = bm) := by omega
  clear h hx hb0
  obtain ⟨X, hX⟩ : ∃ X, askW a n t c K e = X := ⟨_, rfl⟩
  rw [hX]
  have HXv := Lib.hid hX
  clear hX
  by_cases hA : askE n t c = 0
  · obtain ⟨hch, ht0, ht1, hc0, hc1⟩ := askE_ok hA
    have hn255 := (chk_pos hch).2
    have HNm := Lib.hid (fun (wx : World) (hp : Pk wx p bm K e) => name_any hp hG (by omega) (by omega) a n (by omega))
    unfold NamePost at HNm
    rw [hA] at HAk
    unfold askW at HXv
    rw [if_neg (by simpa using hA)] at HXv
    have hnb := (nameB_len (e := e) (a := a) (n := n) hG).1
    obtain ⟨E, hE⟩ : ∃ E, pkE e a n = E := ⟨_, rfl⟩
    obtain ⟨T, hT⟩ : ∃ T, nameB K e a n = T := ⟨_, rfl⟩
    obtain ⟨K2, hK2⟩ : ∃ K2, nameK K e a n = K2 := ⟨_, rfl⟩
    obtain ⟨e2, he2⟩ : ∃ e2, nameE K e a n = e2 := ⟨_, rfl⟩
    rw [hE, hT, hK2, he2] at HNm HXv
    rw [hT] at hnb
    have HT2 := Lib.hid (fun wx => two_any t ht0 ht1 wx)
    have HC2 := Lib.hid (fun wx => two_any c hc0 hc1 wx)
    have hKE : E ≠ 0 → K2 = K ∧ e2 = e := fun hne => by rw [← hK2, ← he2]; unfold nameK nameE; rw [hE, if_neg hne, if_neg hne]; exact ⟨rfl, rfl⟩
    clear hE hT hK2 he2 hA hch ht0 ht1 hc0 hc1 hG hn255
    go_enter Tryz.func97, Tryz.ntmps97
    go_wp2_with fail
    refine HM.out.mono ?_; rintro e0 w1 ⟨rfl, hp1, ha1⟩
    replace HX := Lib.hid (HX.out.aside (by simp) ha1 hgp)
    have HPk := Lib.hid hp1
    have HAs := Lib.hid (HA0.out.trans ha1)
    have c0 : w1.cell? ⟨g, 0, none⟩ = some (.string (bs n)) := HX.out.c 0 (by simp)
    have c1 : w1.cell? ⟨g, 1, none⟩ = some (.int .i64 t) := HX.out.c 1 (by simp)
    have c2 : w1.cell? ⟨g, 2, none⟩ = some (.int .i64 c) := HX.out.c 2 (by simp)
    clear hp1 ha1 HM HA0
    go_wp2_with fail
    refine (HAk.out _).mono ?_; rintro e0 w2 ⟨rfl, hb⟩
    replace HX := Lib.hid (HX.out.below (by simp) hb)
    replace HPk := Lib.hid (HPk.out.later hb)
    replace HAs := Lib.hid (HAs.out.trans (Aside.of_all hb))
    clear hb c0 c1 c2
    have c0 : w2.cell? ⟨g, 0, none⟩ = some (.string (bs n)) := HX.out.c 0 (by simp)
    go_wp2_with fail
    refine (HNm.out _ HPk.out).mono ?_; rintro e0 w3 ⟨v3, rfl, ho, hp3, ha3⟩
    replace HX := Lib.hid (HX.out.aside (by simp) ha3 hgp)
    replace HPk := Lib.hid hp3
    replace HAs := Lib.hid (HAs.out.trans ha3)
    have HS0 := Lib.hid ho.sl.top
    obtain ⟨a0, k0, rfl⟩ := ho.shape
    clear hp3 ha3 ho c0
    by_cases hE0 : E = 0
    · subst hE0
      rw [if_neg (by simp)] at HXv
      have HXD := Lib.hid (Below.refl w3.heap.size w3).drew
      replace HX := Lib.hid (HX.out.below (by simp) HXD.out)
      replace HPk := Lib.hid (HPk.out.later HXD.out)
      replace HAs := Lib.hid (HAs.out.trans (Aside.of_all HXD.out))
      replace HS0 := Lib.hid (sl_keep HS0.out HXD.out)
      clear HXD hKE
      go_wp2_with fail
      refine wp_region_held_drew (S := (fun wx => wx.cell? ⟨g, 1, none⟩ = some (.int .i64 t) ∧ wx.cell? ⟨g, 2, none⟩ = some (.int .i64 c))) (by kernel_rfl) ⟨HX.out.c 1 (by simp), HX.out.c 2 (by simp)⟩ (fun hHeld => ?_)
      refine wpAnyH_take (i := 0) (oi := { dst := some 35, op := Op.move (Operand.tmp 9), type := 28, pos := "rec.go:100", after := #[], guard := none }) (v := ?_) rfl (by kernel_rfl) (by kernel_rfl) (by kernel_rfl) (fun _ _ _ h => h) (Or.inl ⟨by rfl, ?_⟩) (by assumption) ?_
      rotate_left 1
      · intro w hSw; (try dsimp only at hSw); go_simp; try (with_reducible rfl)
      try simp only [Act.put, List.setIfInBounds_toArray, List.set_cons_zero, List.set_cons_succ]
      refine wpAnyH_take (i := 1) (oi := { dst := some 36, op := Op.fieldAddr 56 (Operand.tmp 5) 1, type := 0, pos := "rec.go:100", after := #[], guard := none }) (v := ?_) rfl (by kernel_rfl) (by kernel_rfl) (by kernel_rfl) (fun _ _ _ h => h) (Or.inl ⟨by rfl, ?_⟩) (by assumption) ?_
      rotate_left 1
      · intro w hSw; (try dsimp only at hSw); go_simp; try (with_reducible rfl)
      try simp only [Act.put, List.setIfInBounds_toArray, List.set_cons_zero, List.set_cons_succ]
      refine wpAnyH_take (i := 2) (oi := { dst := some 37, op := Op.load 3 (Operand.tmp 36), type := 3, pos := "rec.go:100", after := #[{ on := 1, ground := Ground.data }], guard := none }) (v := ?_) rfl (by kernel_rfl) (by kernel_rfl) (by kernel_rfl) (fun _ _ _ h => h) (Or.inl ⟨by rfl, ?_⟩) (by assumption) ?_
      rotate_left 1
      · intro w hSw; (try dsimp only at hSw); go_simp; try (with_reducible rfl)
      try simp only [Act.put, List.setIfInBounds_toArray, List.set_cons_zero, List.set_cons_succ]
      refine wpAnyH_take (i := 4) (oi := { dst := some 39, op := Op.fieldAddr 56 (Operand.tmp 5) 2, type := 0, pos := "rec.go:100", after := #[], guard := none }) (v := ?_) rfl (by kernel_rfl) (by kernel_rfl) (by kernel_rfl) (fun _ _ _ h => h) (Or.inl ⟨by rfl, ?_⟩) (by assumption) ?_
      rotate_left 1
      · intro w hSw; (try dsimp only at hSw); go_simp; try (with_reducible rfl)
      try simp only [Act.put, List.setIfInBounds_toArray, List.set_cons_zero, List.set_cons_succ]
      refine wpAnyH_take (i := 5) (oi := { dst := some 40, op := Op.load 3 (Operand.tmp 39), type := 3, pos := "rec.go:100", after := #[{ on := 4, ground := Ground.data }], guard := none }) (v := ?_) rfl (by kernel_rfl) (by kernel_rfl) (by kernel_rfl) (fun _ _ _ h => h) (Or.inl ⟨by rfl, ?_⟩) (by assumption) ?_
      rotate_left 1
      · intro w hSw; (try dsimp only at hSw); go_simp; try (with_reducible rfl)
      try simp only [Act.put, List.setIfInBounds_toArray, List.set_cons_zero, List.set_cons_succ]
      refine wpAnyH_ready (rs := [3]) (by kernel_rfl) (by simp) ?_
      refine AllReadyH.cons (o := { dst := some 38, op := Op.call { callee := Callee.value (Operand.func 105), args := #[Operand.tmp 37], argTypes := #[3] }, type := 28, pos := "rec.go:100", after := #[{ on := 2, ground := Ground.data }], guard := none }) rfl (fun K hK => ?_) (AllReadyH.nil)
      go_simp
      refine (HT2.out _).mono ?_; rintro e0 w4 ⟨a1, k1, rfl, hs1, hb⟩
      have HS1 := Lib.hid hs1
      clear hs1
      replace HX := Lib.hid (HX.out.below (by simp) hb)
      replace HPk := Lib.hid (HPk.out.later hb)
      replace HAs := Lib.hid (HAs.out.trans (Aside.of_all hb))
      replace HS0 := Lib.hid (sl_keep HS0.out hb)
      clear hb
      try go_wp2_with fail
      refine hK.out _ _ ⟨HX.out.c 1 (by simp), HX.out.c 2 (by simp)⟩ (fun hHeld => ?_)
      clear hK K
      try simp only [Act.put, List.setIfInBounds_toArray, List.set_cons_zero, List.set_cons_succ]
      refine wpAnyH_ready (rs := [6]) (by kernel_rfl) (by simp) ?_
      refine AllReadyH.cons (o := { dst := some 41, op := Op.call { callee := Callee.value (Operand.func 105), args := #[Operand.tmp 40], argTypes := #[3] }, type := 28, pos := "rec.go:100", after := #[{ on := 5, ground := Ground.data }, { on := 3, ground := Ground.chain }], guard := none }) rfl (fun K hK => ?_) (AllReadyH.nil)
      go_simp
      refine (HC2.out _).mono ?_; rintro e0 w5 ⟨a2, k2, rfl, hs2, hb⟩
      have HS2 := Lib.hid hs2
      clear hs2
      replace HX := Lib.hid (HX.out.below (by simp) hb)
      replace HPk := Lib.hid (HPk.out.later hb)
      replace HAs := Lib.hid (HAs.out.trans (Aside.of_all hb))
      replace HS0 := Lib.hid (sl_keep HS0.out hb)
      replace HS1 := Lib.hid (sl_keep HS1.out hb)
      clear hb
      try go_wp2_with fail
      refine hK.out _ _ ⟨HX.out.c 1 (by simp), HX.out.c 2 (by simp)⟩ (fun hHeld => ?_)
      clear hK K
      try simp only [Act.put, List.setIfInBounds_toArray, List.set_cons_zero, List.set_cons_succ]
      refine wpAnyH_ready (rs := [7]) (by kernel_rfl) (by simp) ?_
      refine AllReadyH.cons (o := { dst := some 42, op := Op.buildSlice 161 3 #[(0, Operand.tmp 35), (1, Operand.tmp 38), (2, Operand.tmp 41)], type := 161, pos := "rec.go:100", after := #[{ on := 0, ground := Ground.data }, { on := 3, ground := Ground.data }, { on := 6, ground := Ground.data }], guard := none }) rfl (fun K hK => ?_) (AllReadyH.nil)
      go_simp
      have hb : Below w5.heap.size w5 (w5.alloc (.cells #[.slice a0 T.length k0, .slice a1 2 k1, .slice a2 2 k2] 28)) := (Below.refl _ _).alloc (Nat.le_refl _) _
      replace HX := Lib.hid (HX.out.below (by simp) hb)
      replace HPk := Lib.hid (HPk.out.later hb)
      replace HAs := Lib.hid (HAs.out.trans (Aside.of_all hb))
      replace HS0 := Lib.hid (sl_keep HS0.out hb)
      replace HS1 := Lib.hid (sl_keep HS1.out hb)
      replace HS2 := Lib.hid (sl_keep HS2.out hb)
      clear hb
      have HCc := Lib.hid (concat_any (w := (w5.alloc (.cells #[.slice a0 T.length k0, .slice a1 2 k1, .slice a2 2 k2] 28))) (g := w5.heap.size) (lo := 0) (hi := (w5.alloc (.cells #[.slice a0 T.length k0, .slice a1 2 k1, .slice a2 2 k2] 28)).heap.size) (n := 3) (c0 := 3) (ls := [T, two t, two c]) rfl (by decide) (by simp) (Nat.le_refl _) (by simp [two]; omega) (fun j hj => by
        match j, hj with
        | 0, _ => exact ⟨a0, k0, by simp [go_sem], HS0.out⟩
        | 1, _ => exact ⟨a1, k1, by simp [go_sem, two], HS1.out⟩
        | 2, _ => exact ⟨a2, k2, by simp [go_sem, two], HS2.out⟩))
      refine hK.out _ _ ⟨HX.out.c 1 (by simp), HX.out.c 2 (by simp)⟩ (fun hHeld => ?_)
      clear hK K
      try simp only [Act.put, List.setIfInBounds_toArray, List.set_cons_zero, List.set_cons_succ]
      refine wpAnyH_ready (rs := [8]) (by kernel_rfl) (by simp) ?_
      refine AllReadyH.cons (o := { dst := some 43, op := Op.call { callee := Callee.value (Operand.func 104), args := #[Operand.tmp 42], argTypes := #[161] }, type := 28, pos := "rec.go:100", after := #[{ on := 7, ground := Ground.data }, { on := 6, ground := Ground.chain }], guard := none }) rfl (fun K hK => ?_) (AllReadyH.nil)
      go_simp
      refine HCc.out.mono ?_; rintro e0 w6 ⟨v6, rfl, ho, hb⟩
      have HO := Lib.hid ho
      have HAs0 := Lib.hid HAs.out
      clear ho HCc HS0 HS1 HS2
      replace HX := Lib.hid (HX.out.below (by simp) hb)
      replace HPk := Lib.hid (HPk.out.later hb)
      replace HAs := Lib.hid (HAs.out.trans (Aside.of_all hb))
      clear hb
      try go_wp2_with fail
      refine hK.out _ _ ⟨HX.out.c 1 (by simp), HX.out.c 2 (by simp)⟩ (fun hHeld => ?_)
      clear hK K
      try simp only [Act.put, List.setIfInBounds_toArray, List.set_cons_zero, List.set_cons_succ]
      refine wpAnyH_take (i := 9) (oi := { dst := some 6, op := Op.assign (Operand.tmp 43), type := 28, pos := "rec.go:100", after := #[{ on := 8, ground := Ground.data }, { on := 8, ground := Ground.chain }, { on := 0, ground := Ground.phase }, { on := 1, ground := Ground.phase }, { on := 2, ground := Ground.phase }, { on := 3, ground := Ground.phase }, { on := 4, ground := Ground.phase }, { on := 5, ground := Ground.phase }, { on := 6, ground := Ground.phase }, { on := 7, ground := Ground.phase }, { on := 8, ground := Ground.phase }], guard := none }) (v := ?_) rfl (by kernel_rfl) (by kernel_rfl) (by kernel_rfl) (fun _ _ _ h => h) (Or.inl ⟨by rfl, ?_⟩) (by assumption) ?_
      rotate_left 1
      · intro w hSw; (try dsimp only at hSw); go_simp; try (with_reducible rfl)
      try simp only [Act.put, List.setIfInBounds_toArray, List.set_cons_zero, List.set_cons_succ]
      refine wpAnyH_take (i := 10) (oi := { dst := some 7, op := Op.assign (Operand.const (Value.int IntKind.i64 0)), type := 29, pos := "rec.go:100", after := #[{ on := 9, ground := Ground.chain }, { on := 0, ground := Ground.phase }, { on := 1, ground := Ground.phase }, { on := 2, ground := Ground.phase }, { on := 3, ground := Ground.phase }, { on := 4, ground := Ground.phase }, { on := 5, ground := Ground.phase }, { on := 6, ground := Ground.phase }, { on := 7, ground := Ground.phase }, { on := 8, ground := Ground.phase }, { on := 9, ground := Ground.phase }], guard := none }) (v := ?_) rfl (by kernel_rfl) (by kernel_rfl) (by kernel_rfl) (fun _ _ _ h => h) (Or.inl ⟨by rfl, ?_⟩) (by assumption) ?_
      rotate_left 1
      · intro w hSw; (try dsimp only at hSw); go_simp; try (with_reducible rfl)
      try simp only [Act.put, List.setIfInBounds_toArray, List.set_cons_zero, List.set_cons_succ]
      refine wpAnyH_done (by kernel_rfl) ?_ _
      clear hHeld
      go_wp2_with fail
      go_ret2
      rw [← HXv.out]
      exact ⟨_, rfl, HO.out.mono HAs0.out.size, HPk.out, HAs.out⟩
    · have tE : (E != 0) = true := by simpa using hE0
      rw [if_pos hE0] at HXv
      obtain ⟨rfl, rfl⟩ := hKE hE0
      go_wp2_with fail
      go_ret2
      rw [← HXv.out]
      exact ⟨_, rfl, OwnB.nil _ _, HPk.out, HAs.out⟩
  · obtain ⟨E, hE⟩ : ∃ E, askE n t c = E := ⟨_, rfl⟩
    unfold askW at HXv
    rw [hE] at HAk HXv hA
    rw [if_pos hA] at HXv
    have tE : (E != 0) = true := by simpa using hA
    clear hE hA
    go_enter Tryz.func97, Tryz.ntmps97
    go_wp2_with fail
    refine HM.out.mono ?_; rintro e0 w1 ⟨rfl, hp1, ha1⟩
    replace HX := Lib.hid (HX.out.aside (by simp) ha1 hgp)
    have HPk := Lib.hid hp1
    have HAs := Lib.hid (HA0.out.trans ha1)
    have c0 : w1.cell? ⟨g, 0, none⟩ = some (.string (bs n)) := HX.out.c 0 (by simp)
    have c1 : w1.cell? ⟨g, 1, none⟩ = some (.int .i64 t) := HX.out.c 1 (by simp)
    have c2 : w1.cell? ⟨g, 2, none⟩ = some (.int .i64 c) := HX.out.c 2 (by simp)
    clear hp1 ha1 HM HA0
    go_wp2_with fail
    refine (HAk.out _).mono ?_; rintro e0 w2 ⟨rfl, hb⟩
    replace HPk := Lib.hid (HPk.out.later hb)
    replace HAs := Lib.hid (HAs.out.trans (Aside.of_all hb))
    clear hb c0 c1 c2
    go_wp2_with fail
    go_ret2
    rw [← HXv.out]
    exact ⟨_, rfl, OwnB.nil _ _, HPk.out, HAs.out⟩
end Go.Proofs.YtdikgjbpjdnodaaGreat

/-
  Acts that came in: types, places, whether these are places as they are, data.
-/
namespace Go.Proofs.YtdikgjbpjdnodaaGreat
open Go.RowKit Go.Shelf
set_option linter.unusedVariables false
set_option maxRecDepth 100000

/-- A type, a number, whether it is a place as it is, data. -/
structure AQ where
  t : Int
  a : Int
  r : Bool
  d : List UInt8

/-- The cells of an act. -/
def AtQ (w : World) (b o : Nat) (x : AQ) : Prop :=
  w.cell? ⟨b, o, none⟩ = some (.int .i64 x.t) ∧ w.cell? ⟨b, o + 1, none⟩ = some (.int .i64 x.a) ∧ w.cell? ⟨b, o + 2, none⟩ = some (.bool x.r) ∧ w.cell? ⟨b, o + 3, none⟩ = some (.string (bs x.d))

/-- The slice v reads as these acts; what it leads to lies in blocks below hi. -/
def Aq (w : World) (hi : Nat) (v : Value) (l : List AQ) : Prop :=
  ∃ a c, v = .slice a l.length c ∧ (0 < l.length → ∃ b off, a = some ⟨b, off, none⟩ ∧ b < hi ∧ ∀ j (h : j < l.length), AtQ w b (off + j * 4) l[j] ∧ (Lit.int .i64 l[j].t).wf = true ∧ (Lit.int .i64 l[j].a).wf = true)

theorem AtQ.keep {w w' : World} {b o : Nat} {x : AQ} (h : AtQ w b o x) (hk : ∀ o, w'.cell? ⟨b, o, none⟩ = w.cell? ⟨b, o, none⟩) : AtQ w' b o x :=
  ⟨(hk _).trans h.1, (hk _).trans h.2.1, (hk _).trans h.2.2.1, (hk _).trans h.2.2.2⟩

theorem Aq.below {w w' : World} {hi B : Nat} {v : Value} {l : List AQ} (h : Aq w hi v l) (hb : Below B w w') (hB : hi ≤ B) : Aq w' hi v l := by
  obtain ⟨a, c, rfl, hx⟩ := h
  refine ⟨a, c, rfl, fun h0 => ?_⟩
  obtain ⟨b, off, rfl, h1, h2⟩ := hx h0
  refine ⟨b, off, rfl, h1, fun j hj => ?_⟩
  obtain ⟨c0, c1⟩ := h2 j hj
  exact ⟨c0.keep fun o => hb.cell (p := ⟨b, o, none⟩) (Nat.lt_of_lt_of_le h1 hB), c1⟩

/-- What is known of a slice of acts that came in. -/
def IsActs (w : World) (a : Option Addr) (len cap : Nat) : Prop :=
  (a = none ∧ len = 0 ∧ cap = 0) ∨ ∃ x, a = some x ∧ ∀ i, i < len → ∃ (t n : Int) (r : Bool) (s : ByteArray), w.cell? (x.add (i * 4)) = some (.int .i64 t) ∧ w.cell? (x.add (i * 4 + 1)) = some (.int .i64 n) ∧ w.cell? (x.add (i * 4 + 2)) = some (.bool r) ∧ w.cell? (x.add (i * 4 + 3)) = some (.string s) ∧ (Lit.int .i64 t).wf = true ∧ (Lit.int .i64 n).wf = true

theorem cells_str : Tryz.prog.cellsOf 9 = 1 := by kernel_rfl
theorem cells_int : Tryz.prog.cellsOf 3 = 1 := by kernel_rfl
theorem cells_bool : Tryz.prog.cellsOf 4 = 1 := by kernel_rfl

/-- Such a slice as acts. -/
theorem acts_of {w : World} {a : Option Addr} {len cap : Nat} (h : IsActs w a len cap) : ∃ l : List AQ, len = l.length ∧ Aq w w.heap.size (.slice a len cap) l := by
  rcases h with ⟨rfl, rfl, rfl⟩ | ⟨x, rfl, hx⟩
  · exact ⟨[], rfl, none, 0, rfl, fun h => by simp at h⟩
  · have hch : ∀ n, n ≤ len → ∃ l : List AQ, l.length = n ∧ ∀ i (h : i < l.length), w.cell? (x.add (i * 4)) = some (.int .i64 l[i].t) ∧ w.cell? (x.add (i * 4 + 1)) = some (.int .i64 l[i].a) ∧ w.cell? (x.add (i * 4 + 2)) = some (.bool l[i].r) ∧ w.cell? (x.add (i * 4 + 3)) = some (.string (bs l[i].d)) ∧ (Lit.int .i64 l[i].t).wf = true ∧ (Lit.int .i64 l[i].a).wf = true := by
      intro n
      induction n with
      | zero => intro _; exact ⟨[], rfl, fun i h => by simp at h⟩
      | succ n ih =>
        intro hn
        obtain ⟨l, h1, h2⟩ := ih (by omega)
        obtain ⟨t, q, r, s, c0, c1, c2, c3, w0, w1⟩ := hx n (by omega)
        refine ⟨l ++ [⟨t, q, r, s.data.toList⟩], by simp [h1], fun i hi => ?_⟩
        rw [List.length_append, List.length_singleton] at hi
        by_cases e : i < l.length
        · rw [List.getElem_append_left e]; exact h2 i e
        · have : i = l.length := by omega
          subst this
          rw [List.getElem_append_right (Nat.le_refl _)]
          simp only [Nat.sub_self, List.getElem_cons_zero]
          rw [h1, ← bs_eta]
          exact ⟨c0, c1, c2, c3, w0, w1⟩
    obtain ⟨l, h1, h2⟩ := hch len (Nat.le_refl _)
    refine ⟨l, h1.symm, some x, cap, by rw [h1], fun h0 => ?_⟩
    obtain ⟨b, off, spot⟩ := x
    have c0 := (h2 0 h0).1
    have hspot : spot = none := by simpa [Addr.add] using World.cell?_spot c0
    subst hspot
    have hlt : b < w.heap.size := by
      rw [WideShapes.add_plain] at c0
      exact World.block_lt_of_cell? w _ c0
    refine ⟨b, off, rfl, hlt, fun j hj => ?_⟩
    obtain ⟨c0, c1, c2, c3, w0, w1⟩ := h2 j hj
    rw [WideShapes.add_plain] at c0 c1 c2 c3
    exact ⟨⟨c0, by rw [Nat.add_assoc]; exact c1, by rw [Nat.add_assoc]; exact c2, by rw [Nat.add_assoc]; exact c3⟩, w0, w1⟩
end Go.Proofs.YtdikgjbpjdnodaaGreat

/-
  What is written is read as it was; plainly.
-/
namespace Go.Proofs.YtdikgjbpjdnodaaGreat
open Go.RowKit Go.Shelf
set_option linter.unusedVariables false
set_option maxRecDepth 100000

theorem toldE_rd {b : List UInt8} {K : KK} {e : Nat} {P : KK} (h : Inv b K e P) {ls : List (List UInt8)} (hs : Shorts ls) :
    ∀ d k, k + d = hdn K ls → ∀ part, b.length ≤ part → StandE (b ++ told K ls) part (b.length + pos ls k) (ls.drop k) (b.length + (told K ls).length) := by
  have hll := hdn_le K ls
  intro d
  induction d with
  | zero =>
    intro k hk part hp
    have hkh : k = hdn K ls := by omega
    subst hkh
    rcases Nat.lt_or_ge (hdn K ls) ls.length with hlt | hge
    · obtain ⟨x, hx⟩ := hdn_stop hlt
      have hx2 := good_lt h.good hx
      have hxe := h.ahead _ (plc_mem hx)
      obtain ⟨p1, p2⟩ := ptr_pb hx2
      have htd : told K ls = wire (ls.take (hdn K ls)) ++ [UInt8.ofNat (192 + x / 256), UInt8.ofNat (x % 256)] := by unfold told restb; rw [hx]; rfl
      have hpl : pos ls (hdn K ls) = (wire (ls.take (hdn K ls))).length := rfl
      have g0 : (b ++ told K ls)[b.length + pos ls (hdn K ls)]? = some (UInt8.ofNat (192 + x / 256)) := by
        rw [htd, List.getElem?_append_right (by omega), Nat.add_sub_cancel_left, hpl, List.getElem?_append_right (Nat.le_refl _), Nat.sub_self]; rfl
      have g1 : (b ++ told K ls)[b.length + pos ls (hdn K ls) + 1]? = some (UInt8.ofNat (x % 256)) := by
        rw [htd, List.getElem?_append_right (by omega), show b.length + pos ls (hdn K ls) + 1 - b.length = pos ls (hdn K ls) + 1 by omega, hpl, List.getElem?_append_right (by omega), show (wire (ls.take (hdn K ls))).length + 1 - (wire (ls.take (hdn K ls))).length = 1 by omega]; rfl
      obtain ⟨i0, g0⟩ := List.getElem?_eq_some_iff.mp g0
      obtain ⟨i1, g1⟩ := List.getElem?_eq_some_iff.mp g1
      have hen : b.length + (told K ls).length = b.length + pos ls (hdn K ls) + 2 := by rw [htd, List.length_append, hpl]; simp; omega
      rw [hen]
      exact .lead (to := x) i1 (by rw [g0]; exact p2) (by rw [g0, g1]; exact p1) (by have := h.last; have : x < e := hxe; omega) ((h.tails _ x (shorts_drop hs _) (plc_mem hx)).more _)
    · have hke : hdn K ls = ls.length := by omega
      have htd : told K ls = wire ls ++ [0] := by
        unfold told restb
        rw [hke, List.take_length, List.drop_length]
        show wire ls ++ (match plc K [0] with | some x => pb x | none => [0]) = _
        rw [good_root h.good]
      rw [hke, List.drop_length]
      have hpl : pos ls ls.length = (wire ls).length := by unfold pos; rw [List.take_length]
      have g0 : (b ++ told K ls)[b.length + pos ls ls.length]? = some 0 := by
        rw [htd, List.getElem?_append_right (by omega), Nat.add_sub_cancel_left, hpl, List.getElem?_append_right (Nat.le_refl _), Nat.sub_self]; rfl
      obtain ⟨i0, g0⟩ := List.getElem?_eq_some_iff.mp g0
      have hen : b.length + (told K ls).length = b.length + pos ls ls.length + 1 := by rw [htd, List.length_append, hpl]; simp; omega
      rw [hen]
      exact .zero i0 (by rw [g0]; rfl)
  | succ d ih =>
    intro k hk part hp
    have hkl : k < ls.length := by omega
    have e : ls.drop k = ls[k] :: ls.drop (k + 1) := List.drop_eq_getElem_cons hkl
    have h63 := hs.1 ls[k] (List.getElem_mem hkl)
    rw [e]
    have hcut : ((b ++ told K ls).drop (b.length + pos ls k)).take (1 + ls[k].length) = wire [ls[k]] := by
      have h1 : ls.take (hdn K ls) = ls.take k ++ (ls[k] :: (ls.drop (k + 1)).take d) := by
        rw [← hk, List.take_add, e, List.take_succ_cons]
      unfold told
      rw [h1, wire_app, List.append_assoc]
      rw [show b.length + pos ls k = b.length + (wire (ls.take k)).length from rfl, List.drop_append, List.drop_eq_nil_of_le (by omega), List.nil_append, Nat.add_sub_cancel_left, List.drop_left]
      rw [show ls[k] :: (ls.drop (k + 1)).take d = [ls[k]] ++ (ls.drop (k + 1)).take d from rfl, wire_app, List.append_assoc]
      rw [List.take_left' (by simp [wire]; omega)]
    have hpe : b.length + pos ls k + (1 + ls[k].length) = b.length + pos ls (k + 1) := by rw [pos_succ hkl]; omega
    refine .label h63.1 h63.2 ?_ hcut (by rw [hpe]; exact ih (k + 1) (by omega) part hp)
    have := congrArg List.length hcut
    rw [List.length_take, List.length_drop, List.length_append] at this
    rw [List.length_append]
    simp only [wire, List.length_append, List.length_cons, List.length_nil] at this
    omega

/-- From p up to q these pieces stand. -/
inductive Lies (b : List UInt8) : Nat → List Pc → Nat → Prop
  | nil {p : Nat} (h : p ≤ b.length) : Lies b p [] p
  | byt {p q : Nat} {x : List UInt8} {L : List Pc} (h : (b.drop p).take x.length = x) (h2 : p + x.length ≤ b.length) (r : Lies b (p + x.length) L q) : Lies b p ((x, false) :: L) q
  | nam {p q en : Nat} {ls : List (List UInt8)} {L : List Pc} (hs : Shorts ls) (h : StandE b p p ls en) (r : Lies b en L q) : Lies b p ((nm ls, true) :: L) q

theorem Lies.more {b : List UInt8} {p q : Nat} {L : List Pc} (h : Lies b p L q) (c : List UInt8) : Lies (b ++ c) p L q := by
  induction h with
  | nil h => exact .nil (by rw [List.length_append]; omega)
  | byt h h2 _ ih =>
    refine .byt ?_ (by rw [List.length_append]; omega) ih
    rw [List.drop_append_of_le_length (by omega), List.take_append_of_le_length (by rw [List.length_drop]; omega)]
    exact h
  | nam hs h _ ih => exact .nam hs (h.more c) ih

theorem Lies.le {b : List UInt8} {p q : Nat} {L : List Pc} (h : Lies b p L q) : p ≤ q ∧ q ≤ b.length := by
  induction h with
  | nil h => exact ⟨Nat.le_refl _, h⟩
  | byt h h2 _ ih => omega
  | nam hs h _ ih => have := h.lt; omega

/-- What stands is read. -/
theorem lies_go {b : List UInt8} {s : Nat} : ∀ (L : List Pc) (ks : List PK) (p q : Nat) (acc : List Pc), Lies b p L q → Fits ks L → goP (fun p => rda b p) b s q ks p acc = .ok (acc ++ L)
  | [], ks, p, q, acc, h, hf => by
    cases hf
    cases h
    rw [goP, if_neg (by omega), List.append_nil]
  | x :: L, ks, p, q, acc, h, hf => by
    have hle := h.le
    cases hf with
    | @fix n y ks' L' hn h2 =>
      cases h with
      | byt h3 h4 r =>
        have hr := r.le
        have e : stepP (fun p => rda b p) b s q p (.fix n) = .ok (y, false) (p + y.length) := by
          simp only [stepP, cutP]
          rw [← hn, if_neg (by omega), Nat.add_sub_cancel_left, h3]
        rw [goP, e]
        simp only
        rw [lies_go L ks' _ q _ r h2, List.append_assoc]
        rfl
    | @nam y ks' L' hn h2 =>
      cases h with
      | @nam _ _ en ls _ hs h3 r =>
        have hr := r.le
        have hl := h3.lt
        have e : stepP (fun p => rda b p) b s q p .nam = .ok (nm ls, true) en := by
          simp only [stepP]
          rw [rdaE h3 hs, if_neg (by omega), if_neg (by simp), if_neg (show ¬ q < en by omega)]
        rw [goP, e]
        simp only
        rw [lies_go L ks' _ q _ r h2, List.append_assoc]
        rfl
    | @txt y hn =>
      cases h with
      | byt h3 h4 r =>
        cases r with
        | nil h5 =>
          have e := tx_step (fun p => rda b p) b s p (p + y.length) (by omega) (by omega)
          rw [Nat.add_sub_cancel_left, h3, if_pos hn] at e
          rw [goP, e]
          simp only
          rw [goP, if_neg (by omega)]
    | @rst y =>
      cases h with
      | byt h3 h4 r =>
        cases r with
        | nil h5 =>
          have e : stepP (fun p => rda b p) b s (p + y.length) p .rst = .ok (y, false) (p + y.length) := by
            simp only [stepP, cutP]
            rw [if_neg (by omega), Nat.add_sub_cancel_left, h3]
          rw [goP, e]
          simp only
          rw [goP, if_neg (by omega)]

/-- Data that stand are read as they were. -/
theorem lies_rdR {b : List UInt8} {t : Int} {d : List UInt8} {L : List Pc} {a m : Nat} (hs : spl t d = .ok L) (h : Lies b a L (a + m)) (hm : m ≤ 65535) : rdR b a m t = .ok L ∧ joined L = d := by
  obtain ⟨h0, h1, _, hf, hj⟩ := spl_ok hs
  have hle := h.le
  refine ⟨?_, hj⟩
  unfold rdR
  rw [if_neg (by omega), if_neg (by omega), if_neg (by omega), Int.toNat_natCast, Int.toNat_natCast, lies_go L (kinds t) a (a + m) [] h hf, List.nil_append]

/-- What is written stands. -/
theorem wr_back (a : Nat) : ∀ (L : List Pc) (b : List UInt8) (K : KK) (e : Nat) (P : KK) (acc : List UInt8), Inv b K e P → (∀ x ∈ L, x.2 = true → chk x.1 = 0) → b.length = a + acc.length → b.length + (joined L).length ≤ 65535 →
    ∃ out K' e' P', wrL a L K e acc = ⟨acc ++ out, 0, K', e'⟩ ∧ out.length ≤ (joined L).length ∧ Inv (b ++ out) K' e' P' ∧ Lies (b ++ out) b.length L (b.length + out.length)
  | [], b, K, e, P, acc, hI, _, hb, hl => ⟨[], K, e, P, by rw [wrL, List.append_nil], by simp, by rw [List.append_nil]; exact hI, by rw [List.append_nil]; exact .nil (Nat.le_refl _)⟩
  | (x, false) :: L, b, K, e, P, acc, hI, hc, hb, hl => by
    rw [joined_cons, List.length_append] at hl
    have hl' : b.length + (x.length + (joined L).length) ≤ 65535 := hl
    obtain ⟨out, K', e', P', h1, h2, h3, h4⟩ := wr_back a L (b ++ x) K e P (acc ++ x) (hI.more x) (fun y hy => hc y (by simp [hy])) (by rw [List.length_append, List.length_append]; omega) (by rw [List.length_append]; omega)
    refine ⟨x ++ out, K', e', P', ?_, ?_, ?_, ?_⟩
    · rw [wrL]
      show wrL a L K e (acc ++ x) = _
      rw [h1, List.append_assoc]
    · rw [joined_cons, List.length_append, List.length_append]
      show x.length + out.length ≤ x.length + _
      omega
    · rw [← List.append_assoc]; exact h3
    · rw [← List.append_assoc]
      rw [List.length_append] at h4
      refine .byt ?_ (by simp) (by rw [List.length_append, ← Nat.add_assoc]; exact h4)
      rw [List.append_assoc, List.drop_left, List.take_left]
  | (x, true) :: L, b, K, e, P, acc, hI, hc, hb, hl => by
    rw [joined_cons, List.length_append] at hl
    have hl' : b.length + (x.length + (joined L).length) ≤ 65535 := hl
    obtain ⟨hs, hx⟩ := shorts_of (hc (x, true) (by simp) rfl)
    have hx : x = nm (labs x) := hx
    obtain ⟨ls, hls⟩ : ∃ ls, labs x = ls := ⟨_, rfl⟩
    rw [hls] at hs hx
    subst hx
    have hw : wrap64 ((a : Int) + acc.length) = ((b.length : Nat) : Int) := by rw [IntWalk.wrap64_in _ ⟨by omega, by omega⟩]; omega
    have hla := hI.last
    have hE : pkE e b.length (nm ls) = 0 := by unfold pkE; rw [if_neg (fun h => h (shorts_chk hs)), if_neg (by omega), if_neg (by omega)]
    have e1 : nameB K e b.length (nm ls) = told K ls := by unfold nameB; rw [if_pos hE, show labs (nm ls) = ls from shorts_labs hs]
    have e2 : nameK K e b.length (nm ls) = K ++ fr b.length ls (hdn K ls) := by unfold nameK; rw [if_pos hE, show labs (nm ls) = ls from shorts_labs hs, Int.toNat_natCast]
    have e3 : nameE K e b.length (nm ls) = b.length + (told K ls).length := by unfold nameE; rw [if_pos hE, show labs (nm ls) = ls from shorts_labs hs, Int.toNat_natCast]
    have htl := told_le hI.good hs
    obtain ⟨out, K', e', P', h1, h2, h3, h4⟩ := wr_back a L (b ++ told K ls) (K ++ fr b.length ls (hdn K ls)) (b.length + (told K ls).length) _ (acc ++ told K ls) (hI.tell hs) (fun y hy => hc y (by simp [hy])) (by rw [List.length_append, List.length_append]; omega) (by rw [List.length_append]; omega)
    refine ⟨told K ls ++ out, K', e', P', ?_, ?_, ?_, ?_⟩
    · rw [wrL, if_pos rfl]
      show (if pkE e (wrap64 ((a : Int) + acc.length)) (nm ls) ≠ 0 then _ else _) = _
      rw [hw, if_neg (by simpa using hE)]
      show wrL a L (nameK K e b.length (nm ls)) (nameE K e b.length (nm ls)) (acc ++ nameB K e b.length (nm ls)) = _
      rw [e1, e2, e3, h1, List.append_assoc]
    · rw [joined_cons, List.length_append, List.length_append]
      show (told K ls).length + out.length ≤ (nm ls).length + _
      omega
    · rw [← List.append_assoc]; exact h3
    · rw [← List.append_assoc]
      rw [List.length_append] at h4
      have hst := toldE_rd hI hs (hdn K ls) 0 (by omega) b.length (Nat.le_refl _)
      rw [pos_zero, Nat.add_zero, List.drop_zero] at hst
      exact .nam hs (hst.more out) (by rw [List.length_append, ← Nat.add_assoc]; exact h4)
end Go.Proofs.YtdikgjbpjdnodaaGreat

/-
  What was written and its reading: rows, round for round.
-/
namespace Go.Proofs.YtdikgjbpjdnodaaGreat
open Go.RowKit Go.Shelf
set_option linter.unusedVariables false
set_option linter.unusedSimpArgs false
set_option maxRecDepth 100000

section
variable {w w' : World} {B B' : Nat} {e e' : TypeId} {k k' n n' : Nat} {v v' : Value} {xs ys : List Value} {G : Nat → Prop}
theorem row_aside (h : w.ownsRow B e k v n xs) (ha : Aside G w w') (hG : ∀ b, v.ownBlock = some b → ¬ G b) : w'.ownsRow B e k v n xs := by
  have hlt := World.ownsRow.lt h
  refine ⟨h.1, ?_⟩
  rcases h.2 with h2 | ⟨g, cap, cur, hv, hg, hh, r⟩
  · exact .inl h2
  · exact .inr ⟨g, cap, cur, hv, hg, (ha.block g (by subst hv; exact (hlt g rfl).2) (hG g (by rw [hv]; rfl))).trans hh, r⟩
theorem row_below (h : w.ownsRow B e k v n xs) (hb : Below w.heap.size w w') : w'.ownsRow B e k v n xs := row_aside (G := fun _ => False) h (Aside.of_all hb) fun _ _ h => h
theorem row_shape (h : w.ownsRow B e k v n xs) : ∃ a c, v = .slice a n c := by
  rcases h.2 with ⟨rfl, h0⟩ | ⟨g, cap, cur, rfl, _⟩
  · exact ⟨none, 0, by rw [h0]⟩
  · exact ⟨_, cap, rfl⟩
theorem row_apart (h : w.ownsRow B e k v n xs) (h' : w.ownsRow B' e' k' v' n' ys) (he : e ≠ e') (b : Nat) (h1 : v.ownBlock = some b) (h2 : v'.ownBlock = some b) : False := by
  rcases h.2 with ⟨rfl, _⟩ | ⟨g, cap, cur, rfl, _, hg, _⟩
  · simp [Value.ownBlock] at h1
  · rcases h'.2 with ⟨rfl, _⟩ | ⟨g', cap', cur', rfl, _, hg', _⟩
    · simp [Value.ownBlock] at h2
    · simp [Value.ownBlock] at h1 h2
      subst h1; subst h2
      rw [hg] at hg'
      injection hg' with hg'
      injection hg' with _ h3
      exact he h3
theorem row_apartB {l : List UInt8} (h : OwnB w B v l) (h' : w.ownsRow B' e' k' v' n' ys) (he : e' ≠ 5) (b : Nat) (h1 : v.ownBlock = some b) (h2 : v'.ownBlock = some b) : False := by
  rcases h with ⟨rfl, _⟩ | ⟨g, cap, fz, rfl, _, _, _, _, hg⟩
  · simp [Value.ownBlock] at h1
  · rcases h'.2 with ⟨rfl, _⟩ | ⟨g', cap', cur', rfl, _, hg', _⟩
    · simp [Value.ownBlock] at h2
    · simp [Value.ownBlock] at h1 h2
      subst h1; subst h2
      rw [hg] at hg'
      injection hg' with hg'
      injection hg' with _ h3
      exact he h3.symm
end

/-- Acts as cells. -/
def acc4 : List AQ → List Value
  | [] => []
  | x :: r => .int .i64 x.t :: .int .i64 x.a :: .bool x.r :: .string (bs x.d) :: acc4 r
theorem acc4_len (K : List AQ) : (acc4 K).length = K.length * 4 := by
  induction K with
  | nil => rfl
  | cons p r ih => simp [acc4, ih]; omega
theorem acc4_app (K K' : List AQ) : acc4 (K ++ K') = acc4 K ++ acc4 K' := by
  induction K with
  | nil => rfl
  | cons p r ih => simp [acc4, ih]
theorem acc4_at : ∀ (K : List AQ) (j : Nat) (h : j < K.length), (acc4 K)[j * 4]? = some (.int .i64 K[j].t) ∧ (acc4 K)[j * 4 + 1]? = some (.int .i64 K[j].a) ∧ (acc4 K)[j * 4 + 2]? = some (.bool K[j].r) ∧ (acc4 K)[j * 4 + 3]? = some (.string (bs K[j].d))
  | [], j, h => by simp at h
  | p :: r, 0, h => ⟨rfl, rfl, rfl, rfl⟩
  | p :: r, j + 1, h => by
    obtain ⟨h1, h2, h3, h4⟩ := acc4_at r j (by simpa using h)
    rw [show (j + 1) * 4 = j * 4 + 1 + 1 + 1 + 1 by omega, acc4]
    exact ⟨h1, h2, h3, h4⟩
theorem acc4_one (K : List AQ) : ∀ u ∈ acc4 K, u.oneCell' = true := by
  induction K with
  | nil => intro u hu; simp [acc4] at hu
  | cons p r ih =>
    intro u hu
    simp only [acc4, List.mem_cons] at hu
    rcases hu with rfl | rfl | rfl | rfl | hu
    · rfl
    · rfl
    · rfl
    · rfl
    · exact ih u hu

/-- v is a row of numbers of the call's own. -/
def OwnJ (w : World) (B : Nat) (v : Value) (l : List Nat) : Prop := w.ownsRow B 3 1 v l.length (iv l)
theorem OwnJ.at_ {w : World} {B : Nat} {v : Value} {l : List Nat} (h : OwnJ w B v l) (j : Nat) (hj : j < l.length) : ∃ g c, v = .slice (some ⟨g, 0, none⟩) l.length c ∧ w.cell? ⟨g, j, none⟩ = some (.int .i64 (l[j] : Int)) := by
  have hc := fun g hg => World.ownsRow.cells h (g := g) hg
  rcases h.2 with ⟨rfl, h0⟩ | ⟨g, cap, cur, rfl, _⟩
  · omega
  · have e1 := hc g rfl j (.int .i64 (l[j] : Int)) (by unfold iv; rw [List.getElem?_map, List.getElem?_eq_getElem hj]; rfl)
    rw [WideShapes.add_plain, Nat.zero_add] at e1
    exact ⟨g, cap, rfl, e1⟩
/-- append of one number. -/
theorem run_appJ {w : World} (B : Nat) (v : Value) (l : List Nat) (x : Nat) (g : Nat) (hown : OwnJ w B v l) (hx : w.cell? ⟨g, 0, none⟩ = some (.int .i64 (x : Int))) (hb : l.length + 1 ≤ 1000000) (hB : B ≤ w.heap.size) :
    ∃ a' c' w', (Builtin.append_ #[68, 68] 68 #[v, .slice (some ⟨g, 0, none⟩) 1 1]).run Tryz.prog w = .ok (.slice a' (l.length + 1) c') w' ∧ OwnJ w' B (.slice a' (l.length + 1) c') (l ++ [x]) ∧ Aside (fun b => v.ownBlock = some b) w w' ∧ ((Value.slice a' (l.length + 1) c').ownBlock = v.ownBlock ∨ (Value.slice a' (l.length + 1) c').ownBlock = some w.heap.size) := by
  obtain ⟨i0, hi, hz0, hz1, hz2⟩ := info_parts info_int
  obtain ⟨v', w', r1, r2, r3, _, r5⟩ := run_append_own_at (P := Tryz.prog) (w := w) B 68 68 3 i0 _ 1 8 Tryz.underlying68 hi hz0 hz1 hz2 rfl (by decide) v l.length (iv l) hown ⟨g, 0, none⟩ 1 1 [.int .i64 (x : Int)] rfl
    (fun j u hu => by
      have hj : j = 0 := by have := (List.getElem?_eq_some_iff.mp hu).1; simpa using this
      subst hj
      simp at hu
      subst hu
      rw [WideShapes.add_plain, Nat.zero_add]
      exact hx)
    (by intro u hu; obtain rfl := List.mem_singleton.mp hu; rfl) (by unfold maxLen; omega) (by omega) hB
  have h4 : OwnJ w' B v' (l ++ [x]) := by
    unfold OwnJ
    rw [List.length_append, show iv (l ++ [x]) = iv l ++ [.int .i64 (x : Int)] by unfold iv; rw [List.map_append]; rfl]
    exact r2
  obtain ⟨a', c', hv⟩ := row_shape h4
  rw [List.length_append] at hv
  subst hv
  exact ⟨a', c', w', r1, h4, Aside.grown r3 fun _ h => h, r5⟩

section
variable {w wr w' : World} {p bm B0 e : Nat} {v7 v8 v9 v10 : Value} {b : List UInt8} {q s : List Nat} {n : List AQ} {K : KK}

end

/-- The packer's keys, after what is written. -/
theorem wrL_keys (a : Int) : ∀ (L : List Pc) (K : KK) (e : Nat) (acc : List UInt8), GoodK K → (wrL a L K e acc).K.length ≤ K.length + 127 * L.length
  | [], K, e, acc, _ => by simp [wrL]
  | x :: L, K, e, acc, hG => by
    rw [wrL]
    split
    · split
      · simp
      · have h1 := nameK_good (e := e) (a := wrap64 (a + acc.length)) (n := x.1) hG
        have h2 := wrL_keys a L (nameK K e (wrap64 (a + acc.length)) x.1) (nameE K e (wrap64 (a + acc.length)) x.1) (acc ++ nameB K e (wrap64 (a + acc.length)) x.1) h1.1
        rw [List.length_cons]
        omega
    · have h2 := wrL_keys a L K e (acc ++ x.1) hG
      rw [List.length_cons]
      omega
end Go.Proofs.YtdikgjbpjdnodaaGreat

/-
  A record's bytes.
-/
namespace Go.Proofs.YtdikgjbpjdnodaaGreat
open Go.RowKit Go.Shelf
set_option linter.unusedVariables false
set_option linter.unusedSimpArgs false
set_option maxRecDepth 100000

/-- What stands behind a record's name and ahead of its data. -/
def headB (t c l : Int) (k : Nat) : List UInt8 := two t ++ (two c ++ (four l ++ two k))

/-- A record's bytes, the head known. -/
def wrT (T : List UInt8) (t c l : Int) (R : WR) : WR := if R.code ≠ 0 then ⟨[], R.code, R.K, R.e⟩ else ⟨T ++ (headB t c l R.out.length ++ R.out), 0, R.K, R.e⟩

/-- A record's bytes, or the error. -/
def wrC (a : Int) (x : Rc) (K : KK) (e : Nat) : WR :=
  if chkC x ≠ 0 then ⟨[], chkC x, K, e⟩ else if pkE e a x.n ≠ 0 then ⟨[], pkE e a x.n, K, e⟩
  else wrT (nameB K e a x.n) x.t x.c x.l (wrR (a + (nameB K e a x.n).length + 10) x.t x.d (nameK K e a x.n) (nameE K e a x.n))

theorem wrL_len (a : Int) : ∀ (L : List Pc) (K : KK) (e : Nat) (acc : List UInt8), GoodK K → (wrL a L K e acc).out.length ≤ acc.length + (joined L).length
  | [], K, e, acc, _ => by rw [wrL]; show acc.length ≤ _; omega
  | x :: L, K, e, acc, hG => by
    rw [wrL, joined_cons, List.length_append]
    split
    · split
      · exact Nat.zero_le _
      · rename_i h1
        have h2 := nameK_good (e := e) (a := wrap64 (a + acc.length)) (n := x.1) hG
        have h3 := (nameB_len (e := e) (a := wrap64 (a + acc.length)) (n := x.1) hG).2 (by simpa using h1)
        have h4 := wrL_len a L (nameK K e (wrap64 (a + acc.length)) x.1) (nameE K e (wrap64 (a + acc.length)) x.1) (acc ++ nameB K e (wrap64 (a + acc.length)) x.1) h2.1
        rw [List.length_append] at h4
        omega
    · have h4 := wrL_len a L K e (acc ++ x.1) hG
      rw [List.length_append] at h4
      omega

theorem wrR_len (a t : Int) (d : List UInt8) (K : KK) (e : Nat) (hG : GoodK K) (h : (spl t d).code = 0) : (wrR a t d K e).out.length ≤ d.length ∧ d.length ≤ 65535 := by
  obtain ⟨L, hL⟩ := code_ok h
  obtain ⟨_, _, h6, _, hj⟩ := spl_ok hL
  unfold wrR
  rw [hL]
  have := wrL_len a L K e [] hG
  rw [hj] at this
  exact ⟨by simpa using this, h6⟩

theorem chkC_ok {x : Rc} (h : chkC x = 0) : askE x.n x.t x.c = 0 ∧ 0 ≤ x.l ∧ x.l ≤ 2147483647 ∧ (spl x.t x.d).code = 0 := by
  unfold chkC at h
  split at h
  · rename_i h1; exact absurd h h1
  · rename_i h1
    split at h
    · exact absurd h (by decide)
    · exact ⟨by simpa using h1, by omega, by omega, h⟩

set_option maxHeartbeats 16000000 in
theorem writeC_any {w : World} {p bm e : Nat} {K : KK} (h : Pk w p bm K e) (hG : GoodK K) (hK : K.length ≤ 700000) (he : e ≤ 900000) (a : Int) (n : List UInt8) (t c l : Int) (d : List UInt8) (hn : n.length ≤ 1000000) (hd : d.length ≤ 1000000) :
    Calls Tryz.prog 130 #[.pointer (some ⟨p, 0, none⟩), .int .i64 a, .agg #[.string (bs n), .int .i64 t, .int .i64 c, .int .i64 l, .string (bs d)]] w (WrPost w p bm (wrC a ⟨n, t, c, l, d⟩ K e)) := by
  obtain ⟨W0, hW0⟩ : ∃ W0, w.alloc (.cells #[.string (bs n), .int .i64 t, .int .i64 c, .int .i64 l, .string (bs d)] 78) = W0 := ⟨_, rfl⟩
  have hb0 : Below w.heap.size w W0 := by rw [← hW0]; exact (Below.refl _ _).alloc (Nat.le_refl _) _
  have hx : Cel W0 w.heap.size [.string (bs n), .int .i64 t, .int .i64 c, .int .i64 l, .string (bs d)] := by rw [← hW0]; exact cel_new w _ _ _ _ _ _
  have HM := Lib.hid (made_any (h.later hb0) hG (by omega) (by omega))
  have hpl := h.lt
  have hml := h.map.lt
  have HA0 := Lib.hid (Aside.of_all hb0 : Aside (fun b => b = p ∨ b = bm) w W0)
  have HAk := Lib.hid (fun wx => checkC_any n t c l d hn hd wx)
  obtain ⟨g, hg⟩ : ∃ g, w.heap.size = g := ⟨_, rfl⟩
  have HX := Lib.hid hx
  rw [hg] at HX
  have hgp : ¬ (g = p ∨ g = bm) := by omega
  clear h hx hb0
  obtain ⟨X, hX⟩ : ∃ X, wrC a ⟨n, t, c, l, d⟩ K e = X := ⟨_, rfl⟩
  rw [hX]
  have HXv := Lib.hid hX
  clear hX
  unfold wrC at HXv
  by_cases hA : chkC ⟨n, t, c, l, d⟩ = 0
  · obtain ⟨hak, hl0, hl1, hsp⟩ := chkC_ok hA
    simp only at hak hl0 hl1 hsp
    obtain ⟨hch, ht0, ht1, hc0, hc1⟩ := askE_ok hak
    have hn255 := (chk_pos hch).2
    have HNm := Lib.hid (fun (wx : World) (hp : Pk wx p bm K e) => name_any hp hG (by omega) (by omega) a n (by omega))
    unfold NamePost at HNm
    rw [hA] at HAk
    rw [if_neg (by simpa using hA)] at HXv
    simp only at HXv
    have hnb := (nameB_len (e := e) (a := a) (n := n) hG).1
    have hng := nameK_good (e := e) (a := a) (n := n) hG
    have hpc := fun h => pkE_chk (e := e) (a := a) (n := n) h
    obtain ⟨E, hE⟩ : ∃ E, pkE e a n = E := ⟨_, rfl⟩
    obtain ⟨T, hT⟩ : ∃ T, nameB K e a n = T := ⟨_, rfl⟩
    obtain ⟨K2, hK2⟩ : ∃ K2, nameK K e a n = K2 := ⟨_, rfl⟩
    obtain ⟨e2, he2⟩ : ∃ e2, nameE K e a n = e2 := ⟨_, rfl⟩
    have hKE : E ≠ 0 → K2 = K ∧ e2 = e := fun hne => by rw [← hK2, ← he2]; unfold nameK nameE; rw [hE, if_neg hne, if_neg hne]; exact ⟨rfl, rfl⟩
    rw [hE, hT, hK2, he2] at HNm HXv
    rw [hE] at hpc
    rw [hT] at hnb
    rw [hK2, he2] at hng
    obtain ⟨hG2, hK22, he22⟩ := hng
    obtain ⟨m, hm⟩ : ∃ m, T.length = m := ⟨_, rfl⟩
    rw [hm] at HXv hnb
    obtain ⟨Y, hY⟩ : ∃ Y : Int, a + m + 10 = Y := ⟨_, rfl⟩
    rw [hY] at HXv
    have hlen := wrR_len Y t d K2 e2 hG2 hsp
    have HWt := Lib.hid (fun (wx : World) (hp : Pk wx p bm K2 e2) => write_any hp hG2 (by omega) (by omega) Y t d hd)
    unfold WrPost at HWt
    obtain ⟨R, hR⟩ : ∃ R, wrR Y t d K2 e2 = R := ⟨_, rfl⟩
    rw [hR] at HWt HXv hlen
    obtain ⟨O, C, K3, e3⟩ := R
    simp only at HWt hlen
    obtain ⟨q, hq⟩ : ∃ q, O.length = q := ⟨_, rfl⟩
    rw [hq] at hlen
    have HT2 := Lib.hid (fun wx => two_any t ht0 ht1 wx)
    have HC2 := Lib.hid (fun wx => two_any c hc0 hc1 wx)
    have HL4 := Lib.hid (fun wx => four_any l hl0 (by omega) wx)
    have HQ2 := Lib.hid (fun wx => two_any (q : Int) (by omega) (by omega) wx)
    have HM1 := Lib.hid hm
    have HQ1 := Lib.hid hq
    have hql : q ≤ 65535 := by omega
    clear hE hT hK2 he2 hA hch ht0 ht1 hc0 hc1 hG hn255 hG2 hK22 he22 hR hlen hsp hak hl0 hl1 hm hq
    go_enter Tryz.func130, Tryz.ntmps130
    go_wp2_with fail
    refine HM.out.mono ?_; rintro e0 w1 ⟨rfl, hp1, ha1⟩
    replace HX := Lib.hid (HX.out.aside (by simp) ha1 hgp)
    have HPk := Lib.hid hp1
    have HAs := Lib.hid (HA0.out.trans ha1)
    obtain ⟨c0, c1, c2, c3, c4⟩ := HX.out.five
    clear hp1 ha1 HM HA0
    go_wp2_with fail
    refine (HAk.out _).mono ?_; rintro e0 w2 ⟨rfl, hb⟩
    replace HX := Lib.hid (HX.out.below (by simp) hb)
    replace HPk := Lib.hid (HPk.out.later hb)
    replace HAs := Lib.hid (HAs.out.trans (Aside.of_all hb))
    clear hb c0 c1 c2 c3 c4
    have c0 : w2.cell? ⟨g, 0, none⟩ = some (.string (bs n)) := HX.out.c 0 (by simp)
    go_wp2_with fail
    refine (HNm.out _ HPk.out).mono ?_; rintro e0 w3 ⟨v3, rfl, ho, hp3, ha3⟩
    replace HX := Lib.hid (HX.out.aside (by simp) ha3 hgp)
    replace HPk := Lib.hid hp3
    have HSz := Lib.hid HAs.out.size
    replace HAs := Lib.hid (HAs.out.trans ha3)
    have HS0 := Lib.hid ho
    obtain ⟨a0, k0, rfl⟩ := ho.shape
    rw [HM1.out] at HS0 ⊢
    have hw2 : g ≤ w2.heap.size := by rw [← hg]; exact HSz.out
    obtain ⟨z2, hz2⟩ : ∃ z2, w2.heap.size = z2 := ⟨_, rfl⟩
    rw [hz2] at HS0 hw2
    clear hp3 ha3 ho c0 hz2 HSz
    by_cases hE0 : E = 0
    · subst hE0
      rw [if_neg (by simp)] at HXv
      obtain ⟨_, hp0, hp1, hp2⟩ := hpc rfl
      have hY1 : wrap64 (a + (m : Int)) = a + m := IntWalk.wrap64_in _ ⟨by omega, by omega⟩
      have hY3 : wrap64 Y = Y := IntWalk.wrap64_in _ ⟨by omega, by omega⟩
      obtain ⟨c0, c1, c2, c3, c4⟩ := HX.out.five
      clear hKE hpc hp0 hp1 hp2
      go_wp2_with fail
      rw [hY3]
      refine (HWt.out _ HPk.out).mono ?_; rintro e0 w4 ⟨v4, rfl, hoD, hp4, ha4⟩
      replace HX := Lib.hid (HX.out.aside (by simp) ha4 hgp)
      replace HPk := Lib.hid hp4
      replace HAs := Lib.hid (HAs.out.trans ha4)
      replace HS0 := Lib.hid (HS0.out.aside ha4 fun b hb hg2 => by have := (HS0.out.lt b hb).1; rcases hg2 with rfl | rfl <;> omega)
      have HSD := Lib.hid hoD
      obtain ⟨a6, k6, rfl⟩ := hoD.shape
      rw [HQ1.out] at HSD ⊢
      clear hp4 ha4 hoD c0 c1 c2 c3 c4 HWt hY hY1 hY3
      by_cases hC0 : C = 0
      · subst hC0
        have hXR : (⟨T ++ (headB t c l q ++ O), 0, K3, e3⟩ : WR) = X := by rw [← HXv.out]; unfold wrT; rw [if_neg (by simp)]; simp only [HQ1.out]
        have HXR := Lib.hid hXR
        clear HXv hXR
        have HXD := Lib.hid (Below.refl w4.heap.size w4).drew
        replace HX := Lib.hid (HX.out.below (by simp) HXD.out)
        replace HPk := Lib.hid (HPk.out.later HXD.out)
        replace HAs := Lib.hid (HAs.out.trans (Aside.of_all HXD.out))
        replace HS0 := Lib.hid (HS0.out.below HXD.out).sl.top
        replace HSD := Lib.hid (HSD.out.below HXD.out).sl.top
        clear HXD
        go_wp2_with fail
        refine wp_region_held_drew (S := (fun wx => wx.cell? ⟨g, 1, none⟩ = some (.int .i64 t) ∧ wx.cell? ⟨g, 2, none⟩ = some (.int .i64 c) ∧ wx.cell? ⟨g, 3, none⟩ = some (.int .i64 l))) (by kernel_rfl) ⟨HX.out.c 1 (by simp), HX.out.c 2 (by simp), HX.out.c 3 (by simp)⟩ (fun hHeld => ?_)
        refine wpAnyH_take (i := 0) (oi := { dst := some 48, op := Op.move (Operand.tmp 9), type := 28, pos := "rec.go:74", after := #[], guard := none }) (v := ?_) rfl (by kernel_rfl) (by kernel_rfl) (by kernel_rfl) (fun _ _ _ h => h) (Or.inl ⟨by rfl, ?_⟩) (by assumption) ?_
        rotate_left 1
        · intro w hSw; (try dsimp only at hSw); go_simp; try (with_reducible rfl)
        try simp only [Act.put, List.setIfInBounds_toArray, List.set_cons_zero, List.set_cons_succ]
        refine wpAnyH_take (i := 1) (oi := { dst := some 49, op := Op.fieldAddr 78 (Operand.tmp 5) 1, type := 0, pos := "rec.go:74", after := #[], guard := none }) (v := ?_) rfl (by kernel_rfl) (by kernel_rfl) (by kernel_rfl) (fun _ _ _ h => h) (Or.inl ⟨by rfl, ?_⟩) (by assumption) ?_
        rotate_left 1
        · intro w hSw; (try dsimp only at hSw); go_simp; try (with_reducible rfl)
        try simp only [Act.put, List.setIfInBounds_toArray, List.set_cons_zero, List.set_cons_succ]
        refine wpAnyH_take (i := 2) (oi := { dst := some 50, op := Op.load 3 (Operand.tmp 49), type := 3, pos := "rec.go:74", after := #[{ on := 1, ground := Ground.data }], guard := none }) (v := ?_) rfl (by kernel_rfl) (by kernel_rfl) (by kernel_rfl) (fun _ _ _ h => h) (Or.inl ⟨by rfl, ?_⟩) (by assumption) ?_
        rotate_left 1
        · intro w hSw; (try dsimp only at hSw); go_simp; try (with_reducible rfl)
        try simp only [Act.put, List.setIfInBounds_toArray, List.set_cons_zero, List.set_cons_succ]
        refine wpAnyH_take (i := 4) (oi := { dst := some 52, op := Op.fieldAddr 78 (Operand.tmp 5) 2, type := 0, pos := "rec.go:74", after := #[], guard := none }) (v := ?_) rfl (by kernel_rfl) (by kernel_rfl) (by kernel_rfl) (fun _ _ _ h => h) (Or.inl ⟨by rfl, ?_⟩) (by assumption) ?_
        rotate_left 1
        · intro w hSw; (try dsimp only at hSw); go_simp; try (with_reducible rfl)
        try simp only [Act.put, List.setIfInBounds_toArray, List.set_cons_zero, List.set_cons_succ]
        refine wpAnyH_take (i := 5) (oi := { dst := some 53, op := Op.load 3 (Operand.tmp 52), type := 3, pos := "rec.go:74", after := #[{ on := 4, ground := Ground.data }], guard := none }) (v := ?_) rfl (by kernel_rfl) (by kernel_rfl) (by kernel_rfl) (fun _ _ _ h => h) (Or.inl ⟨by rfl, ?_⟩) (by assumption) ?_
        rotate_left 1
        · intro w hSw; (try dsimp only at hSw); go_simp; try (with_reducible rfl)
        try simp only [Act.put, List.setIfInBounds_toArray, List.set_cons_zero, List.set_cons_succ]
        refine wpAnyH_take (i := 7) (oi := { dst := some 55, op := Op.fieldAddr 78 (Operand.tmp 5) 3, type := 0, pos := "rec.go:74", after := #[], guard := none }) (v := ?_) rfl (by kernel_rfl) (by kernel_rfl) (by kernel_rfl) (fun _ _ _ h => h) (Or.inl ⟨by rfl, ?_⟩) (by assumption) ?_
        rotate_left 1
        · intro w hSw; (try dsimp only at hSw); go_simp; try (with_reducible rfl)
        try simp only [Act.put, List.setIfInBounds_toArray, List.set_cons_zero, List.set_cons_succ]
        refine wpAnyH_take (i := 8) (oi := { dst := some 56, op := Op.load 3 (Operand.tmp 55), type := 3, pos := "rec.go:74", after := #[{ on := 7, ground := Ground.data }], guard := none }) (v := ?_) rfl (by kernel_rfl) (by kernel_rfl) (by kernel_rfl) (fun _ _ _ h => h) (Or.inl ⟨by rfl, ?_⟩) (by assumption) ?_
        rotate_left 1
        · intro w hSw; (try dsimp only at hSw); go_simp; try (with_reducible rfl)
        try simp only [Act.put, List.setIfInBounds_toArray, List.set_cons_zero, List.set_cons_succ]
        refine wpAnyH_take (i := 10) (oi := { dst := some 58, op := Op.move (Operand.tmp 11), type := 28, pos := "rec.go:74", after := #[], guard := none }) (v := ?_) rfl (by kernel_rfl) (by kernel_rfl) (by kernel_rfl) (fun _ _ _ h => h) (Or.inl ⟨by rfl, ?_⟩) (by assumption) ?_
        rotate_left 1
        · intro w hSw; (try dsimp only at hSw); go_simp; try (with_reducible rfl)
        try simp only [Act.put, List.setIfInBounds_toArray, List.set_cons_zero, List.set_cons_succ]
        refine wpAnyH_take (i := 11) (oi := { dst := some 59, op := Op.call { callee := Callee.builtin Builtin.len, args := #[Operand.tmp 58], argTypes := #[28] }, type := 3, pos := "rec.go:74", after := #[{ on := 10, ground := Ground.data }], guard := none }) (v := ?_) rfl (by kernel_rfl) (by kernel_rfl) (by kernel_rfl) (fun _ _ _ h => h) (Or.inl ⟨by rfl, ?_⟩) (by assumption) ?_
        rotate_left 1
        · intro w hSw; (try dsimp only at hSw); go_simp; try (with_reducible rfl)
        try simp only [Act.put, List.setIfInBounds_toArray, List.set_cons_zero, List.set_cons_succ]
        refine wpAnyH_take (i := 13) (oi := { dst := some 61, op := Op.move (Operand.tmp 11), type := 28, pos := "rec.go:74", after := #[], guard := none }) (v := ?_) rfl (by kernel_rfl) (by kernel_rfl) (by kernel_rfl) (fun _ _ _ h => h) (Or.inl ⟨by rfl, ?_⟩) (by assumption) ?_
        rotate_left 1
        · intro w hSw; (try dsimp only at hSw); go_simp; try (with_reducible rfl)
        try simp only [Act.put, List.setIfInBounds_toArray, List.set_cons_zero, List.set_cons_succ]
        refine wpAnyH_ready (rs := [3]) (by kernel_rfl) (by simp) ?_
        refine AllReadyH.cons (o := { dst := some 51, op := Op.call { callee := Callee.value (Operand.func 105), args := #[Operand.tmp 50], argTypes := #[3] }, type := 28, pos := "rec.go:74", after := #[{ on := 2, ground := Ground.data }], guard := none }) rfl (fun K hK => ?_) (AllReadyH.nil)
        go_simp
        refine (HT2.out _).mono ?_; rintro e0 w5 ⟨a1, k1, rfl, hs1, hb⟩
        have HS1 := Lib.hid hs1
        clear hs1
        replace HX := Lib.hid (HX.out.below (by simp) hb)
        replace HPk := Lib.hid (HPk.out.later hb)
        replace HAs := Lib.hid (HAs.out.trans (Aside.of_all hb))
        replace HS0 := Lib.hid (sl_keep HS0.out hb)
        replace HSD := Lib.hid (sl_keep HSD.out hb)
        clear hb
        try go_wp2_with fail
        refine hK.out _ _ ⟨HX.out.c 1 (by simp), HX.out.c 2 (by simp), HX.out.c 3 (by simp)⟩ (fun hHeld => ?_)
        clear hK K
        try simp only [Act.put, List.setIfInBounds_toArray, List.set_cons_zero, List.set_cons_succ]
        refine wpAnyH_ready (rs := [6]) (by kernel_rfl) (by simp) ?_
        refine AllReadyH.cons (o := { dst := some 54, op := Op.call { callee := Callee.value (Operand.func 105), args := #[Operand.tmp 53], argTypes := #[3] }, type := 28, pos := "rec.go:74", after := #[{ on := 5, ground := Ground.data }, { on := 3, ground := Ground.chain }], guard := none }) rfl (fun K hK => ?_) (AllReadyH.nil)
        go_simp
        refine (HC2.out _).mono ?_; rintro e0 w6 ⟨a2, k2, rfl, hs1, hb⟩
        have HS2 := Lib.hid hs1
        clear hs1
        replace HX := Lib.hid (HX.out.below (by simp) hb)
        replace HPk := Lib.hid (HPk.out.later hb)
        replace HAs := Lib.hid (HAs.out.trans (Aside.of_all hb))
        replace HS0 := Lib.hid (sl_keep HS0.out hb)
        replace HSD := Lib.hid (sl_keep HSD.out hb)
        replace HS1 := Lib.hid (sl_keep HS1.out hb)
        clear hb
        try go_wp2_with fail
        refine hK.out _ _ ⟨HX.out.c 1 (by simp), HX.out.c 2 (by simp), HX.out.c 3 (by simp)⟩ (fun hHeld => ?_)
        clear hK K
        try simp only [Act.put, List.setIfInBounds_toArray, List.set_cons_zero, List.set_cons_succ]
        refine wpAnyH_ready (rs := [9]) (by kernel_rfl) (by simp) ?_
        refine AllReadyH.cons (o := { dst := some 57, op := Op.call { callee := Callee.value (Operand.func 135), args := #[Operand.tmp 56], argTypes := #[3] }, type := 28, pos := "rec.go:74", after := #[{ on := 8, ground := Ground.data }, { on := 6, ground := Ground.chain }], guard := none }) rfl (fun K hK => ?_) (AllReadyH.nil)
        go_simp
        refine (HL4.out _).mono ?_; rintro e0 w7 ⟨a3, k3, rfl, hs1, hb⟩
        have HS3 := Lib.hid hs1
        clear hs1
        replace HX := Lib.hid (HX.out.below (by simp) hb)
        replace HPk := Lib.hid (HPk.out.later hb)
        replace HAs := Lib.hid (HAs.out.trans (Aside.of_all hb))
        replace HS0 := Lib.hid (sl_keep HS0.out hb)
        replace HSD := Lib.hid (sl_keep HSD.out hb)
        replace HS1 := Lib.hid (sl_keep HS1.out hb)
        replace HS2 := Lib.hid (sl_keep HS2.out hb)
        clear hb
        try go_wp2_with fail
        refine hK.out _ _ ⟨HX.out.c 1 (by simp), HX.out.c 2 (by simp), HX.out.c 3 (by simp)⟩ (fun hHeld => ?_)
        clear hK K
        try simp only [Act.put, List.setIfInBounds_toArray, List.set_cons_zero, List.set_cons_succ]
        refine wpAnyH_ready (rs := [12]) (by kernel_rfl) (by simp) ?_
        refine AllReadyH.cons (o := { dst := some 60, op := Op.call { callee := Callee.value (Operand.func 105), args := #[Operand.tmp 59], argTypes := #[3] }, type := 28, pos := "rec.go:74", after := #[{ on := 11, ground := Ground.data }, { on := 9, ground := Ground.chain }], guard := none }) rfl (fun K hK => ?_) (AllReadyH.nil)
        go_simp
        refine (HQ2.out _).mono ?_; rintro e0 w8 ⟨a4, k4, rfl, hs1, hb⟩
        have HS4 := Lib.hid hs1
        clear hs1
        replace HX := Lib.hid (HX.out.below (by simp) hb)
        replace HPk := Lib.hid (HPk.out.later hb)
        replace HAs := Lib.hid (HAs.out.trans (Aside.of_all hb))
        replace HS0 := Lib.hid (sl_keep HS0.out hb)
        replace HSD := Lib.hid (sl_keep HSD.out hb)
        replace HS1 := Lib.hid (sl_keep HS1.out hb)
        replace HS2 := Lib.hid (sl_keep HS2.out hb)
        replace HS3 := Lib.hid (sl_keep HS3.out hb)
        clear hb
        try go_wp2_with fail
        refine hK.out _ _ ⟨HX.out.c 1 (by simp), HX.out.c 2 (by simp), HX.out.c 3 (by simp)⟩ (fun hHeld => ?_)
        clear hK K
        try simp only [Act.put, List.setIfInBounds_toArray, List.set_cons_zero, List.set_cons_succ]
        refine wpAnyH_ready (rs := [14]) (by kernel_rfl) (by simp) ?_
        refine AllReadyH.cons (o := { dst := some 62, op := Op.buildSlice 161 6 #[(0, Operand.tmp 48), (1, Operand.tmp 51), (2, Operand.tmp 54), (3, Operand.tmp 57), (4, Operand.tmp 60), (5, Operand.tmp 61)], type := 161, pos := "rec.go:74", after := #[{ on := 0, ground := Ground.data }, { on := 3, ground := Ground.data }, { on := 6, ground := Ground.data }, { on := 9, ground := Ground.data }, { on := 12, ground := Ground.data }, { on := 13, ground := Ground.data }], guard := none }) rfl (fun K hK => ?_) (AllReadyH.nil)
        go_simp
        have hb : Below w8.heap.size w8 (w8.alloc (.cells #[.slice a0 m k0, .slice a1 2 k1, .slice a2 2 k2, .slice a3 4 k3, .slice a4 2 k4, .slice a6 q k6] 28)) := (Below.refl _ _).alloc (Nat.le_refl _) _
        replace HX := Lib.hid (HX.out.below (by simp) hb)
        replace HPk := Lib.hid (HPk.out.later hb)
        replace HAs := Lib.hid (HAs.out.trans (Aside.of_all hb))
        replace HS0 := Lib.hid (sl_keep HS0.out hb)
        replace HSD := Lib.hid (sl_keep HSD.out hb)
        replace HS1 := Lib.hid (sl_keep HS1.out hb)
        replace HS2 := Lib.hid (sl_keep HS2.out hb)
        replace HS3 := Lib.hid (sl_keep HS3.out hb)
        replace HS4 := Lib.hid (sl_keep HS4.out hb)
        clear hb
        have HCc := Lib.hid (concat_any (w := (w8.alloc (.cells #[.slice a0 m k0, .slice a1 2 k1, .slice a2 2 k2, .slice a3 4 k3, .slice a4 2 k4, .slice a6 q k6] 28))) (g := w8.heap.size) (lo := 0) (hi := (w8.alloc (.cells #[.slice a0 m k0, .slice a1 2 k1, .slice a2 2 k2, .slice a3 4 k3, .slice a4 2 k4, .slice a6 q k6] 28)).heap.size) (n := 6) (c0 := 6) (ls := [T, two t, two c, four l, two q, O]) rfl (by decide) (by simp) (Nat.le_refl _) (by simp [two, four, HM1.out, HQ1.out]; omega) (fun j hj => by
          match j, hj with
          | 0, _ => exact ⟨a0, k0, by simp [go_sem, HM1.out], by have h := HS0.out; simpa [HM1.out] using h⟩
          | 1, _ => exact ⟨a1, k1, by simp [go_sem, two], HS1.out⟩
          | 2, _ => exact ⟨a2, k2, by simp [go_sem, two], HS2.out⟩
          | 3, _ => exact ⟨a3, k3, by simp [go_sem, four], HS3.out⟩
          | 4, _ => exact ⟨a4, k4, by simp [go_sem, two], HS4.out⟩
          | 5, _ => exact ⟨a6, k6, by simp [go_sem, HQ1.out], by have h := HSD.out; simpa [HQ1.out] using h⟩))
        rw [show [T, two t, two c, four l, two q, O].flatten = T ++ (headB t c l q ++ O) by simp [headB]] at HCc
        refine hK.out _ _ ⟨HX.out.c 1 (by simp), HX.out.c 2 (by simp), HX.out.c 3 (by simp)⟩ (fun hHeld => ?_)
        clear hK K
        try simp only [Act.put, List.setIfInBounds_toArray, List.set_cons_zero, List.set_cons_succ]
        refine wpAnyH_ready (rs := [15]) (by kernel_rfl) (by simp) ?_
        refine AllReadyH.cons (o := { dst := some 63, op := Op.call { callee := Callee.value (Operand.func 104), args := #[Operand.tmp 62], argTypes := #[161] }, type := 28, pos := "rec.go:74", after := #[{ on := 14, ground := Ground.data }, { on := 12, ground := Ground.chain }], guard := none }) rfl (fun K hK => ?_) (AllReadyH.nil)
        go_simp
        refine HCc.out.mono ?_; rintro e0 w9 ⟨v9, rfl, ho, hb⟩
        have HO := Lib.hid ho
        have HAs0 := Lib.hid HAs.out
        clear ho HCc HS0 HS1 HS2 HS3 HS4 HSD
        replace HX := Lib.hid (HX.out.below (by simp) hb)
        replace HPk := Lib.hid (HPk.out.later hb)
        replace HAs := Lib.hid (HAs.out.trans (Aside.of_all hb))
        clear hb
        try go_wp2_with fail
        refine hK.out _ _ ⟨HX.out.c 1 (by simp), HX.out.c 2 (by simp), HX.out.c 3 (by simp)⟩ (fun hHeld => ?_)
        clear hK K
        try simp only [Act.put, List.setIfInBounds_toArray, List.set_cons_zero, List.set_cons_succ]
        refine wpAnyH_take (i := 16) (oi := { dst := some 6, op := Op.assign (Operand.tmp 63), type := 28, pos := "rec.go:74", after := #[{ on := 15, ground := Ground.data }, { on := 15, ground := Ground.chain }, { on := 0, ground := Ground.phase }, { on := 1, ground := Ground.phase }, { on := 2, ground := Ground.phase }, { on := 3, ground := Ground.phase }, { on := 4, ground := Ground.phase }, { on := 5, ground := Ground.phase }, { on := 6, ground := Ground.phase }, { on := 7, ground := Ground.phase }, { on := 8, ground := Ground.phase }, { on := 9, ground := Ground.phase }, { on := 10, ground := Ground.phase }, { on := 11, ground := Ground.phase }, { on := 12, ground := Ground.phase }, { on := 13, ground := Ground.phase }, { on := 14, ground := Ground.phase }, { on := 15, ground := Ground.phase }], guard := none }) (v := ?_) rfl (by kernel_rfl) (by kernel_rfl) (by kernel_rfl) (fun _ _ _ h => h) (Or.inl ⟨by rfl, ?_⟩) (by assumption) ?_
        rotate_left 1
        · intro w hSw; (try dsimp only at hSw); go_simp; try (with_reducible rfl)
        try simp only [Act.put, List.setIfInBounds_toArray, List.set_cons_zero, List.set_cons_succ]
        refine wpAnyH_take (i := 17) (oi := { dst := some 7, op := Op.assign (Operand.const (Value.int IntKind.i64 0)), type := 29, pos := "rec.go:74", after := #[{ on := 16, ground := Ground.chain }, { on := 0, ground := Ground.phase }, { on := 1, ground := Ground.phase }, { on := 2, ground := Ground.phase }, { on := 3, ground := Ground.phase }, { on := 4, ground := Ground.phase }, { on := 5, ground := Ground.phase }, { on := 6, ground := Ground.phase }, { on := 7, ground := Ground.phase }, { on := 8, ground := Ground.phase }, { on := 9, ground := Ground.phase }, { on := 10, ground := Ground.phase }, { on := 11, ground := Ground.phase }, { on := 12, ground := Ground.phase }, { on := 13, ground := Ground.phase }, { on := 14, ground := Ground.phase }, { on := 15, ground := Ground.phase }, { on := 16, ground := Ground.phase }], guard := none }) (v := ?_) rfl (by kernel_rfl) (by kernel_rfl) (by kernel_rfl) (fun _ _ _ h => h) (Or.inl ⟨by rfl, ?_⟩) (by assumption) ?_
        rotate_left 1
        · intro w hSw; (try dsimp only at hSw); go_simp; try (with_reducible rfl)
        try simp only [Act.put, List.setIfInBounds_toArray, List.set_cons_zero, List.set_cons_succ]
        refine wpAnyH_done (by kernel_rfl) ?_ _
        clear hHeld
        go_wp2_with fail
        go_ret2
        rw [← HXR.out]
        exact ⟨_, rfl, HO.out.mono HAs0.out.size, HPk.out, HAs.out⟩
      · have tC : (C != 0) = true := by simpa using hC0
        have hXR : (⟨[], C, K3, e3⟩ : WR) = X := by rw [← HXv.out]; unfold wrT; rw [if_pos hC0]
        have HXR := Lib.hid hXR
        clear HXv hXR
        go_wp2_with fail
        go_ret2
        rw [← HXR.out]
        exact ⟨_, rfl, OwnB.nil _ _, HPk.out, HAs.out⟩
    · have tE : (E != 0) = true := by simpa using hE0
      rw [if_pos hE0] at HXv
      obtain ⟨rfl, rfl⟩ := hKE hE0
      clear HWt hpc
      go_wp2_with fail
      go_ret2
      rw [← HXv.out]
      exact ⟨_, rfl, OwnB.nil _ _, HPk.out, HAs.out⟩
  · obtain ⟨E, hE⟩ : ∃ E, chkC ⟨n, t, c, l, d⟩ = E := ⟨_, rfl⟩
    rw [hE] at HAk HXv hA
    rw [if_pos hA] at HXv
    have tE : (E != 0) = true := by simpa using hA
    clear hE hA
    go_enter Tryz.func130, Tryz.ntmps130
    go_wp2_with fail
    refine HM.out.mono ?_; rintro e0 w1 ⟨rfl, hp1, ha1⟩
    replace HX := Lib.hid (HX.out.aside (by simp) ha1 hgp)
    have HPk := Lib.hid hp1
    have HAs := Lib.hid (HA0.out.trans ha1)
    obtain ⟨c0, c1, c2, c3, c4⟩ := HX.out.five
    clear hp1 ha1 HM HA0
    go_wp2_with fail
    refine (HAk.out _).mono ?_; rintro e0 w2 ⟨rfl, hb⟩
    replace HPk := Lib.hid (HPk.out.later hb)
    replace HAs := Lib.hid (HAs.out.trans (Aside.of_all hb))
    clear hb c0 c1 c2 c3 c4
    go_wp2_with fail
    go_ret2
    rw [← HXv.out]
    exact ⟨_, rfl, OwnB.nil _ _, HPk.out, HAs.out⟩
end Go.Proofs.YtdikgjbpjdnodaaGreat

/-
  The statements about what is read of any bytes, and about lower form.
-/
namespace Go.Proofs.YtdikgjbpjdnodaaGreat
open Go.RowKit Go.Shelf
set_option linter.unusedVariables false
set_option linter.unusedSimpArgs false
set_option maxRecDepth 100000

theorem go_bad {F : Nat → Got} {b : List UInt8} {s e : Nat} (hs : s ≤ b.length) (hF : ∀ p, (F p).2.2.2 ≤ b.length) : ∀ (ks : List PK) (p : Nat) (acc : List Pc) (c : Int) (a : Nat), goP F b s e ks p acc = .bad c a → a ≤ b.length ∧ c ≠ 0
  | [], p, acc, c, a, h => by
    rw [goP] at h
    split at h
    · injection h with h1 h2; subst h1; subst h2; exact ⟨hs, by decide⟩
    · simp at h
  | k :: ks, p, acc, c, a, h => by
    rw [goP] at h
    split at h
    · exact go_bad hs hF ks _ _ c a h
    · rename_i c' a' hx
      injection h with h1 h2
      subst h1; subst h2
      have hcut : ∀ q', cutP b s e p q' = .bad c' a' → a' ≤ b.length ∧ c' ≠ 0 := by
        intro q' hq
        unfold cutP at hq
        split at hq
        · injection hq with h1 h2; subst h1; subst h2; exact ⟨hs, by decide⟩
        · simp at hq
      cases k with
      | fix n => exact hcut _ hx
      | nam =>
        simp only [stepP] at hx
        split at hx
        · injection hx with h1 h2; subst h1; subst h2; exact ⟨hs, by decide⟩
        · split at hx
          · rename_i h0
            injection hx with h1 h2; subst h1; subst h2; exact ⟨hF p, h0⟩
          · split at hx
            · injection hx with h1 h2; subst h1; subst h2; exact ⟨hs, by decide⟩
            · simp at hx
      | txt =>
        rw [txR_step] at hx
        cases hy : txE b e (e + 1) p with
        | none => rw [hy] at hx; injection hx with h1 h2; subst h1; subst h2; exact ⟨hs, by decide⟩
        | some y => rw [hy] at hx; exact hcut _ hx
      | rst => exact hcut _ hx

theorem rdR_bad {b : List UInt8} {a size t : Int} {c : Int} {p : Nat} (h : rdR b a size t = .bad c p) : p ≤ b.length ∧ c ≠ 0 := by
  unfold rdR at h
  split at h
  · injection h with h1 h2; subst h1; subst h2; exact ⟨Nat.zero_le _, by decide⟩
  · split at h
    · injection h with h1 h2; subst h1; subst h2; exact ⟨Nat.zero_le _, by decide⟩
    · split at h
      · injection h with h1 h2; subst h1; subst h2; exact ⟨Nat.le_refl _, by decide⟩
      · exact go_bad (by omega) (fun p => rda_place b p) _ _ _ _ _ h

theorem rdR_ok {b : List UInt8} {a size t : Int} {L : List Pc} (h : rdR b a size t = .ok L) : 0 ≤ t ∧ t ≤ 65535 ∧ Fits (kinds t) L ∧ (joined L).length ≤ 3 * (b.length + 255) ∧ 0 ≤ a ∧ 0 ≤ size ∧ a + size ≤ b.length ∧ goP (fun p => rda b p) b a.toNat (a.toNat + size.toNat) (kinds t) a.toNat [] = .ok L := by
  unfold rdR at h
  split at h
  · simp at h
  · split at h
    · simp at h
    · split at h
      · simp at h
      · obtain ⟨M, h1, h2⟩ := go_fits (F := fun p => rda b p) (e := a.toNat + size.toNat) (by omega) (fun p hp => (rda_fine b p hp).1) (kinds t) _ [] L (kinds_last t) (by omega) h
        rw [List.nil_append] at h1
        subst h1
        obtain ⟨h3, _⟩ := go_len (F := fun p => rda b p) (fun p hp => rda_len b p hp) (kinds t) _ [] L h
        have hk := (kinds_small t).1
        have h4 : (kinds t).length * (b.length + 255) ≤ 3 * (b.length + 255) := Nat.mul_le_mul_right _ hk
        rw [joined_nil, List.length_nil] at h3
        exact ⟨by omega, by omega, h2, by omega, by omega, by omega, by omega, h⟩

end Go.Proofs.YtdikgjbpjdnodaaGreat

/-
  What is read, plainly.
-/
namespace Go.Proofs.YtdikgjbpjdnodaaGreat
open Go.RowKit Go.Shelf
set_option linter.unusedVariables false
set_option linter.unusedSimpArgs false
set_option maxRecDepth 100000

theorem st2_ok {b : List UInt8} {i : Nat} (h : i + 2 ≤ b.length) (p old : Int) : st2 b ⟨i, 0, p⟩ = ⟨((i + 2 : Nat) : Int), 0, 0⟩ ∧ vl2 b ⟨i, 0, p⟩ old = nAt2 (iz b) i := by
  unfold st2 vl2 getF getE getA
  have c0 : ¬ ((0 : Int) ≠ 0) := by simp
  have c1 : (0 : Int) ≤ i ∧ (i : Int) + ((2 : Nat) : Int) ≤ (b.length : Int) := by omega
  have c2 : ¬ ((i : Int) < 0 ∨ (b.length : Int) < i) := by omega
  have c3 : ¬ ((b.length : Int) < (i : Int) + ((2 : Nat) : Int)) := by omega
  have c4 : ¬ ((0 : Int) ≤ i ∧ (i : Int) ≤ b.length ∧ (b.length : Int) < (i : Int) + ((2 : Nat) : Int)) := by omega
  simp only [if_neg c0, if_pos c1, if_neg c2, if_neg c3, if_neg c4, Int.toNat_natCast]
  exact ⟨by push_cast; rfl, trivial⟩
theorem st2_short {b : List UInt8} {i : Nat} (h : i ≤ b.length) (h2 : b.length < i + 2) (p : Int) : st2 b ⟨i, 0, p⟩ = ⟨0, 4, b.length⟩ := by
  unfold st2 getF getE getA
  have c0 : ¬ ((0 : Int) ≠ 0) := by simp
  have c1 : ¬ ((0 : Int) ≤ i ∧ (i : Int) + ((2 : Nat) : Int) ≤ (b.length : Int)) := by omega
  have c2 : ¬ ((i : Int) < 0 ∨ (b.length : Int) < i) := by omega
  have c3 : (b.length : Int) < (i : Int) + ((2 : Nat) : Int) := by omega
  have c4 : (0 : Int) ≤ i ∧ (i : Int) ≤ b.length ∧ (b.length : Int) < (i : Int) + ((2 : Nat) : Int) := by omega
  simp only [if_neg c0, if_neg c1, if_neg c2, if_pos c3, if_pos c4]
theorem st2_bad {b : List UInt8} {s : RS} (h : s.e ≠ 0) : st2 b s = s := by unfold st2; rw [if_pos h]
theorem st4_ok {b : List UInt8} {i : Nat} (h : i + 4 ≤ b.length) (p old : Int) : st4 b ⟨i, 0, p⟩ = ⟨((i + 4 : Nat) : Int), 0, 0⟩ ∧ vl4 b ⟨i, 0, p⟩ old = nAt4 (iz b) i := by
  unfold st4 vl4 getF getE getA
  have c0 : ¬ ((0 : Int) ≠ 0) := by simp
  have c1 : (0 : Int) ≤ i ∧ (i : Int) + ((4 : Nat) : Int) ≤ (b.length : Int) := by omega
  have c2 : ¬ ((i : Int) < 0 ∨ (b.length : Int) < i) := by omega
  have c3 : ¬ ((b.length : Int) < (i : Int) + ((4 : Nat) : Int)) := by omega
  have c4 : ¬ ((0 : Int) ≤ i ∧ (i : Int) ≤ b.length ∧ (b.length : Int) < (i : Int) + ((4 : Nat) : Int)) := by omega
  simp only [if_neg c0, if_pos c1, if_neg c2, if_neg c3, if_neg c4, Int.toNat_natCast]
  exact ⟨by push_cast; rfl, trivial⟩
theorem st4_short {b : List UInt8} {i : Nat} (h : i ≤ b.length) (h2 : b.length < i + 4) (p : Int) : st4 b ⟨i, 0, p⟩ = ⟨0, 4, b.length⟩ := by
  unfold st4 getF getE getA
  have c0 : ¬ ((0 : Int) ≠ 0) := by simp
  have c1 : ¬ ((0 : Int) ≤ i ∧ (i : Int) + ((4 : Nat) : Int) ≤ (b.length : Int)) := by omega
  have c2 : ¬ ((i : Int) < 0 ∨ (b.length : Int) < i) := by omega
  have c3 : (b.length : Int) < (i : Int) + ((4 : Nat) : Int) := by omega
  have c4 : (0 : Int) ≤ i ∧ (i : Int) ≤ b.length ∧ (b.length : Int) < (i : Int) + ((4 : Nat) : Int) := by omega
  simp only [if_neg c0, if_neg c1, if_neg c2, if_pos c3, if_pos c4]
theorem st4_bad {b : List UInt8} {s : RS} (h : s.e ≠ 0) : st4 b s = s := by unfold st4; rw [if_pos h]
theorem stD_bad {b : List UInt8} {s : RS} {m t : Int} (h : s.e ≠ 0) : stD b s m t = s := by unfold stD; rw [if_pos h]

theorem s1_ok {b : List UInt8} {p : Nat} {n : List UInt8} {i : Nat} (h : rda b p = (n, i, 0, 0)) : s1 b p = ⟨i, 0, 0⟩ ∧ rN b p = n := by
  unfold s1 rN stN vlN
  simp only
  rw [if_neg (by simp), if_neg (by simp), h]
  exact ⟨rfl, rfl⟩

/-- A question is read. -/
theorem ques_ok {b : List UInt8} {p : Nat} {n : List UInt8} {i : Nat} (h : rda b p = (n, i, 0, 0)) (hi : i + 4 ≤ b.length) :
    s3 b p = ⟨((i + 4 : Nat) : Int), 0, 0⟩ ∧ rN b p = n ∧ rT b p = nAt2 (iz b) i ∧ rC b p = nAt2 (iz b) (i + 2) := by
  obtain ⟨h1, h2⟩ := s1_ok h
  have g1 := st2_ok (b := b) (i := i) (by omega) 0 0
  have g2 := st2_ok (b := b) (i := i + 2) (by omega) 0 0
  have e2 : s2 b p = ⟨((i + 2 : Nat) : Int), 0, 0⟩ := by unfold s2; rw [h1]; exact g1.1
  refine ⟨?_, h2, ?_, ?_⟩
  · unfold s3; rw [e2]; exact g2.1
  · unfold rT; rw [h1]; exact g1.2
  · unfold rC; rw [e2]; exact g2.2

/-- A record's head is read. -/
theorem head_ok {b : List UInt8} {p : Nat} {n : List UInt8} {i : Nat} (h : rda b p = (n, i, 0, 0)) (hi : i + 10 ≤ b.length) :
    s5 b p = ⟨((i + 10 : Nat) : Int), 0, 0⟩ ∧ rL b p = nAt4 (iz b) (i + 4) ∧ rZ b p = nAt2 (iz b) (i + 8) := by
  obtain ⟨h1, _, _, _⟩ := ques_ok h (by omega)
  have g1 := st4_ok (b := b) (i := i + 4) (by omega) 0 0
  have g2 := st2_ok (b := b) (i := i + 8) (by omega) 0 0
  have e4 : s4 b p = ⟨((i + 8 : Nat) : Int), 0, 0⟩ := by unfold s4; rw [h1]; exact g1.1
  refine ⟨?_, ?_, ?_⟩
  · unfold s5; rw [e4]; exact g2.1
  · unfold rL; rw [h1]; exact g1.2
  · unfold rZ; rw [e4]; exact g2.2

/-- Data are read, or not. -/
theorem data_ok {b : List UInt8} {p : Nat} {n : List UInt8} {i : Nat} {L : List Pc} (h : rda b p = (n, i, 0, 0)) (hi : i + 10 ≤ b.length) (hr : rdR b ((i + 10 : Nat) : Int) (rZ b p) (rT b p) = .ok L) :
    s6 b p = ⟨wrap64 (((i + 10 : Nat) : Int) + rZ b p), 0, 0⟩ ∧ rD b p = joined L := by
  obtain ⟨h1, _, _⟩ := head_ok h hi
  unfold s6 rD stD vlD
  rw [h1]
  simp only
  rw [if_neg (by simp), if_neg (by simp), hr]
  exact ⟨rfl, rfl⟩
theorem data_no {b : List UInt8} {p : Nat} {n : List UInt8} {i : Nat} {c : Int} {a : Nat} (h : rda b p = (n, i, 0, 0)) (hi : i + 10 ≤ b.length) (hr : rdR b ((i + 10 : Nat) : Int) (rZ b p) (rT b p) = .bad c a) :
    (s6 b p).e = c ∧ (s6 b p).p = a := by
  obtain ⟨h1, _, _⟩ := head_ok h hi
  unfold s6 stD
  rw [h1]
  simp only
  rw [if_neg (by simp), hr]
  exact ⟨rfl, rfl⟩

theorem rda_zero {b : List UInt8} {p : Nat} (h : (rda b p).2.2.1 = 0) : (rda b p).2.2.2 = 0 := by
  unfold rda at h ⊢
  split at h
  · exact absurd h (by decide)
  · rename_i hr
    rw [if_neg hr]
    rw [Int.toNat_natCast] at h ⊢
    rcases rd_fine b p (by omega) p p 0 [] [] rfl ⟨by simp, by simp [wire]⟩ with ⟨_, f, _⟩ | ⟨f, _⟩
    · exact f
    · exact absurd h f

/-- Whatever bytes: a fault within them, or a record that may be. -/
theorem read_any_cases (b : List UInt8) (p : Nat) (hp : p ≤ b.length) (hb : b.length ≤ 20000) :
    ((s6 b p).e ≠ 0 ∧ 0 ≤ (s6 b p).p ∧ (s6 b p).p ≤ b.length) ∨
    ((s6 b p).e = 0 ∧ (s3 b p).e = 0 ∧ chkC ⟨rN b p, rT b p, rC b p, ttlR (rL b p), rD b p⟩ = 0 ∧ (p : Int) < (s6 b p).a ∧ (s6 b p).a ≤ b.length ∧ (s3 b p).a < (s6 b p).a ∧ (rN b p).length ≤ 255 ∧ (rD b p).length ≤ 65535) := by
  have hrp := rda_place b p
  have b0 : (⟨0, 4, (b.length : Int)⟩ : RS).e ≠ 0 := by simp
  by_cases h0 : (rda b p).2.2.1 = 0
  · obtain ⟨hch, hlt, hle⟩ := rda_fine b p h0
    have hz := rda_zero h0
    obtain ⟨⟨n, i, f, g⟩, hR⟩ : ∃ R, rda b p = R := ⟨_, rfl⟩
    rw [hR] at h0 hch hlt hle hz
    simp only at h0 hch hlt hle hz
    subst h0; subst hz
    obtain ⟨h1, hN⟩ := s1_ok hR
    by_cases hi2 : b.length < i + 2
    · have e2 : s2 b p = ⟨0, 4, b.length⟩ := by unfold s2; rw [h1]; exact st2_short hle hi2 0
      have e : s6 b p = ⟨0, 4, b.length⟩ := by
        unfold s6 s5 s4 s3
        rw [e2, st2_bad b0, st4_bad b0, st2_bad b0, stD_bad b0]
      rw [e]
      exact .inl ⟨by simp, by simp, by simp⟩
    · have g1 := st2_ok (b := b) (i := i) (by omega) 0 0
      have e2 : s2 b p = ⟨((i + 2 : Nat) : Int), 0, 0⟩ := by unfold s2; rw [h1]; exact g1.1
      by_cases hi4 : b.length < i + 4
      · have e3 : s3 b p = ⟨0, 4, b.length⟩ := by unfold s3; rw [e2]; exact st2_short (by omega) (by omega) 0
        have e : s6 b p = ⟨0, 4, b.length⟩ := by
          unfold s6 s5 s4
          rw [e3, st4_bad b0, st2_bad b0, stD_bad b0]
        rw [e]
        exact .inl ⟨by simp, by simp, by simp⟩
      · obtain ⟨e3, _, hT, hC⟩ := ques_ok hR (by omega)
        by_cases hi8 : b.length < i + 8
        · have e4 : s4 b p = ⟨0, 4, b.length⟩ := by unfold s4; rw [e3]; exact st4_short (by omega) (by omega) 0
          have e : s6 b p = ⟨0, 4, b.length⟩ := by
            unfold s6 s5
            rw [e4, st2_bad b0, stD_bad b0]
          rw [e]
          exact .inl ⟨by simp, by simp, by simp⟩
        · have g4 := st4_ok (b := b) (i := i + 4) (by omega) 0 0
          have e4 : s4 b p = ⟨((i + 8 : Nat) : Int), 0, 0⟩ := by unfold s4; rw [e3]; exact g4.1
          by_cases hi10 : b.length < i + 10
          · have e5 : s5 b p = ⟨0, 4, b.length⟩ := by unfold s5; rw [e4]; exact st2_short (by omega) (by omega) 0
            have e : s6 b p = ⟨0, 4, b.length⟩ := by
              unfold s6
              rw [e5, stD_bad b0]
            rw [e]
            exact .inl ⟨by simp, by simp, by simp⟩
          · rcases hr : rdR b ((i + 10 : Nat) : Int) (rZ b p) (rT b p) with L | ⟨c, a⟩
            · obtain ⟨e6, eD⟩ := data_ok hR (by omega) hr
              obtain ⟨t0, t1, hf, hlen, _, hz0, hzl, _⟩ := rdR_ok hr
              have hT2 : 0 ≤ rT b p ∧ rT b p ≤ 65535 := vl2_lt b _
              have hC2 : 0 ≤ rC b p ∧ rC b p ≤ 65535 := vl2_lt b _
              have hL4 : 0 ≤ rL b p := by
                unfold rL vl4
                split
                · decide
                · unfold getF
                  split
                  · unfold nAt4 num4
                    have hg : ∀ k, 0 ≤ (iz b).getD k 0 := fun k => by
                      rcases Nat.lt_or_ge k b.length with hk | hk
                      · rw [iz_get b k hk]; omega
                      · rw [List.getD, List.getElem?_eq_none (by rw [iz_len]; exact hk)]; decide
                    have := hg; 
                    have a1 := hg (s3 b p).a.toNat
                    have a2 := hg ((s3 b p).a.toNat + 1)
                    have a3 := hg ((s3 b p).a.toNat + 2)
                    have a4 := hg ((s3 b p).a.toNat + 3)
                    omega
                  · decide
              have hsp : (spl (rT b p) (rD b p)).code = 0 := by
                rw [eD, spl_of t0 t1 (by omega) hf]; rfl
              have hak : askE (rN b p) (rT b p) (rC b p) = 0 := by unfold askE; rw [hN, if_neg (by simpa using hch), if_neg (by omega)]
              have hck : chkC ⟨rN b p, rT b p, rC b p, ttlR (rL b p), rD b p⟩ = 0 := by
                unfold chkC
                simp only
                rw [if_neg (by simpa using hak), if_neg (by unfold ttlR; split <;> omega)]
                exact hsp
              have hwr : wrap64 (((i + 10 : Nat) : Int) + rZ b p) = ((i + 10 : Nat) : Int) + rZ b p := IntWalk.wrap64_in _ ⟨by omega, by omega⟩
              rw [hwr] at e6
              refine .inr ⟨by rw [e6], by rw [e3], hck, ?_, ?_, ?_, ?_, ?_⟩
              · rw [e6]; show (p : Int) < ((i + 10 : Nat) : Int) + rZ b p; omega
              · rw [e6]; show ((i + 10 : Nat) : Int) + rZ b p ≤ (b.length : Int); omega
              · rw [e6, e3]; show ((i + 4 : Nat) : Int) < ((i + 10 : Nat) : Int) + rZ b p; omega
              · rw [hN]; exact (chk_pos hch).2
              · rw [eD]; omega
            · obtain ⟨e6, e7⟩ := data_no hR (by omega) hr
              obtain ⟨hp2, hc2⟩ := rdR_bad hr
              exact .inl ⟨by rw [e6]; exact hc2, by rw [e7]; omega, by rw [e7]; omega⟩
  · have e1 : s1 b p = ⟨(rda b p).2.1, (rda b p).2.2.1, (rda b p).2.2.2⟩ := by unfold s1 stN; rw [if_neg (by simp)]
    have hne : (s1 b p).e ≠ 0 := by rw [e1]; exact h0
    have e : s6 b p = s1 b p := by
      unfold s6 s5 s4 s3 s2
      rw [st2_bad hne, st2_bad hne, st4_bad hne, st2_bad hne, stD_bad hne]
    rw [e]
    refine .inl ⟨hne, ?_, ?_⟩
    · rw [e1]; show (0 : Int) ≤ ((rda b p).2.2.2 : Nat); omega
    · rw [e1]; show (((rda b p).2.2.2 : Nat) : Int) ≤ _; omega
end Go.Proofs.YtdikgjbpjdnodaaGreat
