/-
  Write.
-/
import Derived.Test.YteegekpanadmkaaGreatV04
import Derived.Test.YteegekpanadmkaaGreatV02
import Derived.Deep.Slices
import Derived.Deep.LoopGhost
import Derived.ChangeArms
import Derived.Outline
import Derived.Maps.AppendAt
import Derived.Test.YteegekpanadmkaaGreatV01
import Derived.Laws.OwnMore
namespace Go.Proofs.YteegekpanadmkaaGreat
open Go.RowKit Go.Shelf
set_option linter.unusedVariables false
set_option linter.unusedSimpArgs false
set_option maxRecDepth 100000

structure Wk (w wr : World) (p bm B0 : Nat) (vl vb : Value) (L : List Pc) (acc : List UInt8) (K : KK) (e : Nat) : Prop where
  rp : OwnP wr w.heap.size vl L
  lo : ∀ b, vl.ownBlock = some b → b < B0
  rb : OwnB wr B0 vb acc
  pk : Pk wr p bm K e
  has : Aside (fun b => b = p ∨ b = bm) w wr
  size : B0 ≤ wr.heap.size
  base : w.heap.size ≤ B0
  hp : p < w.heap.size
  hm : bm < w.heap.size

section
variable {w wr w' : World} {p bm B0 e : Nat} {vl vb : Value} {L : List Pc} {acc : List UInt8} {K : KK}
theorem Wk.later (h : Wk w wr p bm B0 vl vb L acc K e) (hb : Below wr.heap.size wr w') : Wk w w' p bm B0 vl vb L acc K e :=
  ⟨h.rp.below hb, h.lo, h.rb.below hb, h.pk.later hb, h.has.trans (Aside.of_all hb), Nat.le_trans h.size hb.size, h.base, h.hp, h.hm⟩
theorem Wk.name {K' : KK} {e' : Nat} (h : Wk w wr p bm B0 vl vb L acc K e) (ha : Aside (fun b => b = p ∨ b = bm) wr w') (hk : Pk w' p bm K' e') : Wk w w' p bm B0 vl vb L acc K' e' := by
  have h1 := h.hp
  have h2 := h.hm
  have h3 := h.base
  refine ⟨h.rp.aside ha fun b hb hg => ?_, h.lo, h.rb.aside ha fun b hb hg => ?_, hk, h.has.trans ha, Nat.le_trans h.size ha.size, h3, h1, h2⟩
  · have := (h.rp.lt b hb).1; omega
  · have := (h.rb.lt b hb).1; omega
theorem Wk.app (h : Wk w wr p bm B0 vl vb L acc K e) {xv : Value} {l' : List UInt8} {lo hi : Nat} (hx : Sl wr lo hi xv (iz l')) (hb : acc.length + l'.length ≤ 1000000) :
    ∃ a' c' w', (Builtin.append_ #[28, 28] 28 #[vb, xv]).run Tryz.prog wr = .ok (.slice a' (acc.length + l'.length) c') w' ∧ Wk w w' p bm B0 vl (.slice a' (acc.length + l'.length) c') L (acc ++ l') K e := by
  obtain ⟨a', c', w', h1, h2, ha⟩ := run_appBs B0 vb xv acc l' h.rb hx hb h.size
  have hlt := h.rb.lt
  have g1 := h.hp
  have g2 := h.hm
  have g3 := h.base
  refine ⟨a', c', w', h1, h.rp.aside ha fun b hb hg => by have := h.lo b hb; have := (hlt b hg).1; omega, h.lo, h2, h.pk.aside ha (fun hg => by have := (hlt p hg).1; omega) (fun hg => by have := (hlt bm hg).1; omega), ?_, Nat.le_trans h.size ha.size, g3, g1, g2⟩
  have ha2 : Aside (fun b => w.heap.size ≤ b) wr w' := ha.mono fun b _ hg => by have := (hlt b hg).1; omega
  exact ⟨ha2.os.trans h.has.os, ha2.tape.trans h.has.tape, ha2.output.trans h.has.output, Nat.le_trans h.has.size ha2.size, fun b hb hg => (ha2.block b (Nat.lt_of_lt_of_le hb h.has.size) (by omega)).trans (h.has.block b hb hg)⟩
end

def WrPost (w : World) (p bm : Nat) (R : WR) (x : Ending) (w' : World) : Prop :=
  ∃ v, x = .returned (.tuple #[v, .int .i64 R.code]) ∧ OwnB w' w.heap.size v R.out ∧ Pk w' p bm R.K R.e ∧ Aside (fun b => b = p ∨ b = bm) w w'

theorem fits_nam {ks : List PK} {L : List Pc} (h : Fits ks L) : ∀ x ∈ L, x.2 = true → chk x.1 = 0 := by
  induction h with
  | nil => simp
  | fix h h2 ih => intro x hx hf; rcases List.mem_cons.mp hx with rfl | hx; cases hf; exact ih x hx hf
  | nam h h2 ih => intro x hx hf; rcases List.mem_cons.mp hx with rfl | hx; exact h; exact ih x hx hf
  | txt h => intro x hx hf; obtain rfl := List.mem_singleton.mp hx; cases hf
  | rst => intro x hx hf; obtain rfl := List.mem_singleton.mp hx; cases hf

set_option maxHeartbeats 8000000 in
theorem write_any {w : World} {p bm e : Nat} {K : KK} (h : Pk w p bm K e) (hG : GoodK K) (hK : K.length ≤ 800000) (he : e ≤ 900000) (a t : Int) (d : List UInt8) (hd : d.length ≤ 1000000) :
    Calls Tryz.prog 161 #[.pointer (some ⟨p, 0, none⟩), .int .i64 a, .int .i64 t, .string (bs d)] w (WrPost w p bm (wrR a t d K e)) := by
  have HM := Lib.hid (pmade_any h hG (by omega) (by omega))
  have hpl := h.lt
  have hml := h.map.lt
  rcases hR : spl t d with L | ⟨c, aa⟩
  · have eR : wrR a t d K e = wrL a L K e [] := by unfold wrR; rw [hR]
    rw [eR]
    have HS := Lib.hid (fun wx => split_ok hR hd wx)
    obtain ⟨_, _, hd6, hf, hj⟩ := spl_ok hR
    have hfl := fits_len hf
    have hk3 := (kinds_small t).1
    have HP := Lib.hid (fun k (h : k < L.length) => show L[k].1.length ≤ 65535 from by
      have h1 := joined_take h
      have h2 := joined_part L (k + 1)
      rw [h1, List.length_append, hj] at h2
      omega)
    have HNM := Lib.hid (fun k (h : k < L.length) (h2 : L[k].2 = true) => fits_nam hf L[k] (List.getElem_mem h) h2)
    obtain ⟨X, hX⟩ : ∃ X, wrL a L K e [] = X := ⟨_, rfl⟩
    rw [hX]
    have HX := Lib.hid hX
    obtain ⟨n, hn⟩ : ∃ n, L.length = n := ⟨_, rfl⟩
    have HN := Lib.hid hn
    have hn3 : n ≤ 3 := by omega
    clear hR eR hf hj hfl hk3 hd6 hn hX h
    go_enter Tryz.func161, Tryz.ntmps161
    go_wp2_with fail
    refine HM.out.mono ?_; rintro e0 w1 ⟨rfl, hpk1, ha1⟩
    have HP1 := Lib.hid (And.intro hpk1 ha1)
    clear hpk1 ha1
    go_wp2_with fail
    refine (HS.out w1).mono ?_; rintro e0 w2 ⟨vl, rfl, hown, hb2⟩
    have HWk : Hid (Wk w w2 p bm w2.heap.size vl (.slice none 0 0) L [] K e) := ⟨hown.mono HP1.out.2.size, fun b hb => (hown.lt b hb).2, OwnB.nil _ _, HP1.out.1.later hb2, HP1.out.2.trans (Aside.of_all hb2), Nat.le_refl _, Nat.le_trans HP1.out.2.size hb2.size, hpl, hml⟩
    obtain ⟨al, cl, rfl⟩ := hown.shape
    rw [HN.out] at HWk ⊢
    obtain ⟨B0, hB0⟩ : ∃ B0, w2.heap.size = B0 := ⟨_, rfl⟩
    rw [hB0] at HWk
    clear hown hb2 hB0 HP1 HM
    go_wp2_with fail
    go_loopg [12, 30] n (fun g v12 v30 wr => ∃ (k z : Nat) (acc : List UInt8) (K' : KK) (e' : Nat) (ab : Option Addr) (cb : Nat), k + g = n ∧ v30 = .int .i64 k ∧ v12 = .slice ab z cb ∧ acc.length = z ∧ z ≤ 65535 * k ∧ K'.length ≤ K.length + 127 * k ∧ e' ≤ 1000000 ∧ Hid (Wk w wr p bm B0 (.slice al n cl) (.slice ab z cb) L acc K' e') ∧ Hid (GoodK K') ∧ Hid (wrL a (L.drop k) K' e' acc = X))
    case atStart => exact ⟨0, 0, [], K, e, none, 0, by omega, rfl, rfl, rfl, by omega, by omega, by omega, HWk, hG, HX⟩
    case round =>
      obtain ⟨k, z, acc, K', e', ab, cb, hk, rfl, rfl, hz, hzl, hKl, hel, HW, HGk, HXk⟩ := hrel
      clear HWk
      by_cases hlt0 : k < n
      · have hlt : k < L.length := by have := HN.out; omega
        obtain ⟨g0, c0, he0, hc0, hc1⟩ := OwnP.at_ HW.out.rp k hlt
        injection he0 with he1 he2 he3
        subst he1
        subst he3
        have hxl := HP.out k hlt
        have hst := HXk.out
        rw [List.drop_eq_getElem_cons hlt, wrL] at hst
        obtain ⟨x, hx⟩ : ∃ x, L[k].1 = x := ⟨_, rfl⟩
        obtain ⟨f, hf⟩ : ∃ f, L[k].2 = f := ⟨_, rfl⟩
        rw [hx] at hc0 hxl hst
        rw [hf] at hc1 hst
        rw [hz] at hst
        have hal : Below wr.heap.size wr (wr.alloc (.cells #[.string (bs x), .bool f] 212)) := (Below.refl _ _).alloc (Nat.le_refl _) _
        obtain ⟨cap, W, hcv, ho, hbW, hltW⟩ := conv_B (wr.alloc (.cells #[.string (bs x), .bool f] 212)) x (by omega)
        have hsz : (wr.alloc (.cells #[.string (bs x), .bool f] 212)).heap.size = wr.heap.size + 1 := World.size_alloc _ _
        rw [hsz] at hcv ho hbW hltW
        have d0 : W.cell? ⟨wr.heap.size, 0, none⟩ = some (.string (bs x)) := (hbW.cell (p := ⟨wr.heap.size, 0, none⟩) (Nat.lt_succ_self _)).trans (by simp [go_sem])
        have d1 : W.cell? ⟨wr.heap.size, 1, none⟩ = some (.bool f) := (hbW.cell (p := ⟨wr.heap.size, 1, none⟩) (Nat.lt_succ_self _)).trans (by simp [go_sem])
        have HWW := Lib.hid ((HW.out.later hal).later (by rw [hsz]; exact hbW))
        have HO := Lib.hid ho
        have hnm := fun h => HNM.out k hlt h
        rw [hf, hx] at hnm
        clear hx hf hal ho hbW hltW he2 hsz
        cases f with
        | false =>
          rw [if_neg (by simp)] at hst
          have HST := Lib.hid hst
          obtain ⟨l2, hl2⟩ : ∃ l2, x.length = l2 := ⟨_, rfl⟩
          obtain ⟨a3, c3, w3, hr3, hk3⟩ := HWW.out.app HO.out.sl (by omega)
          rw [hz, hl2] at hr3 hk3
          have HR3 := Lib.hid hr3
          have HK3 := Lib.hid hk3
          have hzl2 : z + l2 ≤ 65535 * (k + 1) := by omega
          have hlen : (acc ++ x).length = z + l2 := by rw [List.length_append, hz, hl2]
          rw [hl2] at hcv
          clear hr3 hk3 hst hl2 HO
          go_wp2_with (at_builtin; refine wpList_append_run (.tmp 53) (.tmp 54) 28 28 rfl rfl rfl rfl HR3.out ?_)
          go_roundg (n - (k + 1))
          case measure => omega
          case rel => exact ⟨k + 1, z + l2, acc ++ x, K', e', a3, c3, by omega, by go_num, by simp, hlen, hzl2, by omega, hel, HK3, HGk, HST⟩
        | true =>
          rw [if_pos rfl] at hst
          have hx255 := (chk_pos (hnm rfl)).2
          have hnb := nameB_len (e := e') (a := wrap64 (a + z)) (n := x) HGk.out
          have hnk := nameK_good (e := e') (a := wrap64 (a + z)) (n := x) HGk.out
          have HNm0 := name_any HWW.out.pk HGk.out (by omega) (by omega) (wrap64 (a + z)) x (by omega)
          obtain ⟨q, hq⟩ : ∃ q, wrap64 (a + z) = q := ⟨_, rfl⟩
          rw [hq] at hst hnb hnk HNm0
          by_cases hE : pkE e' q x = 0
          · rw [if_neg (by simpa using hE)] at hst
            have HST := Lib.hid hst
            obtain ⟨T, hT⟩ : ∃ T, nameB K' e' q x = T := ⟨_, rfl⟩
            obtain ⟨K2, hK2⟩ : ∃ K2, nameK K' e' q x = K2 := ⟨_, rfl⟩
            obtain ⟨e2, he2⟩ : ∃ e2, nameE K' e' q x = e2 := ⟨_, rfl⟩
            rw [hT, hK2, he2] at HST
            have HNm : Hid (Calls Tryz.prog 130 #[.pointer (some ⟨p, 0, none⟩), .int .i64 q, .string (bs x)] W fun y w' => ∃ v, y = .returned (.tuple #[v, .int .i64 0]) ∧ OwnB w' W.heap.size v T ∧ Pk w' p bm K2 e2 ∧ Aside (fun b => b = p ∨ b = bm) W w') := by
              refine HNm0.mono ?_
              rintro y w' ⟨v, rfl, g1, g2, g3⟩
              rw [hE]
              rw [hT] at g1
              rw [hK2, he2] at g2
              exact ⟨v, rfl, g1, g2, g3⟩
            rw [hT] at hnb
            rw [hK2, he2] at hnk
            clear hst HNm0 hT hK2 he2 hE hnm
            go_wp2_with fail
            rw [hq]
            refine HNm.out.mono ?_; rintro e0 w3 ⟨v3, rfl, ho3, hpk3, ha3⟩
            have HK3 := HWW.out.name ha3 hpk3
            obtain ⟨l2, hl2⟩ : ∃ l2, T.length = l2 := ⟨_, rfl⟩
            obtain ⟨a4, c4, w4, hr4, hk4⟩ := HK3.app ho3.sl (by omega)
            obtain ⟨a5, c5, rfl⟩ := ho3.shape
            rw [hz, hl2] at hr4 hk4
            rw [hl2] at hnb ⊢
            have HR4 := Lib.hid hr4
            have HK4 := Lib.hid hk4
            have hzl2 : z + l2 ≤ 65535 * (k + 1) := by omega
            have hlen : (acc ++ T).length = z + l2 := by rw [List.length_append, hz, hl2]
            have hG2 := Lib.hid hnk.1
            clear hr4 hk4 hl2 HO ho3 hpk3 ha3 HK3 hq
            go_wp2_with (at_builtin; refine wpList_append_run (.tmp 53) (.tmp 54) 28 28 rfl rfl rfl rfl HR4.out ?_)
            go_roundg (n - (k + 1))
            case measure => omega
            case rel => exact ⟨k + 1, z + l2, acc ++ T, K2, e2, a4, c4, by omega, by go_num, by simp, hlen, hzl2, by omega, by omega, HK4, hG2, HST⟩
          · rw [if_pos (by simpa using hE)] at hst
            have HST := Lib.hid hst
            have hnk0 : nameK K' e' q x = K' ∧ nameE K' e' q x = e' := by unfold nameK nameE; rw [if_neg hE, if_neg hE]; exact ⟨rfl, rfl⟩
            obtain ⟨cc, hcc⟩ : ∃ cc, pkE e' q x = cc := ⟨_, rfl⟩
            rw [hcc] at HST hE
            have HNm : Hid (Calls Tryz.prog 130 #[.pointer (some ⟨p, 0, none⟩), .int .i64 q, .string (bs x)] W fun y w' => ∃ v, y = .returned (.tuple #[v, .int .i64 cc]) ∧ Pk w' p bm K' e' ∧ Aside (fun b => b = p ∨ b = bm) W w') := by
              refine HNm0.mono ?_
              rintro y w' ⟨v, rfl, _, g2, g3⟩
              rw [hcc]
              rw [hnk0.1, hnk0.2] at g2
              exact ⟨v, rfl, g2, g3⟩
            have tc : (cc != 0) = true := by simpa using hE
            clear hst HNm0 hcc hE hnm hnk0 hnk hnb
            go_wp2_with fail
            rw [hq]
            refine HNm.out.mono ?_; rintro e0 w3 ⟨v3, rfl, hpk3, ha3⟩
            have HK3 := Lib.hid (HWW.out.name ha3 hpk3)
            clear hpk3 ha3 hq
            go_wp2_with fail
            go_ret2
            rw [← HST.out]
            exact ⟨_, rfl, OwnB.nil _ _, HK3.out.pk, HK3.out.has⟩
      · have hXe : wrL a [] K' e' acc = X := by have h := HXk.out; rw [List.drop_eq_nil_of_le (by have := HN.out; omega)] at h; exact h
        have HXe := Lib.hid hXe
        clear hXe
        go_wp2_with fail
        go_ret2
        rw [← HXe.out]
        have hh := HW.out
        exact ⟨_, rfl, hh.rb.mono hh.base, hh.pk, hh.has⟩
  · have eR : wrR a t d K e = ⟨[], c, K, e⟩ := by unfold wrR; rw [hR]
    rw [eR]
    have HS := Lib.hid (fun wx => split_bad hR hd wx)
    have tc : (c != 0) = true := by simpa using code_bad hR
    clear hR eR h
    go_enter Tryz.func161, Tryz.ntmps161
    go_wp2_with fail
    refine HM.out.mono ?_; rintro e0 w1 ⟨rfl, hpk1, ha1⟩
    have HP1 := Lib.hid (And.intro hpk1 ha1)
    clear hpk1 ha1
    go_wp2_with fail
    refine (HS.out w1).mono ?_; rintro e0 w2 ⟨vl, rfl, hb2⟩
    have HP2 := Lib.hid (And.intro (HP1.out.1.later hb2) (HP1.out.2.trans (Aside.of_all hb2)))
    clear hb2
    go_wp2_with fail
    go_ret2
    exact ⟨_, rfl, OwnB.nil _ _, HP2.out⟩
end Go.Proofs.YteegekpanadmkaaGreat

/-
  Numbers as bytes; whether a packer was made; a question's bytes.
-/
namespace Go.Proofs.YteegekpanadmkaaGreat
open Go.RowKit Go.Shelf
set_option linter.unusedVariables false
set_option linter.unusedSimpArgs false
set_option maxRecDepth 100000

def two (n : Int) : List UInt8 := [UInt8.ofNat (n.toNat / 256), UInt8.ofNat (n.toNat % 256)]
def four (n : Int) : List UInt8 := [UInt8.ofNat (n.toNat / 16777216), UInt8.ofNat (n.toNat / 65536 % 256), UInt8.ofNat (n.toNat / 256 % 256), UInt8.ofNat (n.toNat % 256)]

theorem iz_two (n : Int) (h0 : 0 ≤ n) (h1 : n ≤ 65535) : iz (two n) = putL2 n := by
  unfold putL2 two iz
  rw [if_pos ⟨h0, h1⟩]
  simp only [List.map_cons, List.map_nil, UInt8.toNat_ofNat']
  congr 1
  · omega
  · congr 1; omega

theorem iz_four (n : Int) (h0 : 0 ≤ n) (h1 : n ≤ 4294967295) : iz (four n) = putL4 n := by
  unfold putL4 four iz
  rw [if_pos ⟨h0, h1⟩]
  simp only [List.map_cons, List.map_nil, UInt8.toNat_ofNat']
  congr 1
  · omega
  · congr 1
    · omega
    · congr 1
      · omega
      · congr 1; omega

theorem sl_keep {w w' : World} {v : Value} {l : List Int} (h : Sl w 0 w.heap.size v l) (hb : Below w.heap.size w w') : Sl w' 0 w'.heap.size v l := (h.below hb (Nat.le_refl _)).wide (Nat.le_refl _) hb.size

theorem two_any (n : Int) (h0 : 0 ≤ n) (h1 : n ≤ 65535) (w : World) : Calls Tryz.prog 132 #[.int .i64 n] w fun e w' => ∃ a c, e = .returned (.slice a 2 c) ∧ Sl w' 0 w'.heap.size (.slice a 2 c) (iz (two n)) ∧ Below w.heap.size w w' := by
  have HP : Hid (Calls Tryz.prog 73 #[.int .i64 n] w fun e w' => ∃ a c, e = .returned (.tuple #[.slice a 2 c, .int .i64 (putE 65535 n)]) ∧ Sl w' 0 w'.heap.size (.slice a 2 c) (iz (two n)) ∧ Below w.heap.size w w') := by
    refine (put16_any n w).mono ?_
    rintro e w' ⟨v, g, rfl, ho, _, _, hb⟩
    rw [← iz_two n h0 h1] at ho
    have hs := ho.sl.top
    obtain ⟨a, c, rfl, _⟩ := id hs
    exact ⟨a, c, rfl, hs, hb⟩
  obtain ⟨E, hE⟩ : ∃ E, putE 65535 n = E := ⟨_, rfl⟩
  rw [hE] at HP
  clear hE
  go_enter Tryz.func132, Tryz.ntmps132
  go_wp2_with fail
  refine HP.out.mono ?_; rintro e w1 ⟨a, c, rfl, hs, hb⟩
  have HQ := Lib.hid (And.intro hs hb)
  clear hs hb
  go_wp2_with fail
  go_ret
  exact ⟨a, c, rfl, HQ.out⟩

theorem four_any (n : Int) (h0 : 0 ≤ n) (h1 : n ≤ 4294967295) (w : World) : Calls Tryz.prog 162 #[.int .i64 n] w fun e w' => ∃ a c, e = .returned (.slice a 4 c) ∧ Sl w' 0 w'.heap.size (.slice a 4 c) (iz (four n)) ∧ Below w.heap.size w w' := by
  have HP : Hid (Calls Tryz.prog 168 #[.int .i64 n] w fun e w' => ∃ a c, e = .returned (.tuple #[.slice a 4 c, .int .i64 (putE 4294967295 n)]) ∧ Sl w' 0 w'.heap.size (.slice a 4 c) (iz (four n)) ∧ Below w.heap.size w w') := by
    refine (put32_any n w).mono ?_
    rintro e w' ⟨v, g, rfl, ho, _, _, hb⟩
    rw [← iz_four n h0 h1] at ho
    have hs := ho.sl.top
    obtain ⟨a, c, rfl, _⟩ := id hs
    exact ⟨a, c, rfl, hs, hb⟩
  obtain ⟨E, hE⟩ : ∃ E, putE 4294967295 n = E := ⟨_, rfl⟩
  rw [hE] at HP
  clear hE
  go_enter Tryz.func162, Tryz.ntmps162
  go_wp2_with fail
  refine HP.out.mono ?_; rintro e w1 ⟨a, c, rfl, hs, hb⟩
  have HQ := Lib.hid (And.intro hs hb)
  clear hs hb
  go_wp2_with fail
  go_ret
  exact ⟨a, c, rfl, HQ.out⟩

theorem made_any {w : World} {p bm e : Nat} {K : KK} (h : Pk w p bm K e) (hG : GoodK K) (hK : K.length ≤ 900000) (he : e ≤ 1000000) : Calls Tryz.prog 128 #[.pointer (some ⟨p, 0, none⟩)] w fun x w' => x = .returned (.bool true) ∧ Pk w' p bm K e ∧ Aside (fun b => b = p ∨ b = bm) w w' := by
  have hE : pkE e 0 [] = 4 := by unfold pkE; rw [if_pos (by rw [chk_nil]; decide), chk_nil]
  have HN : Hid (Calls Tryz.prog 130 #[.pointer (some ⟨p, 0, none⟩), .int .i64 0, .string ⟨#[]⟩] w fun x w' => ∃ v, x = .returned (.tuple #[v, .int .i64 4]) ∧ Pk w' p bm K e ∧ Aside (fun b => b = p ∨ b = bm) w w') := by
    refine (show Calls Tryz.prog _ #[.pointer (some ⟨p, 0, none⟩), .int .i64 0, .string ⟨#[]⟩] w _ from name_any h hG hK he 0 [] (by simp)).mono ?_
    rintro x w' ⟨v, rfl, _, hp, ha⟩
    unfold nameK nameE at hp
    rw [hE, if_neg (by decide), if_neg (by decide)] at hp
    exact ⟨v, by rw [hE], hp, ha⟩
  clear h hE
  go_enter Tryz.func128, Tryz.ntmps128
  go_wp2_with fail
  refine HN.out.mono ?_; rintro e w1 ⟨v, rfl, hp, ha⟩
  have HP := Lib.hid (And.intro hp ha)
  clear hp ha
  go_wp2_with fail
  go_ret
  exact ⟨rfl, HP.out⟩

def askW (a : Int) (n : List UInt8) (t c : Int) (K : KK) (e : Nat) : WR :=
  if askE n t c ≠ 0 then ⟨[], askE n t c, K, e⟩ else if pkE e a n ≠ 0 then ⟨[], pkE e a n, K, e⟩ else ⟨nameB K e a n ++ (two t ++ two c), 0, nameK K e a n, nameE K e a n⟩

theorem askE_ok {n : List UInt8} {t c : Int} (h : askE n t c = 0) : chk n = 0 ∧ 0 ≤ t ∧ t ≤ 65535 ∧ 0 ≤ c ∧ c ≤ 65535 := by
  unfold askE at h
  split at h
  · rename_i h1; exact absurd h h1
  · rename_i h1
    split at h
    · exact absurd h (by decide)
    · exact ⟨by simpa using h1, by omega, by omega, by omega, by omega⟩

theorem cel_new3 (w : World) (a b c : Value) (T : TypeId) : Cel (w.alloc (.cells #[a, b, c] T)) w.heap.size [a, b, c] := ⟨fun j hj => by
    match j, hj with
    | 0, _ => simp [go_sem]
    | 1, _ => simp [go_sem]
    | 2, _ => simp [go_sem], fun j => by simp [go_sem]⟩

set_option maxHeartbeats 8000000 in
theorem askC_any {w : World} {p bm e : Nat} {K : KK} (h : Pk w p bm K e) (hG : GoodK K) (hK : K.length ≤ 800000) (he : e ≤ 900000) (a : Int) (n : List UInt8) (hn : n.length ≤ 1000000) (t c : Int) :
    Calls Tryz.prog 124 #[.pointer (some ⟨p, 0, none⟩), .int .i64 a, .agg #[.string (bs n), .int .i64 t, .int .i64 c]] w (WrPost w p bm (askW a n t c K e)) := by
  obtain ⟨W0, hW0⟩ : ∃ W0, w.alloc (.cells #[.string (bs n), .int .i64 t, .int .i64 c] 56) = W0 := ⟨_, rfl⟩
  have hb0 : Below w.heap.size w W0 := by rw [← hW0]; exact (Below.refl _ _).alloc (Nat.le_refl _) _
  have hx : Cel W0 w.heap.size [.string (bs n), .int .i64 t, .int .i64 c] := by rw [← hW0]; exact cel_new3 w _ _ _ _
  have HM := Lib.hid (made_any (h.later hb0) hG (by omega) (by omega))
  have hpl := h.lt
  have hml := h.map.lt
  have HA0 := Lib.hid (Aside.of_all hb0 : Aside (fun b => b = p ∨ b = bm) w W0)
  have HAk := Lib.hid (fun wx => ask_any n hn t c wx)
  obtain ⟨g, hg⟩ : ∃ g, w.heap.size = g := ⟨_, rfl⟩
  have HX := Lib.hid hx
  rw [hg] at HX
  have hgp : ¬ (g = p ∨ g = bm) := by omega
  clear h hx hb0
  obtain ⟨X, hX⟩ : ∃ X, askW a n t c K e = X := ⟨_, rfl⟩
  rw [hX]
  have HXv := Lib.hid hX
  clear hX
  by_cases hA : askE n t c = 0
  · obtain ⟨hch, ht0, ht1, hc0, hc1⟩ := askE_ok hA
    have hn255 := (chk_pos hch).2
    have HNm := Lib.hid (fun (wx : World) (hp : Pk wx p bm K e) => name_any hp hG (by omega) (by omega) a n (by omega))
    unfold NamePost at HNm
    rw [hA] at HAk
    unfold askW at HXv
    rw [if_neg (by simpa using hA)] at HXv
    have hnb := (nameB_len (e := e) (a := a) (n := n) hG).1
    obtain ⟨E, hE⟩ : ∃ E, pkE e a n = E := ⟨_, rfl⟩
    obtain ⟨T, hT⟩ : ∃ T, nameB K e a n = T := ⟨_, rfl⟩
    obtain ⟨K2, hK2⟩ : ∃ K2, nameK K e a n = K2 := ⟨_, rfl⟩
    obtain ⟨e2, he2⟩ : ∃ e2, nameE K e a n = e2 := ⟨_, rfl⟩
    rw [hE, hT, hK2, he2] at HNm HXv
    rw [hT] at hnb
    have HT2 := Lib.hid (fun wx => two_any t ht0 ht1 wx)
    have HC2 := Lib.hid (fun wx => two_any c hc0 hc1 wx)
    have hKE : E ≠ 0 → K2 = K ∧ e2 = e := fun hne => by rw [← hK2, ← he2]; unfold nameK nameE; rw [hE, if_neg hne, if_neg hne]; exact ⟨rfl, rfl⟩
    clear hE hT hK2 he2 hA hch ht0 ht1 hc0 hc1 hG hn255
    go_enter Tryz.func124, Tryz.ntmps124
    go_wp2_with fail
    refine HM.out.mono ?_; rintro e0 w1 ⟨rfl, hp1, ha1⟩
    replace HX := Lib.hid (HX.out.aside (by simp) ha1 hgp)
    have HPk := Lib.hid hp1
    have HAs := Lib.hid (HA0.out.trans ha1)
    have c0 : w1.cell? ⟨g, 0, none⟩ = some (.string (bs n)) := HX.out.c 0 (by simp)
    have c1 : w1.cell? ⟨g, 1, none⟩ = some (.int .i64 t) := HX.out.c 1 (by simp)
    have c2 : w1.cell? ⟨g, 2, none⟩ = some (.int .i64 c) := HX.out.c 2 (by simp)
    clear hp1 ha1 HM HA0
    go_wp2_with fail
    refine (HAk.out _).mono ?_; rintro e0 w2 ⟨rfl, hb⟩
    replace HX := Lib.hid (HX.out.below (by simp) hb)
    replace HPk := Lib.hid (HPk.out.later hb)
    replace HAs := Lib.hid (HAs.out.trans (Aside.of_all hb))
    clear hb c0 c1 c2
    have c0 : w2.cell? ⟨g, 0, none⟩ = some (.string (bs n)) := HX.out.c 0 (by simp)
    go_wp2_with fail
    refine (HNm.out _ HPk.out).mono ?_; rintro e0 w3 ⟨v3, rfl, ho, hp3, ha3⟩
    replace HX := Lib.hid (HX.out.aside (by simp) ha3 hgp)
    replace HPk := Lib.hid hp3
    replace HAs := Lib.hid (HAs.out.trans ha3)
    have HS0 := Lib.hid ho.sl.top
    obtain ⟨a0, k0, rfl⟩ := ho.shape
    clear hp3 ha3 ho c0
    by_cases hE0 : E = 0
    · subst hE0
      rw [if_neg (by simp)] at HXv
      have HXD := Lib.hid (Below.refl w3.heap.size w3).drew
      replace HX := Lib.hid (HX.out.below (by simp) HXD.out)
      replace HPk := Lib.hid (HPk.out.later HXD.out)
      replace HAs := Lib.hid (HAs.out.trans (Aside.of_all HXD.out))
      replace HS0 := Lib.hid (sl_keep HS0.out HXD.out)
      clear HXD hKE
      go_wp2_with fail
      refine wp_region_held_drew (S := (fun wx => wx.cell? ⟨g, 1, none⟩ = some (.int .i64 t) ∧ wx.cell? ⟨g, 2, none⟩ = some (.int .i64 c))) (by kernel_rfl) ⟨HX.out.c 1 (by simp), HX.out.c 2 (by simp)⟩ (fun hHeld => ?_)
      refine wpAnyH_take (i := 0) (oi := { dst := some 35, op := Op.move (Operand.tmp 9), type := 28, pos := "rec.go:100", after := #[], guard := none }) (v := ?_) rfl (by kernel_rfl) (by kernel_rfl) (by kernel_rfl) (fun _ _ _ h => h) (Or.inl ⟨by rfl, ?_⟩) (by assumption) ?_
      rotate_left 1
      · intro w hSw; (try dsimp only at hSw); go_simp; try (with_reducible rfl)
      try simp only [Act.put, List.setIfInBounds_toArray, List.set_cons_zero, List.set_cons_succ]
      refine wpAnyH_take (i := 1) (oi := { dst := some 36, op := Op.fieldAddr 56 (Operand.tmp 5) 1, type := 0, pos := "rec.go:100", after := #[], guard := none }) (v := ?_) rfl (by kernel_rfl) (by kernel_rfl) (by kernel_rfl) (fun _ _ _ h => h) (Or.inl ⟨by rfl, ?_⟩) (by assumption) ?_
      rotate_left 1
      · intro w hSw; (try dsimp only at hSw); go_simp; try (with_reducible rfl)
      try simp only [Act.put, List.setIfInBounds_toArray, List.set_cons_zero, List.set_cons_succ]
      refine wpAnyH_take (i := 2) (oi := { dst := some 37, op := Op.load 3 (Operand.tmp 36), type := 3, pos := "rec.go:100", after := #[{ on := 1, ground := Ground.data }], guard := none }) (v := ?_) rfl (by kernel_rfl) (by kernel_rfl) (by kernel_rfl) (fun _ _ _ h => h) (Or.inl ⟨by rfl, ?_⟩) (by assumption) ?_
      rotate_left 1
      · intro w hSw; (try dsimp only at hSw); go_simp; try (with_reducible rfl)
      try simp only [Act.put, List.setIfInBounds_toArray, List.set_cons_zero, List.set_cons_succ]
      refine wpAnyH_take (i := 4) (oi := { dst := some 39, op := Op.fieldAddr 56 (Operand.tmp 5) 2, type := 0, pos := "rec.go:100", after := #[], guard := none }) (v := ?_) rfl (by kernel_rfl) (by kernel_rfl) (by kernel_rfl) (fun _ _ _ h => h) (Or.inl ⟨by rfl, ?_⟩) (by assumption) ?_
      rotate_left 1
      · intro w hSw; (try dsimp only at hSw); go_simp; try (with_reducible rfl)
      try simp only [Act.put, List.setIfInBounds_toArray, List.set_cons_zero, List.set_cons_succ]
      refine wpAnyH_take (i := 5) (oi := { dst := some 40, op := Op.load 3 (Operand.tmp 39), type := 3, pos := "rec.go:100", after := #[{ on := 4, ground := Ground.data }], guard := none }) (v := ?_) rfl (by kernel_rfl) (by kernel_rfl) (by kernel_rfl) (fun _ _ _ h => h) (Or.inl ⟨by rfl, ?_⟩) (by assumption) ?_
      rotate_left 1
      · intro w hSw; (try dsimp only at hSw); go_simp; try (with_reducible rfl)
      try simp only [Act.put, List.setIfInBounds_toArray, List.set_cons_zero, List.set_cons_succ]
      refine wpAnyH_ready (rs := [3]) (by kernel_rfl) (by simp) ?_
      refine AllReadyH.cons (o := { dst := some 38, op := Op.call { callee := Callee.value (Operand.func 132), args := #[Operand.tmp 37], argTypes := #[3] }, type := 28, pos := "rec.go:100", after := #[{ on := 2, ground := Ground.data }], guard := none }) rfl (fun K hK => ?_) (AllReadyH.nil)
      go_simp
      refine (HT2.out _).mono ?_; rintro e0 w4 ⟨a1, k1, rfl, hs1, hb⟩
      have HS1 := Lib.hid hs1
      clear hs1
      replace HX := Lib.hid (HX.out.below (by simp) hb)
      replace HPk := Lib.hid (HPk.out.later hb)
      replace HAs := Lib.hid (HAs.out.trans (Aside.of_all hb))
      replace HS0 := Lib.hid (sl_keep HS0.out hb)
      clear hb
      try go_wp2_with fail
      refine hK.out _ _ ⟨HX.out.c 1 (by simp), HX.out.c 2 (by simp)⟩ (fun hHeld => ?_)
      clear hK K
      try simp only [Act.put, List.setIfInBounds_toArray, List.set_cons_zero, List.set_cons_succ]
      refine wpAnyH_ready (rs := [6]) (by kernel_rfl) (by simp) ?_
      refine AllReadyH.cons (o := { dst := some 41, op := Op.call { callee := Callee.value (Operand.func 132), args := #[Operand.tmp 40], argTypes := #[3] }, type := 28, pos := "rec.go:100", after := #[{ on := 5, ground := Ground.data }, { on := 3, ground := Ground.chain }], guard := none }) rfl (fun K hK => ?_) (AllReadyH.nil)
      go_simp
      refine (HC2.out _).mono ?_; rintro e0 w5 ⟨a2, k2, rfl, hs2, hb⟩
      have HS2 := Lib.hid hs2
      clear hs2
      replace HX := Lib.hid (HX.out.below (by simp) hb)
      replace HPk := Lib.hid (HPk.out.later hb)
      replace HAs := Lib.hid (HAs.out.trans (Aside.of_all hb))
      replace HS0 := Lib.hid (sl_keep HS0.out hb)
      replace HS1 := Lib.hid (sl_keep HS1.out hb)
      clear hb
      try go_wp2_with fail
      refine hK.out _ _ ⟨HX.out.c 1 (by simp), HX.out.c 2 (by simp)⟩ (fun hHeld => ?_)
      clear hK K
      try simp only [Act.put, List.setIfInBounds_toArray, List.set_cons_zero, List.set_cons_succ]
      refine wpAnyH_ready (rs := [7]) (by kernel_rfl) (by simp) ?_
      refine AllReadyH.cons (o := { dst := some 42, op := Op.buildSlice 190 3 #[(0, Operand.tmp 35), (1, Operand.tmp 38), (2, Operand.tmp 41)], type := 190, pos := "rec.go:100", after := #[{ on := 0, ground := Ground.data }, { on := 3, ground := Ground.data }, { on := 6, ground := Ground.data }], guard := none }) rfl (fun K hK => ?_) (AllReadyH.nil)
      go_simp
      have hb : Below w5.heap.size w5 (w5.alloc (.cells #[.slice a0 T.length k0, .slice a1 2 k1, .slice a2 2 k2] 28)) := (Below.refl _ _).alloc (Nat.le_refl _) _
      replace HX := Lib.hid (HX.out.below (by simp) hb)
      replace HPk := Lib.hid (HPk.out.later hb)
      replace HAs := Lib.hid (HAs.out.trans (Aside.of_all hb))
      replace HS0 := Lib.hid (sl_keep HS0.out hb)
      replace HS1 := Lib.hid (sl_keep HS1.out hb)
      replace HS2 := Lib.hid (sl_keep HS2.out hb)
      clear hb
      have HCc := Lib.hid (concat_any (w := (w5.alloc (.cells #[.slice a0 T.length k0, .slice a1 2 k1, .slice a2 2 k2] 28))) (g := w5.heap.size) (lo := 0) (hi := (w5.alloc (.cells #[.slice a0 T.length k0, .slice a1 2 k1, .slice a2 2 k2] 28)).heap.size) (n := 3) (c0 := 3) (ls := [T, two t, two c]) rfl (by decide) (by simp) (Nat.le_refl _) (by simp [two]; omega) (fun j hj => by
        match j, hj with
        | 0, _ => exact ⟨a0, k0, by simp [go_sem], HS0.out⟩
        | 1, _ => exact ⟨a1, k1, by simp [go_sem, two], HS1.out⟩
        | 2, _ => exact ⟨a2, k2, by simp [go_sem, two], HS2.out⟩))
      refine hK.out _ _ ⟨HX.out.c 1 (by simp), HX.out.c 2 (by simp)⟩ (fun hHeld => ?_)
      clear hK K
      try simp only [Act.put, List.setIfInBounds_toArray, List.set_cons_zero, List.set_cons_succ]
      refine wpAnyH_ready (rs := [8]) (by kernel_rfl) (by simp) ?_
      refine AllReadyH.cons (o := { dst := some 43, op := Op.call { callee := Callee.value (Operand.func 131), args := #[Operand.tmp 42], argTypes := #[190] }, type := 28, pos := "rec.go:100", after := #[{ on := 7, ground := Ground.data }, { on := 6, ground := Ground.chain }], guard := none }) rfl (fun K hK => ?_) (AllReadyH.nil)
      go_simp
      refine HCc.out.mono ?_; rintro e0 w6 ⟨v6, rfl, ho, hb⟩
      have HO := Lib.hid ho
      have HAs0 := Lib.hid HAs.out
      clear ho HCc HS0 HS1 HS2
      replace HX := Lib.hid (HX.out.below (by simp) hb)
      replace HPk := Lib.hid (HPk.out.later hb)
      replace HAs := Lib.hid (HAs.out.trans (Aside.of_all hb))
      clear hb
      try go_wp2_with fail
      refine hK.out _ _ ⟨HX.out.c 1 (by simp), HX.out.c 2 (by simp)⟩ (fun hHeld => ?_)
      clear hK K
      try simp only [Act.put, List.setIfInBounds_toArray, List.set_cons_zero, List.set_cons_succ]
      refine wpAnyH_take (i := 9) (oi := { dst := some 6, op := Op.assign (Operand.tmp 43), type := 28, pos := "rec.go:100", after := #[{ on := 8, ground := Ground.data }, { on := 8, ground := Ground.chain }, { on := 0, ground := Ground.phase }, { on := 1, ground := Ground.phase }, { on := 2, ground := Ground.phase }, { on := 3, ground := Ground.phase }, { on := 4, ground := Ground.phase }, { on := 5, ground := Ground.phase }, { on := 6, ground := Ground.phase }, { on := 7, ground := Ground.phase }, { on := 8, ground := Ground.phase }], guard := none }) (v := ?_) rfl (by kernel_rfl) (by kernel_rfl) (by kernel_rfl) (fun _ _ _ h => h) (Or.inl ⟨by rfl, ?_⟩) (by assumption) ?_
      rotate_left 1
      · intro w hSw; (try dsimp only at hSw); go_simp; try (with_reducible rfl)
      try simp only [Act.put, List.setIfInBounds_toArray, List.set_cons_zero, List.set_cons_succ]
      refine wpAnyH_take (i := 10) (oi := { dst := some 7, op := Op.assign (Operand.const (Value.int IntKind.i64 0)), type := 29, pos := "rec.go:100", after := #[{ on := 9, ground := Ground.chain }, { on := 0, ground := Ground.phase }, { on := 1, ground := Ground.phase }, { on := 2, ground := Ground.phase }, { on := 3, ground := Ground.phase }, { on := 4, ground := Ground.phase }, { on := 5, ground := Ground.phase }, { on := 6, ground := Ground.phase }, { on := 7, ground := Ground.phase }, { on := 8, ground := Ground.phase }, { on := 9, ground := Ground.phase }], guard := none }) (v := ?_) rfl (by kernel_rfl) (by kernel_rfl) (by kernel_rfl) (fun _ _ _ h => h) (Or.inl ⟨by rfl, ?_⟩) (by assumption) ?_
      rotate_left 1
      · intro w hSw; (try dsimp only at hSw); go_simp; try (with_reducible rfl)
      try simp only [Act.put, List.setIfInBounds_toArray, List.set_cons_zero, List.set_cons_succ]
      refine wpAnyH_done (by kernel_rfl) ?_ _
      clear hHeld
      go_wp2_with fail
      go_ret2
      rw [← HXv.out]
      exact ⟨_, rfl, HO.out.mono HAs0.out.size, HPk.out, HAs.out⟩
    · have tE : (E != 0) = true := by simpa using hE0
      rw [if_pos hE0] at HXv
      obtain ⟨rfl, rfl⟩ := hKE hE0
      go_wp2_with fail
      go_ret2
      rw [← HXv.out]
      exact ⟨_, rfl, OwnB.nil _ _, HPk.out, HAs.out⟩
  · obtain ⟨E, hE⟩ : ∃ E, askE n t c = E := ⟨_, rfl⟩
    unfold askW at HXv
    rw [hE] at HAk HXv hA
    rw [if_pos hA] at HXv
    have tE : (E != 0) = true := by simpa using hA
    clear hE hA
    go_enter Tryz.func124, Tryz.ntmps124
    go_wp2_with fail
    refine HM.out.mono ?_; rintro e0 w1 ⟨rfl, hp1, ha1⟩
    replace HX := Lib.hid (HX.out.aside (by simp) ha1 hgp)
    have HPk := Lib.hid hp1
    have HAs := Lib.hid (HA0.out.trans ha1)
    have c0 : w1.cell? ⟨g, 0, none⟩ = some (.string (bs n)) := HX.out.c 0 (by simp)
    have c1 : w1.cell? ⟨g, 1, none⟩ = some (.int .i64 t) := HX.out.c 1 (by simp)
    have c2 : w1.cell? ⟨g, 2, none⟩ = some (.int .i64 c) := HX.out.c 2 (by simp)
    clear hp1 ha1 HM HA0
    go_wp2_with fail
    refine (HAk.out _).mono ?_; rintro e0 w2 ⟨rfl, hb⟩
    replace HPk := Lib.hid (HPk.out.later hb)
    replace HAs := Lib.hid (HAs.out.trans (Aside.of_all hb))
    clear hb c0 c1 c2
    go_wp2_with fail
    go_ret2
    rw [← HXv.out]
    exact ⟨_, rfl, OwnB.nil _ _, HPk.out, HAs.out⟩
end Go.Proofs.YteegekpanadmkaaGreat

/-
  Acts that came in: types, places, whether these are places as they are, data.
-/
namespace Go.Proofs.YteegekpanadmkaaGreat
open Go.RowKit Go.Shelf
set_option linter.unusedVariables false
set_option maxRecDepth 100000

structure AQ where
  t : Int
  a : Int
  r : Bool
  d : List UInt8

end Go.Proofs.YteegekpanadmkaaGreat

/-
  What is written is read as it was; plainly.
-/
namespace Go.Proofs.YteegekpanadmkaaGreat
open Go.RowKit Go.Shelf
set_option linter.unusedVariables false
set_option maxRecDepth 100000

theorem toldE_rd {b : List UInt8} {K : KK} {e : Nat} {P : KK} (h : Inv b K e P) {ls : List (List UInt8)} (hs : Shorts ls) :
    ∀ d k, k + d = hdn K ls → ∀ part, b.length ≤ part → StandE (b ++ told K ls) part (b.length + pos ls k) (ls.drop k) (b.length + (told K ls).length) := by
  have hll := hdn_le K ls
  intro d
  induction d with
  | zero =>
    intro k hk part hp
    have hkh : k = hdn K ls := by omega
    subst hkh
    rcases Nat.lt_or_ge (hdn K ls) ls.length with hlt | hge
    · obtain ⟨x, hx⟩ := hdn_stop hlt
      have hx2 := good_lt h.good hx
      have hxe := h.ahead _ (plc_mem hx)
      obtain ⟨p1, p2⟩ := ptr_pb hx2
      have htd : told K ls = wire (ls.take (hdn K ls)) ++ [UInt8.ofNat (192 + x / 256), UInt8.ofNat (x % 256)] := by unfold told restb; rw [hx]; rfl
      have hpl : pos ls (hdn K ls) = (wire (ls.take (hdn K ls))).length := rfl
      have g0 : (b ++ told K ls)[b.length + pos ls (hdn K ls)]? = some (UInt8.ofNat (192 + x / 256)) := by
        rw [htd, List.getElem?_append_right (by omega), Nat.add_sub_cancel_left, hpl, List.getElem?_append_right (Nat.le_refl _), Nat.sub_self]; rfl
      have g1 : (b ++ told K ls)[b.length + pos ls (hdn K ls) + 1]? = some (UInt8.ofNat (x % 256)) := by
        rw [htd, List.getElem?_append_right (by omega), show b.length + pos ls (hdn K ls) + 1 - b.length = pos ls (hdn K ls) + 1 by omega, hpl, List.getElem?_append_right (by omega), show (wire (ls.take (hdn K ls))).length + 1 - (wire (ls.take (hdn K ls))).length = 1 by omega]; rfl
      obtain ⟨i0, g0⟩ := List.getElem?_eq_some_iff.mp g0
      obtain ⟨i1, g1⟩ := List.getElem?_eq_some_iff.mp g1
      have hen : b.length + (told K ls).length = b.length + pos ls (hdn K ls) + 2 := by rw [htd, List.length_append, hpl]; simp; omega
      rw [hen]
      exact .lead (to := x) i1 (by rw [g0]; exact p2) (by rw [g0, g1]; exact p1) (by have := h.last; have : x < e := hxe; omega) ((h.tails _ x (shorts_drop hs _) (plc_mem hx)).more _)
    · have hke : hdn K ls = ls.length := by omega
      have htd : told K ls = wire ls ++ [0] := by
        unfold told restb
        rw [hke, List.take_length, List.drop_length]
        show wire ls ++ (match plc K [0] with | some x => pb x | none => [0]) = _
        rw [good_root h.good]
      rw [hke, List.drop_length]
      have hpl : pos ls ls.length = (wire ls).length := by unfold pos; rw [List.take_length]
      have g0 : (b ++ told K ls)[b.length + pos ls ls.length]? = some 0 := by
        rw [htd, List.getElem?_append_right (by omega), Nat.add_sub_cancel_left, hpl, List.getElem?_append_right (Nat.le_refl _), Nat.sub_self]; rfl
      obtain ⟨i0, g0⟩ := List.getElem?_eq_some_iff.mp g0
      have hen : b.length + (told K ls).length = b.length + pos ls ls.length + 1 := by rw [htd, List.length_append, hpl]; simp; omega
      rw [hen]
      exact .zero i0 (by rw [g0]; rfl)
  | succ d ih =>
    intro k hk part hp
    have hkl : k < ls.length := by omega
    have e : ls.drop k = ls[k] :: ls.drop (k + 1) := List.drop_eq_getElem_cons hkl
    have h63 := hs.1 ls[k] (List.getElem_mem hkl)
    rw [e]
    have hcut : ((b ++ told K ls).drop (b.length + pos ls k)).take (1 + ls[k].length) = wire [ls[k]] := by
      have h1 : ls.take (hdn K ls) = ls.take k ++ (ls[k] :: (ls.drop (k + 1)).take d) := by
        rw [← hk, List.take_add, e, List.take_succ_cons]
      unfold told
      rw [h1, wire_app, List.append_assoc]
      rw [show b.length + pos ls k = b.length + (wire (ls.take k)).length from rfl, List.drop_append, List.drop_eq_nil_of_le (by omega), List.nil_append, Nat.add_sub_cancel_left, List.drop_left]
      rw [show ls[k] :: (ls.drop (k + 1)).take d = [ls[k]] ++ (ls.drop (k + 1)).take d from rfl, wire_app, List.append_assoc]
      rw [List.take_left' (by simp [wire]; omega)]
    have hpe : b.length + pos ls k + (1 + ls[k].length) = b.length + pos ls (k + 1) := by rw [pos_succ hkl]; omega
    refine .label h63.1 h63.2 ?_ hcut (by rw [hpe]; exact ih (k + 1) (by omega) part hp)
    have := congrArg List.length hcut
    rw [List.length_take, List.length_drop, List.length_append] at this
    rw [List.length_append]
    simp only [wire, List.length_append, List.length_cons, List.length_nil] at this
    omega

inductive Lies (b : List UInt8) : Nat → List Pc → Nat → Prop
  | nil {p : Nat} (h : p ≤ b.length) : Lies b p [] p
  | byt {p q : Nat} {x : List UInt8} {L : List Pc} (h : (b.drop p).take x.length = x) (h2 : p + x.length ≤ b.length) (r : Lies b (p + x.length) L q) : Lies b p ((x, false) :: L) q
  | nam {p q en : Nat} {ls : List (List UInt8)} {L : List Pc} (hs : Shorts ls) (h : StandE b p p ls en) (r : Lies b en L q) : Lies b p ((nm ls, true) :: L) q

end Go.Proofs.YteegekpanadmkaaGreat

/-
  What was written and its reading: rows, round for round.
-/
namespace Go.Proofs.YteegekpanadmkaaGreat
open Go.RowKit Go.Shelf
set_option linter.unusedVariables false
set_option linter.unusedSimpArgs false
set_option maxRecDepth 100000

section
variable {w w' : World} {B B' : Nat} {e e' : TypeId} {k k' n n' : Nat} {v v' : Value} {xs ys : List Value} {G : Nat → Prop}
theorem row_aside (h : w.ownsRow B e k v n xs) (ha : Aside G w w') (hG : ∀ b, v.ownBlock = some b → ¬ G b) : w'.ownsRow B e k v n xs := by
  have hlt := World.ownsRow.lt h
  refine ⟨h.1, ?_⟩
  rcases h.2 with h2 | ⟨g, cap, cur, hv, hg, hh, r⟩
  · exact .inl h2
  · exact .inr ⟨g, cap, cur, hv, hg, (ha.block g (by subst hv; exact (hlt g rfl).2) (hG g (by rw [hv]; rfl))).trans hh, r⟩
theorem row_below (h : w.ownsRow B e k v n xs) (hb : Below w.heap.size w w') : w'.ownsRow B e k v n xs := row_aside (G := fun _ => False) h (Aside.of_all hb) fun _ _ h => h
theorem row_shape (h : w.ownsRow B e k v n xs) : ∃ a c, v = .slice a n c := by
  rcases h.2 with ⟨rfl, h0⟩ | ⟨g, cap, cur, rfl, _⟩
  · exact ⟨none, 0, by rw [h0]⟩
  · exact ⟨_, cap, rfl⟩
theorem row_apart (h : w.ownsRow B e k v n xs) (h' : w.ownsRow B' e' k' v' n' ys) (he : e ≠ e') (b : Nat) (h1 : v.ownBlock = some b) (h2 : v'.ownBlock = some b) : False := by
  rcases h.2 with ⟨rfl, _⟩ | ⟨g, cap, cur, rfl, _, hg, _⟩
  · simp [Value.ownBlock] at h1
  · rcases h'.2 with ⟨rfl, _⟩ | ⟨g', cap', cur', rfl, _, hg', _⟩
    · simp [Value.ownBlock] at h2
    · simp [Value.ownBlock] at h1 h2
      subst h1; subst h2
      rw [hg] at hg'
      injection hg' with hg'
      injection hg' with _ h3
      exact he h3
theorem row_apartB {l : List UInt8} (h : OwnB w B v l) (h' : w.ownsRow B' e' k' v' n' ys) (he : e' ≠ 5) (b : Nat) (h1 : v.ownBlock = some b) (h2 : v'.ownBlock = some b) : False := by
  rcases h with ⟨rfl, _⟩ | ⟨g, cap, fz, rfl, _, _, _, _, hg⟩
  · simp [Value.ownBlock] at h1
  · rcases h'.2 with ⟨rfl, _⟩ | ⟨g', cap', cur', rfl, _, hg', _⟩
    · simp [Value.ownBlock] at h2
    · simp [Value.ownBlock] at h1 h2
      subst h1; subst h2
      rw [hg] at hg'
      injection hg' with hg'
      injection hg' with _ h3
      exact he h3.symm
end

section
variable {w wr w' : World} {p bm B0 e : Nat} {v7 v8 v9 v10 : Value} {b : List UInt8} {q s : List Nat} {n : List AQ} {K : KK}

end

end Go.Proofs.YteegekpanadmkaaGreat

/-
  A record's bytes.
-/
namespace Go.Proofs.YteegekpanadmkaaGreat
open Go.RowKit Go.Shelf
set_option linter.unusedVariables false
set_option linter.unusedSimpArgs false
set_option maxRecDepth 100000

def headB (t c l : Int) (k : Nat) : List UInt8 := two t ++ (two c ++ (four l ++ two k))

def wrT (T : List UInt8) (t c l : Int) (R : WR) : WR := if R.code ≠ 0 then ⟨[], R.code, R.K, R.e⟩ else ⟨T ++ (headB t c l R.out.length ++ R.out), 0, R.K, R.e⟩

def wrC (a : Int) (x : Rc) (K : KK) (e : Nat) : WR :=
  if chkC x ≠ 0 then ⟨[], chkC x, K, e⟩ else if pkE e a x.n ≠ 0 then ⟨[], pkE e a x.n, K, e⟩
  else wrT (nameB K e a x.n) x.t x.c x.l (wrR (a + (nameB K e a x.n).length + 10) x.t x.d (nameK K e a x.n) (nameE K e a x.n))

theorem wrL_len (a : Int) : ∀ (L : List Pc) (K : KK) (e : Nat) (acc : List UInt8), GoodK K → (wrL a L K e acc).out.length ≤ acc.length + (joined L).length
  | [], K, e, acc, _ => by rw [wrL]; show acc.length ≤ _; omega
  | x :: L, K, e, acc, hG => by
    rw [wrL, joined_cons, List.length_append]
    split
    · split
      · exact Nat.zero_le _
      · rename_i h1
        have h2 := nameK_good (e := e) (a := wrap64 (a + acc.length)) (n := x.1) hG
        have h3 := (nameB_len (e := e) (a := wrap64 (a + acc.length)) (n := x.1) hG).2 (by simpa using h1)
        have h4 := wrL_len a L (nameK K e (wrap64 (a + acc.length)) x.1) (nameE K e (wrap64 (a + acc.length)) x.1) (acc ++ nameB K e (wrap64 (a + acc.length)) x.1) h2.1
        rw [List.length_append] at h4
        omega
    · have h4 := wrL_len a L K e (acc ++ x.1) hG
      rw [List.length_append] at h4
      omega

theorem wrR_len (a t : Int) (d : List UInt8) (K : KK) (e : Nat) (hG : GoodK K) (h : (spl t d).code = 0) : (wrR a t d K e).out.length ≤ d.length ∧ d.length ≤ 65535 := by
  obtain ⟨L, hL⟩ := code_ok h
  obtain ⟨_, _, h6, _, hj⟩ := spl_ok hL
  unfold wrR
  rw [hL]
  have := wrL_len a L K e [] hG
  rw [hj] at this
  exact ⟨by simpa using this, h6⟩

theorem chkC_ok {x : Rc} (h : chkC x = 0) : askE x.n x.t x.c = 0 ∧ 0 ≤ x.l ∧ x.l ≤ 2147483647 ∧ (spl x.t x.d).code = 0 := by
  unfold chkC at h
  split at h
  · rename_i h1; exact absurd h h1
  · rename_i h1
    split at h
    · exact absurd h (by decide)
    · exact ⟨by simpa using h1, by omega, by omega, h⟩

set_option maxHeartbeats 16000000 in
theorem writeC_any {w : World} {p bm e : Nat} {K : KK} (h : Pk w p bm K e) (hG : GoodK K) (hK : K.length ≤ 700000) (he : e ≤ 900000) (a : Int) (n : List UInt8) (t c l : Int) (d : List UInt8) (hn : n.length ≤ 1000000) (hd : d.length ≤ 1000000) :
    Calls Tryz.prog 157 #[.pointer (some ⟨p, 0, none⟩), .int .i64 a, .agg #[.string (bs n), .int .i64 t, .int .i64 c, .int .i64 l, .string (bs d)]] w (WrPost w p bm (wrC a ⟨n, t, c, l, d⟩ K e)) := by
  obtain ⟨W0, hW0⟩ : ∃ W0, w.alloc (.cells #[.string (bs n), .int .i64 t, .int .i64 c, .int .i64 l, .string (bs d)] 52) = W0 := ⟨_, rfl⟩
  have hb0 : Below w.heap.size w W0 := by rw [← hW0]; exact (Below.refl _ _).alloc (Nat.le_refl _) _
  have hx : Cel W0 w.heap.size [.string (bs n), .int .i64 t, .int .i64 c, .int .i64 l, .string (bs d)] := by rw [← hW0]; exact cel_new w _ _ _ _ _ _
  have HM := Lib.hid (made_any (h.later hb0) hG (by omega) (by omega))
  have hpl := h.lt
  have hml := h.map.lt
  have HA0 := Lib.hid (Aside.of_all hb0 : Aside (fun b => b = p ∨ b = bm) w W0)
  have HAk := Lib.hid (fun wx => checkC_any n t c l d hn hd wx)
  obtain ⟨g, hg⟩ : ∃ g, w.heap.size = g := ⟨_, rfl⟩
  have HX := Lib.hid hx
  rw [hg] at HX
  have hgp : ¬ (g = p ∨ g = bm) := by omega
  clear h hx hb0
  obtain ⟨X, hX⟩ : ∃ X, wrC a ⟨n, t, c, l, d⟩ K e = X := ⟨_, rfl⟩
  rw [hX]
  have HXv := Lib.hid hX
  clear hX
  unfold wrC at HXv
  by_cases hA : chkC ⟨n, t, c, l, d⟩ = 0
  · obtain ⟨hak, hl0, hl1, hsp⟩ := chkC_ok hA
    simp only at hak hl0 hl1 hsp
    obtain ⟨hch, ht0, ht1, hc0, hc1⟩ := askE_ok hak
    have hn255 := (chk_pos hch).2
    have HNm := Lib.hid (fun (wx : World) (hp : Pk wx p bm K e) => name_any hp hG (by omega) (by omega) a n (by omega))
    unfold NamePost at HNm
    rw [hA] at HAk
    rw [if_neg (by simpa using hA)] at HXv
    simp only at HXv
    have hnb := (nameB_len (e := e) (a := a) (n := n) hG).1
    have hng := nameK_good (e := e) (a := a) (n := n) hG
    have hpc := fun h => pkE_chk (e := e) (a := a) (n := n) h
    obtain ⟨E, hE⟩ : ∃ E, pkE e a n = E := ⟨_, rfl⟩
    obtain ⟨T, hT⟩ : ∃ T, nameB K e a n = T := ⟨_, rfl⟩
    obtain ⟨K2, hK2⟩ : ∃ K2, nameK K e a n = K2 := ⟨_, rfl⟩
    obtain ⟨e2, he2⟩ : ∃ e2, nameE K e a n = e2 := ⟨_, rfl⟩
    have hKE : E ≠ 0 → K2 = K ∧ e2 = e := fun hne => by rw [← hK2, ← he2]; unfold nameK nameE; rw [hE, if_neg hne, if_neg hne]; exact ⟨rfl, rfl⟩
    rw [hE, hT, hK2, he2] at HNm HXv
    rw [hE] at hpc
    rw [hT] at hnb
    rw [hK2, he2] at hng
    obtain ⟨hG2, hK22, he22⟩ := hng
    obtain ⟨m, hm⟩ : ∃ m, T.length = m := ⟨_, rfl⟩
    rw [hm] at HXv hnb
    obtain ⟨Y, hY⟩ : ∃ Y : Int, a + m + 10 = Y := ⟨_, rfl⟩
    rw [hY] at HXv
    have hlen := wrR_len Y t d K2 e2 hG2 hsp
    have HWt := Lib.hid (fun (wx : World) (hp : Pk wx p bm K2 e2) => write_any hp hG2 (by omega) (by omega) Y t d hd)
    unfold WrPost at HWt
    obtain ⟨R, hR⟩ : ∃ R, wrR Y t d K2 e2 = R := ⟨_, rfl⟩
    rw [hR] at HWt HXv hlen
    obtain ⟨O, C, K3, e3⟩ := R
    simp only at HWt hlen
    obtain ⟨q, hq⟩ : ∃ q, O.length = q := ⟨_, rfl⟩
    rw [hq] at hlen
    have HT2 := Lib.hid (fun wx => two_any t ht0 ht1 wx)
    have HC2 := Lib.hid (fun wx => two_any c hc0 hc1 wx)
    have HL4 := Lib.hid (fun wx => four_any l hl0 (by omega) wx)
    have HQ2 := Lib.hid (fun wx => two_any (q : Int) (by omega) (by omega) wx)
    have HM1 := Lib.hid hm
    have HQ1 := Lib.hid hq
    have hql : q ≤ 65535 := by omega
    clear hE hT hK2 he2 hA hch ht0 ht1 hc0 hc1 hG hn255 hG2 hK22 he22 hR hlen hsp hak hl0 hl1 hm hq
    go_enter Tryz.func157, Tryz.ntmps157
    go_wp2_with fail
    refine HM.out.mono ?_; rintro e0 w1 ⟨rfl, hp1, ha1⟩
    replace HX := Lib.hid (HX.out.aside (by simp) ha1 hgp)
    have HPk := Lib.hid hp1
    have HAs := Lib.hid (HA0.out.trans ha1)
    obtain ⟨c0, c1, c2, c3, c4⟩ := HX.out.five
    clear hp1 ha1 HM HA0
    go_wp2_with fail
    refine (HAk.out _).mono ?_; rintro e0 w2 ⟨rfl, hb⟩
    replace HX := Lib.hid (HX.out.below (by simp) hb)
    replace HPk := Lib.hid (HPk.out.later hb)
    replace HAs := Lib.hid (HAs.out.trans (Aside.of_all hb))
    clear hb c0 c1 c2 c3 c4
    have c0 : w2.cell? ⟨g, 0, none⟩ = some (.string (bs n)) := HX.out.c 0 (by simp)
    go_wp2_with fail
    refine (HNm.out _ HPk.out).mono ?_; rintro e0 w3 ⟨v3, rfl, ho, hp3, ha3⟩
    replace HX := Lib.hid (HX.out.aside (by simp) ha3 hgp)
    replace HPk := Lib.hid hp3
    have HSz := Lib.hid HAs.out.size
    replace HAs := Lib.hid (HAs.out.trans ha3)
    have HS0 := Lib.hid ho
    obtain ⟨a0, k0, rfl⟩ := ho.shape
    rw [HM1.out] at HS0 ⊢
    have hw2 : g ≤ w2.heap.size := by rw [← hg]; exact HSz.out
    obtain ⟨z2, hz2⟩ : ∃ z2, w2.heap.size = z2 := ⟨_, rfl⟩
    rw [hz2] at HS0 hw2
    clear hp3 ha3 ho c0 hz2 HSz
    by_cases hE0 : E = 0
    · subst hE0
      rw [if_neg (by simp)] at HXv
      obtain ⟨_, hp0, hp1, hp2⟩ := hpc rfl
      have hY1 : wrap64 (a + (m : Int)) = a + m := IntWalk.wrap64_in _ ⟨by omega, by omega⟩
      have hY3 : wrap64 Y = Y := IntWalk.wrap64_in _ ⟨by omega, by omega⟩
      obtain ⟨c0, c1, c2, c3, c4⟩ := HX.out.five
      clear hKE hpc hp0 hp1 hp2
      go_wp2_with fail
      rw [hY3]
      refine (HWt.out _ HPk.out).mono ?_; rintro e0 w4 ⟨v4, rfl, hoD, hp4, ha4⟩
      replace HX := Lib.hid (HX.out.aside (by simp) ha4 hgp)
      replace HPk := Lib.hid hp4
      replace HAs := Lib.hid (HAs.out.trans ha4)
      replace HS0 := Lib.hid (HS0.out.aside ha4 fun b hb hg2 => by have := (HS0.out.lt b hb).1; rcases hg2 with rfl | rfl <;> omega)
      have HSD := Lib.hid hoD
      obtain ⟨a6, k6, rfl⟩ := hoD.shape
      rw [HQ1.out] at HSD ⊢
      clear hp4 ha4 hoD c0 c1 c2 c3 c4 HWt hY hY1 hY3
      by_cases hC0 : C = 0
      · subst hC0
        have hXR : (⟨T ++ (headB t c l q ++ O), 0, K3, e3⟩ : WR) = X := by rw [← HXv.out]; unfold wrT; rw [if_neg (by simp)]; simp only [HQ1.out]
        have HXR := Lib.hid hXR
        clear HXv hXR
        have HXD := Lib.hid (Below.refl w4.heap.size w4).drew
        replace HX := Lib.hid (HX.out.below (by simp) HXD.out)
        replace HPk := Lib.hid (HPk.out.later HXD.out)
        replace HAs := Lib.hid (HAs.out.trans (Aside.of_all HXD.out))
        replace HS0 := Lib.hid (HS0.out.below HXD.out).sl.top
        replace HSD := Lib.hid (HSD.out.below HXD.out).sl.top
        clear HXD
        go_wp2_with fail
        refine wp_region_held_drew (S := (fun wx => wx.cell? ⟨g, 1, none⟩ = some (.int .i64 t) ∧ wx.cell? ⟨g, 2, none⟩ = some (.int .i64 c) ∧ wx.cell? ⟨g, 3, none⟩ = some (.int .i64 l))) (by kernel_rfl) ⟨HX.out.c 1 (by simp), HX.out.c 2 (by simp), HX.out.c 3 (by simp)⟩ (fun hHeld => ?_)
        refine wpAnyH_take (i := 0) (oi := { dst := some 48, op := Op.move (Operand.tmp 9), type := 28, pos := "rec.go:74", after := #[], guard := none }) (v := ?_) rfl (by kernel_rfl) (by kernel_rfl) (by kernel_rfl) (fun _ _ _ h => h) (Or.inl ⟨by rfl, ?_⟩) (by assumption) ?_
        rotate_left 1
        · intro w hSw; (try dsimp only at hSw); go_simp; try (with_reducible rfl)
        try simp only [Act.put, List.setIfInBounds_toArray, List.set_cons_zero, List.set_cons_succ]
        refine wpAnyH_take (i := 1) (oi := { dst := some 49, op := Op.fieldAddr 52 (Operand.tmp 5) 1, type := 0, pos := "rec.go:74", after := #[], guard := none }) (v := ?_) rfl (by kernel_rfl) (by kernel_rfl) (by kernel_rfl) (fun _ _ _ h => h) (Or.inl ⟨by rfl, ?_⟩) (by assumption) ?_
        rotate_left 1
        · intro w hSw; (try dsimp only at hSw); go_simp; try (with_reducible rfl)
        try simp only [Act.put, List.setIfInBounds_toArray, List.set_cons_zero, List.set_cons_succ]
        refine wpAnyH_take (i := 2) (oi := { dst := some 50, op := Op.load 3 (Operand.tmp 49), type := 3, pos := "rec.go:74", after := #[{ on := 1, ground := Ground.data }], guard := none }) (v := ?_) rfl (by kernel_rfl) (by kernel_rfl) (by kernel_rfl) (fun _ _ _ h => h) (Or.inl ⟨by rfl, ?_⟩) (by assumption) ?_
        rotate_left 1
        · intro w hSw; (try dsimp only at hSw); go_simp; try (with_reducible rfl)
        try simp only [Act.put, List.setIfInBounds_toArray, List.set_cons_zero, List.set_cons_succ]
        refine wpAnyH_take (i := 4) (oi := { dst := some 52, op := Op.fieldAddr 52 (Operand.tmp 5) 2, type := 0, pos := "rec.go:74", after := #[], guard := none }) (v := ?_) rfl (by kernel_rfl) (by kernel_rfl) (by kernel_rfl) (fun _ _ _ h => h) (Or.inl ⟨by rfl, ?_⟩) (by assumption) ?_
        rotate_left 1
        · intro w hSw; (try dsimp only at hSw); go_simp; try (with_reducible rfl)
        try simp only [Act.put, List.setIfInBounds_toArray, List.set_cons_zero, List.set_cons_succ]
        refine wpAnyH_take (i := 5) (oi := { dst := some 53, op := Op.load 3 (Operand.tmp 52), type := 3, pos := "rec.go:74", after := #[{ on := 4, ground := Ground.data }], guard := none }) (v := ?_) rfl (by kernel_rfl) (by kernel_rfl) (by kernel_rfl) (fun _ _ _ h => h) (Or.inl ⟨by rfl, ?_⟩) (by assumption) ?_
        rotate_left 1
        · intro w hSw; (try dsimp only at hSw); go_simp; try (with_reducible rfl)
        try simp only [Act.put, List.setIfInBounds_toArray, List.set_cons_zero, List.set_cons_succ]
        refine wpAnyH_take (i := 7) (oi := { dst := some 55, op := Op.fieldAddr 52 (Operand.tmp 5) 3, type := 0, pos := "rec.go:74", after := #[], guard := none }) (v := ?_) rfl (by kernel_rfl) (by kernel_rfl) (by kernel_rfl) (fun _ _ _ h => h) (Or.inl ⟨by rfl, ?_⟩) (by assumption) ?_
        rotate_left 1
        · intro w hSw; (try dsimp only at hSw); go_simp; try (with_reducible rfl)
        try simp only [Act.put, List.setIfInBounds_toArray, List.set_cons_zero, List.set_cons_succ]
        refine wpAnyH_take (i := 8) (oi := { dst := some 56, op := Op.load 3 (Operand.tmp 55), type := 3, pos := "rec.go:74", after := #[{ on := 7, ground := Ground.data }], guard := none }) (v := ?_) rfl (by kernel_rfl) (by kernel_rfl) (by kernel_rfl) (fun _ _ _ h => h) (Or.inl ⟨by rfl, ?_⟩) (by assumption) ?_
        rotate_left 1
        · intro w hSw; (try dsimp only at hSw); go_simp; try (with_reducible rfl)
        try simp only [Act.put, List.setIfInBounds_toArray, List.set_cons_zero, List.set_cons_succ]
        refine wpAnyH_take (i := 10) (oi := { dst := some 58, op := Op.move (Operand.tmp 11), type := 28, pos := "rec.go:74", after := #[], guard := none }) (v := ?_) rfl (by kernel_rfl) (by kernel_rfl) (by kernel_rfl) (fun _ _ _ h => h) (Or.inl ⟨by rfl, ?_⟩) (by assumption) ?_
        rotate_left 1
        · intro w hSw; (try dsimp only at hSw); go_simp; try (with_reducible rfl)
        try simp only [Act.put, List.setIfInBounds_toArray, List.set_cons_zero, List.set_cons_succ]
        refine wpAnyH_take (i := 11) (oi := { dst := some 59, op := Op.call { callee := Callee.builtin Builtin.len, args := #[Operand.tmp 58], argTypes := #[28] }, type := 3, pos := "rec.go:74", after := #[{ on := 10, ground := Ground.data }], guard := none }) (v := ?_) rfl (by kernel_rfl) (by kernel_rfl) (by kernel_rfl) (fun _ _ _ h => h) (Or.inl ⟨by rfl, ?_⟩) (by assumption) ?_
        rotate_left 1
        · intro w hSw; (try dsimp only at hSw); go_simp; try (with_reducible rfl)
        try simp only [Act.put, List.setIfInBounds_toArray, List.set_cons_zero, List.set_cons_succ]
        refine wpAnyH_take (i := 13) (oi := { dst := some 61, op := Op.move (Operand.tmp 11), type := 28, pos := "rec.go:74", after := #[], guard := none }) (v := ?_) rfl (by kernel_rfl) (by kernel_rfl) (by kernel_rfl) (fun _ _ _ h => h) (Or.inl ⟨by rfl, ?_⟩) (by assumption) ?_
        rotate_left 1
        · intro w hSw; (try dsimp only at hSw); go_simp; try (with_reducible rfl)
        try simp only [Act.put, List.setIfInBounds_toArray, List.set_cons_zero, List.set_cons_succ]
        refine wpAnyH_ready (rs := [3]) (by kernel_rfl) (by simp) ?_
        refine AllReadyH.cons (o := { dst := some 51, op := Op.call { callee := Callee.value (Operand.func 132), args := #[Operand.tmp 50], argTypes := #[3] }, type := 28, pos := "rec.go:74", after := #[{ on := 2, ground := Ground.data }], guard := none }) rfl (fun K hK => ?_) (AllReadyH.nil)
        go_simp
        refine (HT2.out _).mono ?_; rintro e0 w5 ⟨a1, k1, rfl, hs1, hb⟩
        have HS1 := Lib.hid hs1
        clear hs1
        replace HX := Lib.hid (HX.out.below (by simp) hb)
        replace HPk := Lib.hid (HPk.out.later hb)
        replace HAs := Lib.hid (HAs.out.trans (Aside.of_all hb))
        replace HS0 := Lib.hid (sl_keep HS0.out hb)
        replace HSD := Lib.hid (sl_keep HSD.out hb)
        clear hb
        try go_wp2_with fail
        refine hK.out _ _ ⟨HX.out.c 1 (by simp), HX.out.c 2 (by simp), HX.out.c 3 (by simp)⟩ (fun hHeld => ?_)
        clear hK K
        try simp only [Act.put, List.setIfInBounds_toArray, List.set_cons_zero, List.set_cons_succ]
        refine wpAnyH_ready (rs := [6]) (by kernel_rfl) (by simp) ?_
        refine AllReadyH.cons (o := { dst := some 54, op := Op.call { callee := Callee.value (Operand.func 132), args := #[Operand.tmp 53], argTypes := #[3] }, type := 28, pos := "rec.go:74", after := #[{ on := 5, ground := Ground.data }, { on := 3, ground := Ground.chain }], guard := none }) rfl (fun K hK => ?_) (AllReadyH.nil)
        go_simp
        refine (HC2.out _).mono ?_; rintro e0 w6 ⟨a2, k2, rfl, hs1, hb⟩
        have HS2 := Lib.hid hs1
        clear hs1
        replace HX := Lib.hid (HX.out.below (by simp) hb)
        replace HPk := Lib.hid (HPk.out.later hb)
        replace HAs := Lib.hid (HAs.out.trans (Aside.of_all hb))
        replace HS0 := Lib.hid (sl_keep HS0.out hb)
        replace HSD := Lib.hid (sl_keep HSD.out hb)
        replace HS1 := Lib.hid (sl_keep HS1.out hb)
        clear hb
        try go_wp2_with fail
        refine hK.out _ _ ⟨HX.out.c 1 (by simp), HX.out.c 2 (by simp), HX.out.c 3 (by simp)⟩ (fun hHeld => ?_)
        clear hK K
        try simp only [Act.put, List.setIfInBounds_toArray, List.set_cons_zero, List.set_cons_succ]
        refine wpAnyH_ready (rs := [9]) (by kernel_rfl) (by simp) ?_
        refine AllReadyH.cons (o := { dst := some 57, op := Op.call { callee := Callee.value (Operand.func 162), args := #[Operand.tmp 56], argTypes := #[3] }, type := 28, pos := "rec.go:74", after := #[{ on := 8, ground := Ground.data }, { on := 6, ground := Ground.chain }], guard := none }) rfl (fun K hK => ?_) (AllReadyH.nil)
        go_simp
        refine (HL4.out _).mono ?_; rintro e0 w7 ⟨a3, k3, rfl, hs1, hb⟩
        have HS3 := Lib.hid hs1
        clear hs1
        replace HX := Lib.hid (HX.out.below (by simp) hb)
        replace HPk := Lib.hid (HPk.out.later hb)
        replace HAs := Lib.hid (HAs.out.trans (Aside.of_all hb))
        replace HS0 := Lib.hid (sl_keep HS0.out hb)
        replace HSD := Lib.hid (sl_keep HSD.out hb)
        replace HS1 := Lib.hid (sl_keep HS1.out hb)
        replace HS2 := Lib.hid (sl_keep HS2.out hb)
        clear hb
        try go_wp2_with fail
        refine hK.out _ _ ⟨HX.out.c 1 (by simp), HX.out.c 2 (by simp), HX.out.c 3 (by simp)⟩ (fun hHeld => ?_)
        clear hK K
        try simp only [Act.put, List.setIfInBounds_toArray, List.set_cons_zero, List.set_cons_succ]
        refine wpAnyH_ready (rs := [12]) (by kernel_rfl) (by simp) ?_
        refine AllReadyH.cons (o := { dst := some 60, op := Op.call { callee := Callee.value (Operand.func 132), args := #[Operand.tmp 59], argTypes := #[3] }, type := 28, pos := "rec.go:74", after := #[{ on := 11, ground := Ground.data }, { on := 9, ground := Ground.chain }], guard := none }) rfl (fun K hK => ?_) (AllReadyH.nil)
        go_simp
        refine (HQ2.out _).mono ?_; rintro e0 w8 ⟨a4, k4, rfl, hs1, hb⟩
        have HS4 := Lib.hid hs1
        clear hs1
        replace HX := Lib.hid (HX.out.below (by simp) hb)
        replace HPk := Lib.hid (HPk.out.later hb)
        replace HAs := Lib.hid (HAs.out.trans (Aside.of_all hb))
        replace HS0 := Lib.hid (sl_keep HS0.out hb)
        replace HSD := Lib.hid (sl_keep HSD.out hb)
        replace HS1 := Lib.hid (sl_keep HS1.out hb)
        replace HS2 := Lib.hid (sl_keep HS2.out hb)
        replace HS3 := Lib.hid (sl_keep HS3.out hb)
        clear hb
        try go_wp2_with fail
        refine hK.out _ _ ⟨HX.out.c 1 (by simp), HX.out.c 2 (by simp), HX.out.c 3 (by simp)⟩ (fun hHeld => ?_)
        clear hK K
        try simp only [Act.put, List.setIfInBounds_toArray, List.set_cons_zero, List.set_cons_succ]
        refine wpAnyH_ready (rs := [14]) (by kernel_rfl) (by simp) ?_
        refine AllReadyH.cons (o := { dst := some 62, op := Op.buildSlice 190 6 #[(0, Operand.tmp 48), (1, Operand.tmp 51), (2, Operand.tmp 54), (3, Operand.tmp 57), (4, Operand.tmp 60), (5, Operand.tmp 61)], type := 190, pos := "rec.go:74", after := #[{ on := 0, ground := Ground.data }, { on := 3, ground := Ground.data }, { on := 6, ground := Ground.data }, { on := 9, ground := Ground.data }, { on := 12, ground := Ground.data }, { on := 13, ground := Ground.data }], guard := none }) rfl (fun K hK => ?_) (AllReadyH.nil)
        go_simp
        have hb : Below w8.heap.size w8 (w8.alloc (.cells #[.slice a0 m k0, .slice a1 2 k1, .slice a2 2 k2, .slice a3 4 k3, .slice a4 2 k4, .slice a6 q k6] 28)) := (Below.refl _ _).alloc (Nat.le_refl _) _
        replace HX := Lib.hid (HX.out.below (by simp) hb)
        replace HPk := Lib.hid (HPk.out.later hb)
        replace HAs := Lib.hid (HAs.out.trans (Aside.of_all hb))
        replace HS0 := Lib.hid (sl_keep HS0.out hb)
        replace HSD := Lib.hid (sl_keep HSD.out hb)
        replace HS1 := Lib.hid (sl_keep HS1.out hb)
        replace HS2 := Lib.hid (sl_keep HS2.out hb)
        replace HS3 := Lib.hid (sl_keep HS3.out hb)
        replace HS4 := Lib.hid (sl_keep HS4.out hb)
        clear hb
        have HCc := Lib.hid (concat_any (w := (w8.alloc (.cells #[.slice a0 m k0, .slice a1 2 k1, .slice a2 2 k2, .slice a3 4 k3, .slice a4 2 k4, .slice a6 q k6] 28))) (g := w8.heap.size) (lo := 0) (hi := (w8.alloc (.cells #[.slice a0 m k0, .slice a1 2 k1, .slice a2 2 k2, .slice a3 4 k3, .slice a4 2 k4, .slice a6 q k6] 28)).heap.size) (n := 6) (c0 := 6) (ls := [T, two t, two c, four l, two q, O]) rfl (by decide) (by simp) (Nat.le_refl _) (by simp [two, four, HM1.out, HQ1.out]; omega) (fun j hj => by
          match j, hj with
          | 0, _ => exact ⟨a0, k0, by simp [go_sem, HM1.out], by have h := HS0.out; simpa [HM1.out] using h⟩
          | 1, _ => exact ⟨a1, k1, by simp [go_sem, two], HS1.out⟩
          | 2, _ => exact ⟨a2, k2, by simp [go_sem, two], HS2.out⟩
          | 3, _ => exact ⟨a3, k3, by simp [go_sem, four], HS3.out⟩
          | 4, _ => exact ⟨a4, k4, by simp [go_sem, two], HS4.out⟩
          | 5, _ => exact ⟨a6, k6, by simp [go_sem, HQ1.out], by have h := HSD.out; simpa [HQ1.out] using h⟩))
        rw [show [T, two t, two c, four l, two q, O].flatten = T ++ (headB t c l q ++ O) by simp [headB]] at HCc
        refine hK.out _ _ ⟨HX.out.c 1 (by simp), HX.out.c 2 (by simp), HX.out.c 3 (by simp)⟩ (fun hHeld => ?_)
        clear hK K
        try simp only [Act.put, List.setIfInBounds_toArray, List.set_cons_zero, List.set_cons_succ]
        refine wpAnyH_ready (rs := [15]) (by kernel_rfl) (by simp) ?_
        refine AllReadyH.cons (o := { dst := some 63, op := Op.call { callee := Callee.value (Operand.func 131), args := #[Operand.tmp 62], argTypes := #[190] }, type := 28, pos := "rec.go:74", after := #[{ on := 14, ground := Ground.data }, { on := 12, ground := Ground.chain }], guard := none }) rfl (fun K hK => ?_) (AllReadyH.nil)
        go_simp
        refine HCc.out.mono ?_; rintro e0 w9 ⟨v9, rfl, ho, hb⟩
        have HO := Lib.hid ho
        have HAs0 := Lib.hid HAs.out
        clear ho HCc HS0 HS1 HS2 HS3 HS4 HSD
        replace HX := Lib.hid (HX.out.below (by simp) hb)
        replace HPk := Lib.hid (HPk.out.later hb)
        replace HAs := Lib.hid (HAs.out.trans (Aside.of_all hb))
        clear hb
        try go_wp2_with fail
        refine hK.out _ _ ⟨HX.out.c 1 (by simp), HX.out.c 2 (by simp), HX.out.c 3 (by simp)⟩ (fun hHeld => ?_)
        clear hK K
        try simp only [Act.put, List.setIfInBounds_toArray, List.set_cons_zero, List.set_cons_succ]
        refine wpAnyH_take (i := 16) (oi := { dst := some 6, op := Op.assign (Operand.tmp 63), type := 28, pos := "rec.go:74", after := #[{ on := 15, ground := Ground.data }, { on := 15, ground := Ground.chain }, { on := 0, ground := Ground.phase }, { on := 1, ground := Ground.phase }, { on := 2, ground := Ground.phase }, { on := 3, ground := Ground.phase }, { on := 4, ground := Ground.phase }, { on := 5, ground := Ground.phase }, { on := 6, ground := Ground.phase }, { on := 7, ground := Ground.phase }, { on := 8, ground := Ground.phase }, { on := 9, ground := Ground.phase }, { on := 10, ground := Ground.phase }, { on := 11, ground := Ground.phase }, { on := 12, ground := Ground.phase }, { on := 13, ground := Ground.phase }, { on := 14, ground := Ground.phase }, { on := 15, ground := Ground.phase }], guard := none }) (v := ?_) rfl (by kernel_rfl) (by kernel_rfl) (by kernel_rfl) (fun _ _ _ h => h) (Or.inl ⟨by rfl, ?_⟩) (by assumption) ?_
        rotate_left 1
        · intro w hSw; (try dsimp only at hSw); go_simp; try (with_reducible rfl)
        try simp only [Act.put, List.setIfInBounds_toArray, List.set_cons_zero, List.set_cons_succ]
        refine wpAnyH_take (i := 17) (oi := { dst := some 7, op := Op.assign (Operand.const (Value.int IntKind.i64 0)), type := 29, pos := "rec.go:74", after := #[{ on := 16, ground := Ground.chain }, { on := 0, ground := Ground.phase }, { on := 1, ground := Ground.phase }, { on := 2, ground := Ground.phase }, { on := 3, ground := Ground.phase }, { on := 4, ground := Ground.phase }, { on := 5, ground := Ground.phase }, { on := 6, ground := Ground.phase }, { on := 7, ground := Ground.phase }, { on := 8, ground := Ground.phase }, { on := 9, ground := Ground.phase }, { on := 10, ground := Ground.phase }, { on := 11, ground := Ground.phase }, { on := 12, ground := Ground.phase }, { on := 13, ground := Ground.phase }, { on := 14, ground := Ground.phase }, { on := 15, ground := Ground.phase }, { on := 16, ground := Ground.phase }], guard := none }) (v := ?_) rfl (by kernel_rfl) (by kernel_rfl) (by kernel_rfl) (fun _ _ _ h => h) (Or.inl ⟨by rfl, ?_⟩) (by assumption) ?_
        rotate_left 1
        · intro w hSw; (try dsimp only at hSw); go_simp; try (with_reducible rfl)
        try simp only [Act.put, List.setIfInBounds_toArray, List.set_cons_zero, List.set_cons_succ]
        refine wpAnyH_done (by kernel_rfl) ?_ _
        clear hHeld
        go_wp2_with fail
        go_ret2
        rw [← HXR.out]
        exact ⟨_, rfl, HO.out.mono HAs0.out.size, HPk.out, HAs.out⟩
      · have tC : (C != 0) = true := by simpa using hC0
        have hXR : (⟨[], C, K3, e3⟩ : WR) = X := by rw [← HXv.out]; unfold wrT; rw [if_pos hC0]
        have HXR := Lib.hid hXR
        clear HXv hXR
        go_wp2_with fail
        go_ret2
        rw [← HXR.out]
        exact ⟨_, rfl, OwnB.nil _ _, HPk.out, HAs.out⟩
    · have tE : (E != 0) = true := by simpa using hE0
      rw [if_pos hE0] at HXv
      obtain ⟨rfl, rfl⟩ := hKE hE0
      clear HWt hpc
      go_wp2_with fail
      go_ret2
      rw [← HXv.out]
      exact ⟨_, rfl, OwnB.nil _ _, HPk.out, HAs.out⟩
  · obtain ⟨E, hE⟩ : ∃ E, chkC ⟨n, t, c, l, d⟩ = E := ⟨_, rfl⟩
    rw [hE] at HAk HXv hA
    rw [if_pos hA] at HXv
    have tE : (E != 0) = true := by simpa using hA
    clear hE hA
    go_enter Tryz.func157, Tryz.ntmps157
    go_wp2_with fail
    refine HM.out.mono ?_; rintro e0 w1 ⟨rfl, hp1, ha1⟩
    replace HX := Lib.hid (HX.out.aside (by simp) ha1 hgp)
    have HPk := Lib.hid hp1
    have HAs := Lib.hid (HA0.out.trans ha1)
    obtain ⟨c0, c1, c2, c3, c4⟩ := HX.out.five
    clear hp1 ha1 HM HA0
    go_wp2_with fail
    refine (HAk.out _).mono ?_; rintro e0 w2 ⟨rfl, hb⟩
    replace HPk := Lib.hid (HPk.out.later hb)
    replace HAs := Lib.hid (HAs.out.trans (Aside.of_all hb))
    clear hb c0 c1 c2 c3 c4
    go_wp2_with fail
    go_ret2
    rw [← HXv.out]
    exact ⟨_, rfl, OwnB.nil _ _, HPk.out, HAs.out⟩
end Go.Proofs.YteegekpanadmkaaGreat

/-
  What is written is read as it was; plainly.
-/
namespace Go.Proofs.YteegekpanadmkaaGreat
open Go.RowKit Go.Shelf
set_option linter.unusedVariables false
set_option linter.unusedSimpArgs false
set_option maxRecDepth 100000

theorem at2 (b r : List UInt8) (t : Int) (h0 : 0 ≤ t) (h1 : t ≤ 65535) : nAt2 (iz (b ++ (two t ++ r))) b.length = t := by
  have e : iz (b ++ (two t ++ r)) = iz b ++ (putL2 t ++ iz r) := by rw [iz_app, iz_app, iz_two t h0 h1]
  have hp : putL2 t = [t / 256, t % 256] := by unfold putL2; rw [if_pos ⟨h0, h1⟩]
  unfold nAt2 num2
  rw [e, hp]
  have g0 := getD_behind (iz b) ([t / 256, t % 256] ++ iz r) 0
  have g1 := getD_behind (iz b) ([t / 256, t % 256] ++ iz r) 1
  rw [iz_len] at g0 g1
  rw [Nat.add_zero] at g0
  rw [g0, g1]
  show t / 256 * 256 + t % 256 = t
  omega

theorem at4 (b r : List UInt8) (t : Int) (h0 : 0 ≤ t) (h1 : t ≤ 4294967295) : nAt4 (iz (b ++ (four t ++ r))) b.length = t := by
  have e : iz (b ++ (four t ++ r)) = iz b ++ (putL4 t ++ iz r) := by rw [iz_app, iz_app, iz_four t h0 h1]
  have hp : putL4 t = [t / 256 / 256 / 256, t / 256 / 256 % 256, t / 256 % 256, t % 256] := by unfold putL4; rw [if_pos ⟨h0, h1⟩]
  unfold nAt4 num4
  rw [e, hp]
  have g0 := getD_behind (iz b) ([t / 256 / 256 / 256, t / 256 / 256 % 256, t / 256 % 256, t % 256] ++ iz r) 0
  have g1 := getD_behind (iz b) ([t / 256 / 256 / 256, t / 256 / 256 % 256, t / 256 % 256, t % 256] ++ iz r) 1
  have g2 := getD_behind (iz b) ([t / 256 / 256 / 256, t / 256 / 256 % 256, t / 256 % 256, t % 256] ++ iz r) 2
  have g3 := getD_behind (iz b) ([t / 256 / 256 / 256, t / 256 / 256 % 256, t / 256 % 256, t % 256] ++ iz r) 3
  rw [iz_len] at g0 g1 g2 g3
  rw [Nat.add_zero] at g0
  rw [g0, g1, g2, g3]
  show ((t / 256 / 256 / 256 * 256 + t / 256 / 256 % 256) * 256 + t / 256 % 256) * 256 + t % 256 = t
  omega

def LiesQ (b : List UInt8) (p : Nat) (x : Rc) (i : Nat) : Prop :=
  ∃ ls, Shorts ls ∧ x.n = nm ls ∧ StandE b p p ls i ∧ i + 4 ≤ b.length ∧ nAt2 (iz b) i = x.t ∧ nAt2 (iz b) (i + 2) = x.c

def LiesR (b : List UInt8) (p : Nat) (x : Rc) (i en : Nat) : Prop :=
  i + 10 ≤ b.length ∧ nAt4 (iz b) (i + 4) = x.l ∧ ∃ (m : Nat) (L : List Pc), nAt2 (iz b) (i + 8) = m ∧ m ≤ 65535 ∧ spl x.t x.d = .ok L ∧ Lies b (i + 10) L (i + 10 + m) ∧ en = i + 10 + m

theorem two_len (t : Int) : (two t).length = 2 := rfl
theorem four_len (t : Int) : (four t).length = 4 := rfl

theorem name_lies {b : List UInt8} {K : KK} {e : Nat} {P : KK} (hI : Inv b K e P) {n : List UInt8} (hc : chk n = 0) (hb : b.length ≤ 65535) :
    ∃ ls, Shorts ls ∧ n = nm ls ∧ pkE e b.length n = 0 ∧ nameB K e b.length n = told K ls ∧ Inv (b ++ told K ls) (nameK K e b.length n) (nameE K e b.length n) (P ++ [(nm ls, b.length)]) ∧ StandE (b ++ told K ls) b.length b.length ls (b.length + (told K ls).length) ∧ (told K ls).length ≤ n.length := by
  obtain ⟨hs, hx⟩ := shorts_of hc
  have hx : n = nm (labs n) := hx
  obtain ⟨ls, hls⟩ : ∃ ls, labs n = ls := ⟨_, rfl⟩
  rw [hls] at hs hx
  subst hx
  have hla := hI.last
  have hE : pkE e b.length (nm ls) = 0 := by unfold pkE; rw [if_neg (fun h => h (shorts_chk hs)), if_neg (by omega), if_neg (by omega)]
  have e1 : nameB K e b.length (nm ls) = told K ls := by unfold nameB; rw [if_pos hE, show labs (nm ls) = ls from shorts_labs hs]
  have e2 : nameK K e b.length (nm ls) = K ++ fr b.length ls (hdn K ls) := by unfold nameK; rw [if_pos hE, show labs (nm ls) = ls from shorts_labs hs, Int.toNat_natCast]
  have e3 : nameE K e b.length (nm ls) = b.length + (told K ls).length := by unfold nameE; rw [if_pos hE, show labs (nm ls) = ls from shorts_labs hs, Int.toNat_natCast]
  have htl := told_le hI.good hs
  have hst := toldE_rd hI hs (hdn K ls) 0 (by omega) b.length (Nat.le_refl _)
  rw [pos_zero, Nat.add_zero, List.drop_zero] at hst
  refine ⟨ls, hs, rfl, hE, e1, ?_, hst, htl⟩
  rw [e2, e3]
  exact hI.tell hs

theorem ask_lies {b : List UInt8} {K : KK} {e : Nat} {P : KK} (hI : Inv b K e P) {x : Rc} (hx : askE x.n x.t x.c = 0) (hb : b.length ≤ 65535) :
    ∃ out K' e' P' i, askW b.length x.n x.t x.c K e = ⟨out, 0, K', e'⟩ ∧ out.length ≤ 259 ∧ Inv (b ++ out) K' e' P' ∧ LiesQ (b ++ out) b.length x i ∧ b.length + out.length = i + 4 ∧ K'.length ≤ K.length + 127 := by
  obtain ⟨hc, t0, t1, c0, c1⟩ := askE_ok hx
  obtain ⟨ls, hs, hn, hE, hB, hI1, hst, hle⟩ := name_lies hI hc hb
  have hn255 := (chk_pos hc).2
  have hkk := (nameK_good (e := e) (a := b.length) (n := x.n) hI.good).2.1
  obtain ⟨T, hT⟩ : ∃ T, told K ls = T := ⟨_, rfl⟩
  rw [hT] at hB hI1 hst hle
  have hl : (b ++ T).length = b.length + T.length := List.length_append
  refine ⟨T ++ (two x.t ++ two x.c), nameK K e b.length x.n, nameE K e b.length x.n, P ++ [(nm ls, b.length)], b.length + T.length, ?_, ?_, ?_, ?_, ?_, hkk⟩
  · unfold askW
    rw [if_neg (by simpa using hx), if_neg (by simpa using hE), hB]
  · rw [List.length_append, List.length_append, two_len, two_len]; omega
  · rw [← List.append_assoc]; exact hI1.more _
  · refine ⟨ls, hs, hn, ?_, ?_, ?_, ?_⟩
    · rw [← List.append_assoc]; exact hst.more _
    · rw [List.length_append, List.length_append, List.length_append, two_len, two_len]; omega
    · have h := at2 (b ++ T) (two x.c) x.t t0 t1
      rw [hl, List.append_assoc] at h
      exact h
    · have h := at2 (b ++ T ++ two x.t) [] x.c c0 c1
      rw [List.length_append, hl, two_len, List.append_nil, List.append_assoc, List.append_assoc] at h
      exact h
  · rw [List.length_append, List.length_append, two_len, two_len]; omega

theorem headB_len (t c l : Int) (k : Nat) : (headB t c l k).length = 10 := by unfold headB; rw [List.length_append, List.length_append, List.length_append, two_len, two_len, two_len, four_len]

end Go.Proofs.YteegekpanadmkaaGreat

/-
  An order of places by kind, the later one first; what merging by halves comes to, plainly.
-/
namespace Go.Proofs.YteegekpanadmkaaGreat
open Go.RowKit Go.Shelf
set_option linter.unusedVariables false
set_option linter.unusedSimpArgs false
set_option maxRecDepth 100000

def Bef (κ : Nat → Int) (i j : Nat) : Prop := κ i < κ j ∨ (κ i = κ j ∧ j < i)
instance (κ : Nat → Int) (i j : Nat) : Decidable (Bef κ i j) := by unfold Bef; exact inferInstance
theorem Bef.irr {κ : Nat → Int} {i : Nat} : ¬ Bef κ i i := fun h => by rcases h with h | h <;> omega
theorem Bef.asym {κ : Nat → Int} {i j : Nat} (h : Bef κ i j) : ¬ Bef κ j i := fun h2 => by rcases h with h | h <;> rcases h2 with h2 | h2 <;> omega
theorem Bef.trans {κ : Nat → Int} {i j k : Nat} (h : Bef κ i j) (h2 : Bef κ j k) : Bef κ i k := by
  unfold Bef at *; rcases h with h | h <;> rcases h2 with h2 | h2 <;> omega
theorem Bef.total {κ : Nat → Int} {i j : Nat} (h : i ≠ j) (h2 : ¬ Bef κ i j) : Bef κ j i := by unfold Bef at *; omega
theorem bef_lt {κ : Nat → Int} {i j : Nat} (h : i < j) : Bef κ i j ↔ κ i < κ j := by unfold Bef; omega

def Ups (κ : Nat → Int) (l : List Nat) : Prop := l.Pairwise (Bef κ)
def Dns (l : List Nat) : Prop := l.Pairwise (· > ·)
def Ovr (l m : List Nat) : Prop := ∀ x ∈ l, ∀ y ∈ m, y < x

theorem Ups.app {κ : Nat → Int} {l m : List Nat} : Ups κ (l ++ m) ↔ Ups κ l ∧ Ups κ m ∧ ∀ x ∈ l, ∀ y ∈ m, Bef κ x y := List.pairwise_append
theorem Dns.app {l m : List Nat} : Dns (l ++ m) ↔ Dns l ∧ Dns m ∧ Ovr l m := List.pairwise_append
theorem Ovr.perm {l l' m m' : List Nat} (h : Ovr l m) (h1 : l'.Perm l) (h2 : m'.Perm m) : Ovr l' m' := fun x hx y hy => h x (h1.mem_iff.mp hx) y (h2.mem_iff.mp hy)
theorem Ovr.sub {l l' m m' : List Nat} (h : Ovr l m) (h1 : ∀ x ∈ l', x ∈ l) (h2 : ∀ x ∈ m', x ∈ m) : Ovr l' m' := fun x hx y hy => h x (h1 x hx) y (h2 y hy)

def Mrg (κ : Nat → Int) (l m : List Nat) : Prop := l.Perm m ∧ Ups κ l
theorem Mrg.one (κ : Nat → Int) (x : Nat) : Mrg κ [x] [x] := ⟨List.Perm.refl _, List.pairwise_singleton _ _⟩
theorem Mrg.nil (κ : Nat → Int) : Mrg κ [] [] := ⟨List.Perm.refl _, List.Pairwise.nil⟩
theorem Mrg.halves {κ : Nat → Int} {A1 A2 B1 B2 C1 C2 : List Nat} (h1 : Mrg κ C1 (A1 ++ B1)) (h2 : Mrg κ C2 (A2 ++ B2)) (hA : Ups κ (A1 ++ A2)) (hB : Ups κ (B1 ++ B2)) (ha : ∀ x ∈ A1, ∀ y ∈ B2, Bef κ x y) (hb : ∀ x ∈ B1, ∀ y ∈ A2, Bef κ x y) :
    Mrg κ (C1 ++ C2) ((A1 ++ A2) ++ (B1 ++ B2)) := by
  refine ⟨?_, Ups.app.mpr ⟨h1.2, h2.2, fun x hx y hy => ?_⟩⟩
  · refine (h1.1.append h2.1).trans ?_
    rw [List.append_assoc, List.append_assoc]
    refine List.Perm.append_left A1 ?_
    rw [← List.append_assoc, ← List.append_assoc]
    exact List.Perm.append_right B2 List.perm_append_comm
  · have hx2 := h1.1.mem_iff.mp hx
    have hy2 := h2.1.mem_iff.mp hy
    have kA := (Ups.app.mp hA).2.2
    have kB := (Ups.app.mp hB).2.2
    rcases List.mem_append.mp hx2 with hx2 | hx2 <;> rcases List.mem_append.mp hy2 with hy2 | hy2
    · exact kA x hx2 y hy2
    · exact ha x hx2 y hy2
    · exact hb x hx2 y hy2
    · exact kB x hx2 y hy2

theorem Mrg.put {κ : Nat → Int} {U V : List Nat} {x : Nat} (h : Ups κ (U ++ V)) (hu : ∀ y ∈ U, Bef κ y x) (hv : ∀ y ∈ V, Bef κ x y) : Mrg κ (U ++ x :: V) (U ++ V ++ [x]) := by
  obtain ⟨k1, k2, k3⟩ := Ups.app.mp h
  refine ⟨?_, Ups.app.mpr ⟨k1, List.pairwise_cons.mpr ⟨hv, k2⟩, fun a ha b hb => ?_⟩⟩
  · rw [List.append_assoc]
    exact List.Perm.append_left U (List.perm_append_comm (l₁ := [x]))
  · rcases List.mem_cons.mp hb with rfl | hb
    · exact hu a ha
    · exact k3 a ha b hb
theorem Mrg.put0 {κ : Nat → Int} {U V : List Nat} {x : Nat} (h : Ups κ (U ++ V)) (hu : ∀ y ∈ U, Bef κ y x) (hv : ∀ y ∈ V, Bef κ x y) : Mrg κ (U ++ x :: V) (x :: (U ++ V)) :=
  ⟨(Mrg.put h hu hv).1.trans (List.perm_append_comm (l₂ := [x])), (Mrg.put h hu hv).2⟩
theorem Ups.ahead {κ : Nat → Int} {l : List Nat} (h : Ups κ l) {i j : Nat} (hi : i ≤ j) (hj : j < l.length) {x : Nat} (hx : Bef κ x (l[i]'(by omega))) : Bef κ x l[j] := by
  rcases Nat.lt_or_ge i j with h1 | h1
  · exact hx.trans (List.pairwise_iff_getElem.mp h i j (by omega) hj h1)
  · obtain rfl : i = j := by omega
    exact hx
theorem Ups.behind {κ : Nat → Int} {l : List Nat} (h : Ups κ l) {i j : Nat} (hi : i ≤ j) (hj : j < l.length) {x : Nat} (hx : Bef κ l[j] x) : Bef κ (l[i]'(by omega)) x := by
  rcases Nat.lt_or_ge i j with h1 | h1
  · exact (List.pairwise_iff_getElem.mp h i j (by omega) hj h1).trans hx
  · obtain rfl : i = j := by omega
    exact hx
theorem bef_rank {κ : Nat → Int} : ∀ {l : List Nat}, Ups κ l → ∀ {i : Nat}, i ∈ l → ∀ n, i ∈ l.take n ↔ l.countP (fun j => decide (Bef κ j i)) < n
  | [], _, i, h, _ => by simp at h
  | x :: l, hl, i, h, n => by
    have hp := List.pairwise_cons.mp hl
    by_cases e : i = x
    · subst e
      have h0 : l.countP (fun j => decide (Bef κ j i)) = 0 := by
        rw [List.countP_eq_zero]
        intro j hj
        simpa using (hp.1 j hj).asym
      rw [List.countP_cons, h0, if_neg (by simpa using Bef.irr)]
      cases n with
      | zero => simp
      | succ n => simp
    · have hi : i ∈ l := by rcases List.mem_cons.mp h with h | h; exact absurd h e; exact h
      rw [List.countP_cons, if_pos (by simpa using hp.1 i hi)]
      cases n with
      | zero => simp
      | succ n =>
        rw [List.take_succ_cons, List.mem_cons]
        have ih := bef_rank hp.2 hi n
        constructor
        · rintro (h | h)
          · exact absurd h e
          · have := ih.mp h; omega
        · intro h
          exact .inr (ih.mpr (by omega))
end Go.Proofs.YteegekpanadmkaaGreat

/-
  Rows of pointers at entries: stretches of them change places.
-/
namespace Go.Proofs.YteegekpanadmkaaGreat
open Go.RowKit Go.Shelf
set_option linter.unusedVariables false
set_option linter.unusedSimpArgs false
set_option maxRecDepth 100000

def pe (b i : Nat) : Value := .pointer (some ⟨b, i * 10, none⟩)
def Pr (w : World) (B b g c N : Nat) (l : List Nat) : Prop := w.ownsRow B 97 1 (.slice (some ⟨g, 0, none⟩) N c) N (l.map (pe b))
section
variable {w w' : World} {B b g c N : Nat} {l : List Nat}
theorem Pr.len (h : Pr w B b g c N l) : l.length = N := by have := h.1; rw [List.length_map, Nat.mul_one] at this; exact this
theorem Pr.at_ (h : Pr w B b g c N l) (j : Nat) (hj : j < N) (x : Nat) (hx : l[j]? = some x) : w.cell? ⟨g, j, none⟩ = some (pe b x) := by
  rw [World.ownsRow.cellAt h j (by omega), List.getElem?_map, hx]; rfl
theorem Pr.fz (h : Pr w B b g c N l) (j : Nat) : w.frozen? ⟨g, j, none⟩ = false := World.ownsRow.frozenAt h j
theorem Pr.set (h : Pr w B b g c N l) (j x : Nat) : Pr (w.setCell ⟨g, j, none⟩ (pe b x)) B b g c N (l.set j x) := by
  have := (World.ownsRow.stored h j (pe b x)).1
  unfold Pr
  rw [List.map_set]
  exact this
theorem Pr.aside {G : Nat → Prop} (h : Pr w B b g c N l) (ha : Aside G w w') (hG : ¬ G g) : Pr w' B b g c N l := row_aside h ha fun k hk => by
  have : g = k := by simpa [Value.ownBlock] using hk
  rw [← this]; exact hG
theorem Pr.cap (h : Pr w B b g c N l) : N ≤ c := by
  rcases h.2 with ⟨h', _⟩ | ⟨g', cap, cur, h', _, _, h1, _⟩
  · simp at h'
  · injection h' with _ _ h'; omega
theorem Pr.lt (h : Pr w B b g c N l) : B ≤ g ∧ g < w.heap.size := World.ownsRow.lt h g rfl
end
def PrPost (w : World) (B b g c N : Nat) (p : List Nat → Prop) (e : Ending) (w' : World) : Prop := e = .returned (.tuple #[]) ∧ ∃ l, p l ∧ Pr w' B b g c N l ∧ Aside (fun k => k = g) w w'

theorem set_mid {α : Type} (P S : List α) (x y : α) (j : Nat) (hj : P.length = j) : (P ++ x :: S).set j y = P ++ y :: S := by
  subst hj
  rw [List.set_append_right _ _ (Nat.le_refl _), Nat.sub_self]; rfl
theorem get_mid {α : Type} (P S : List α) (x : α) (j : Nat) (hj : P.length = j) : (P ++ x :: S)[j]? = some x := by
  subst hj
  rw [List.getElem?_append_right (Nat.le_refl _), Nat.sub_self]; rfl
theorem swap_two {α : Type} (P M S : List α) (x y : α) (i j : Nat) (hi : P.length = i) (hj : P.length + 1 + M.length = j) : ((P ++ x :: (M ++ y :: S)).set i y).set j x = P ++ y :: (M ++ x :: S) ∧ ((P ++ x :: (M ++ y :: S)).set j x).set i y = P ++ y :: (M ++ x :: S) ∧
    (P ++ x :: (M ++ y :: S))[i]? = some x ∧ (P ++ x :: (M ++ y :: S))[j]? = some y ∧ ((P ++ x :: (M ++ y :: S)).set i y)[j]? = some y := by
  have e1 := set_mid P (M ++ y :: S) x y i hi
  have f : ∀ z, P ++ z :: (M ++ y :: S) = (P ++ z :: M) ++ y :: S := fun z => by simp
  have fl : ∀ z, (P ++ z :: M).length = j := fun z => by simp; omega
  have e2 : ∀ z, (P ++ z :: (M ++ y :: S)).set j x = P ++ z :: (M ++ x :: S) := fun z => by rw [f, set_mid _ _ _ _ _ (fl z)]; simp
  refine ⟨by rw [e1, e2], by rw [e2, set_mid _ _ _ _ _ hi], get_mid _ _ _ _ hi, ?_, ?_⟩
  · rw [f]; exact get_mid _ _ _ _ (fl x)
  · rw [e1, f]; exact get_mid _ _ _ _ (fl y)

set_option maxHeartbeats 2000000 in
theorem swapR_any {w : World} {B b g c N : Nat} {P X M Y S : List Nat} (h : Pr w B b g c N (P ++ (X ++ (M ++ (Y ++ S))))) (hN : N ≤ 1000000) (a z n : Nat) (ha : P.length = a) (hz : P.length + X.length + M.length = z) (hx : X.length = n) (hy : Y.length = n) (f : Value) :
    Calls Tryz.prog 100 #[.slice (some ⟨g, 0, none⟩) N c, .int .i64 a, .int .i64 z, .int .i64 n, f] w (PrPost w B b g c N (fun l => l = P ++ (Y ++ (M ++ (X ++ S))))) := by
  have hlen := h.len
  rw [List.length_append, List.length_append, List.length_append, List.length_append] at hlen
  have hcap := h.cap
  have hnN : n ≤ N := by omega
  have H := Lib.hid h
  clear h
  go_enter Tryz.func100, Tryz.ntmps100
  go_wp2
  go_loopg [10] n (fun kx s wr => ∃ (i : Nat) (X1 X2 Y1 Y2 : List Nat), i + kx = n ∧ s = .int .i64 i ∧ Hid (X1.length = i ∧ Y1.length = i ∧ X = X1 ++ X2 ∧ Y = Y1 ++ Y2 ∧ Pr wr B b g c N (P ++ (Y1 ++ X2 ++ (M ++ (X1 ++ Y2 ++ S)))) ∧ Aside (fun k => k = g) w wr))
  case atStart => exact ⟨0, [], X, [], Y, by omega, rfl, Lib.hid ⟨rfl, rfl, rfl, rfl, H.out, Aside.refl _ _⟩⟩
  case round =>
    obtain ⟨i, X1, X2, Y1, Y2, hi, rfl, HH⟩ := hrel
    by_cases hlt : i < n
    · obtain ⟨k1, k2, k3, k4, k5, k6⟩ := HH.out
      obtain ⟨x, X3, rfl⟩ : ∃ x l, X2 = x :: l := by
        cases X2 with
        | nil => rw [k3] at hx; simp at hx; omega
        | cons x l => exact ⟨x, l, rfl⟩
      obtain ⟨y, Y3, rfl⟩ : ∃ x l, Y2 = x :: l := by
        cases Y2 with
        | nil => rw [k4] at hy; simp at hy; omega
        | cons x l => exact ⟨x, l, rfl⟩
      have hXl : X.length = i + (X3.length + 1) := by rw [k3]; simp [k1]
      have eL : P ++ (Y1 ++ x :: X3 ++ (M ++ (X1 ++ y :: Y3 ++ S))) = (P ++ Y1) ++ x :: ((X3 ++ (M ++ X1)) ++ y :: (Y3 ++ S)) := by simp
      have hi1 : (P ++ Y1).length = a + i := by simp [ha, k2]
      have hj1 : (P ++ Y1).length + 1 + (X3 ++ (M ++ X1)).length = z + i := by simp [k1, k2]; omega
      obtain ⟨s1, _, s2, s3, s4⟩ := swap_two (P ++ Y1) (X3 ++ (M ++ X1)) (Y3 ++ S) x y (a + i) (z + i) hi1 hj1
      rw [eL] at k5
      have hR : Pr ((wr.setCell ⟨g, a + i, none⟩ (pe b y)).setCell ⟨g, z + i, none⟩ (pe b x)) B b g c N (P ++ (Y1 ++ [y] ++ X3 ++ (M ++ (X1 ++ [x] ++ Y3 ++ S)))) := by
        have := (k5.set (a + i) y).set (z + i) x
        rw [s1] at this
        simpa using this
      have hA : Aside (fun k => k = g) w ((wr.setCell ⟨g, a + i, none⟩ (pe b y)).setCell ⟨g, z + i, none⟩ (pe b x)) := (k6.trans (Aside.setCell _ _ rfl)).trans (Aside.setCell _ _ rfl)
      have c1 := k5.at_ (a + i) (by omega) x s2
      have c2 := k5.at_ (z + i) (by omega) y s3
      have c3 := (k5.set (a + i) y).at_ (z + i) (by omega) y s4
      have f1 := k5.fz (a + i)
      have f2 := (k5.set (a + i) y).fz (z + i)
      have HR := Lib.hid hR
      have HA := Lib.hid hA
      have HK := Lib.hid (And.intro k1 (And.intro k2 (And.intro k3 k4)))
      obtain ⟨p1, hp1⟩ : ∃ k, a + i = k := ⟨_, rfl⟩
      obtain ⟨p2, hp2⟩ : ∃ k, z + i = k := ⟨_, rfl⟩
      rw [hp1, hp2] at HR HA
      rw [hp1] at c1 f1 f2 c3
      rw [hp2] at c2 c3 f2
      have w1 : IntKind.i64.wrap ((a : Int) + (i : Int)) = (p1 : Int) := by rw [IntWalk.i64_in _ (by omega)]; omega
      have w2 : IntKind.i64.wrap ((z : Int) + (i : Int)) = (p2 : Int) := by rw [IntWalk.i64_in _ (by omega)]; omega
      have b1 : p1 < N := by omega
      have b2 : p2 < N := by omega
      clear hp1 hp2 hlen
      clear HH k1 k2 k3 k4 k5 k6 hR hA s1 s2 s3 s4 eL hi1 hj1 hXl hx hy ha hz
      unfold pe at *
      go_wp2
      go_region
      go_wp2
      go_roundg (n - (i + 1))
      case rel =>
        obtain ⟨k1, k2, k3, k4⟩ := HK.out
        exact ⟨i + 1, X1 ++ [x], X3, Y1 ++ [y], Y3, by omega, by go_num, Lib.hid ⟨by simp [k1], by simp [k2], by rw [k3]; simp, by rw [k4]; simp, HR.out, HA.out.trans (Aside.drewN _ 1)⟩⟩
      case measure => omega
    · go_wp2
      go_end0
      obtain ⟨k1, k2, k3, k4, k5, k6⟩ := HH.out
      have e1 : X2 = [] := List.length_eq_zero_iff.mp (by rw [k3, List.length_append] at hx; omega)
      have e2 : Y2 = [] := List.length_eq_zero_iff.mp (by rw [k4, List.length_append] at hy; omega)
      subst e1; subst e2
      refine ⟨rfl, _, ?_, k5, k6⟩
      rw [k3, k4]
end Go.Proofs.YteegekpanadmkaaGreat
