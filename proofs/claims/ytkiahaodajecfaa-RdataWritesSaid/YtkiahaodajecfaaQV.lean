/-
  Write: plainly; what it asks of the packer.
-/
import Derived.Test.YtkiahaodajecfaaQC
import Derived.Test.YtkiahaodajecfaaKt
import Derived.Deep.Slices
import Derived.Deep.LoopGhost
import Derived.ChangeArms
import Derived.Outline
import Derived.Maps.AppendAt
import Derived.Test.YtkiahaodajecfaaTh
import Derived.Test.YtkiahaodajecfaaKo
import Derived.Test.YtkiahaodajecfaaTd
import Derived.Test.YtkiahaodajecfaaTg
import Derived.Test.YtkiahaodajecfaaKe
import Derived.Test.YtkiahaodajecfaaLa
import Derived.Deep.RegionHeld3
namespace Go.Proofs.Ytkiahaodajecfaa
open Go.RowKit Go.Shelf
set_option linter.unusedVariables false
set_option linter.unusedSimpArgs false
set_option maxRecDepth 100000

/-- Tails, and where the last name ended; what was told. -/
abbrev KK := List (List UInt8 × Nat)
structure WR where
  out : List UInt8
  code : Int
  K : KK
  e : Nat

/-- The pieces' bytes, one behind the other. -/
def wrL (a : Int) : List Pc → KK → Nat → List UInt8 → WR
  | [], K, e, acc => ⟨acc, 0, K, e⟩
  | x :: L, K, e, acc =>
    if x.2 = true then
      (if pkE e (wrap64 (a + acc.length)) x.1 ≠ 0 then ⟨[], pkE e (wrap64 (a + acc.length)) x.1, K, e⟩
       else wrL a L (nameK K e (wrap64 (a + acc.length)) x.1) (nameE K e (wrap64 (a + acc.length)) x.1) (acc ++ nameB K e (wrap64 (a + acc.length)) x.1))
    else wrL a L K e (acc ++ x.1)

def wrR (a t : Int) (d : List UInt8) (K : KK) (e : Nat) : WR := match spl t d with | .ok L => wrL a L K e [] | .bad c _ => ⟨[], c, K, e⟩

theorem nameB_len {K : KK} {e : Nat} {a : Int} {n : List UInt8} (hG : GoodK K) : (nameB K e a n).length ≤ 255 ∧ (pkE e a n = 0 → (nameB K e a n).length ≤ n.length) := by
  unfold nameB
  by_cases h : pkE e a n = 0
  · rw [if_pos h]
    have hc : chk n = 0 := by
      unfold pkE at h
      split at h
      · rename_i h1; exact absurd h h1
      · rename_i h1; simpa using h1
    obtain ⟨hs, hn⟩ := shorts_of hc
    have hl := told_le hG hs
    have e1 : nm (labs n) = n := hn.symm
    rw [e1] at hl
    have := (chk_pos hc).2
    exact ⟨by omega, fun _ => hl⟩
  · rw [if_neg h]
    exact ⟨by simp, fun h' => absurd h' h⟩

theorem pkE_chk {e : Nat} {a : Int} {n : List UInt8} (h : pkE e a n = 0) : chk n = 0 ∧ 0 ≤ a ∧ a ≤ 65535 ∧ (e : Int) ≤ a := by
  unfold pkE at h
  split at h
  · rename_i h1; exact absurd h h1
  · rename_i h1
    split at h
    · exact absurd h (by decide)
    · split at h
      · exact absurd h (by decide)
      · exact ⟨by simpa using h1, by omega, by omega, by omega⟩

theorem nameK_good {K : KK} {e : Nat} {a : Int} {n : List UInt8} (hG : GoodK K) : GoodK (nameK K e a n) ∧ (nameK K e a n).length ≤ K.length + 127 ∧ nameE K e a n ≤ max e 65790 := by
  unfold nameK nameE
  by_cases h : pkE e a n = 0
  · rw [if_pos h, if_pos h]
    obtain ⟨hc, h0, h1, h2⟩ := pkE_chk h
    obtain ⟨hs, hn⟩ := shorts_of hc
    have hh := hdn_le K (labs n)
    have hb := (nameB_len (e := e) (a := a) (n := n) hG).1
    unfold nameB at hb
    rw [if_pos h] at hb
    refine ⟨good_fr hG hs _ hh, ?_, by omega⟩
    rw [List.length_append]
    have h3 := fr_len (labs n) a.toNat (hdn K (labs n))
    have h4 := len_wire2 hs.1
    have h5 := hs.2
    omega
  · rw [if_neg h, if_neg h]
    exact ⟨hG, by omega, by omega⟩

theorem nil_made (w : World) : Calls Try.prog 43 #[.pointer none] w fun e w' => e = .returned (.bool false) ∧ w = w' := by
  go_enter Try.func43, Try.ntmps43
  go_wp2
  go_ret
  exact ⟨rfl, rfl⟩

theorem name_nil (a : Int) (s : ByteArray) (w : World) : Calls Try.prog 41 #[.pointer none, .int .i64 a, .string s] w fun e w' => e = .returned (.tuple #[.slice none 0 0, .int .i64 1]) ∧ w = w' := by
  have HM := Lib.hid (nil_made w)
  go_enter Try.func41, Try.ntmps41
  go_wp2_with fail
  refine HM.out.mono ?_; rintro e w1 ⟨rfl, rfl⟩
  go_wp2_with fail
  go_ret2
  exact ⟨rfl, rfl⟩

theorem pmade_nil (w : World) : Calls Try.prog 40 #[.pointer none] w fun e w' => e = .returned (.bool false) ∧ w = w' := by
  have HN := Lib.hid (name_nil 0 ⟨#[]⟩ w)
  go_enter Try.func40, Try.ntmps40
  go_wp2_with fail
  refine HN.out.mono ?_; rintro e w1 ⟨rfl, rfl⟩
  go_wp2_with fail
  go_ret
  exact ⟨rfl, rfl⟩

theorem write_nil (a t : Int) (s : ByteArray) (w : World) : Calls Try.prog 23 #[.pointer none, .int .i64 a, .int .i64 t, .string s] w fun e w' => e = .returned (.tuple #[.slice none 0 0, .int .i64 1]) ∧ w = w' := by
  have HM := Lib.hid (pmade_nil w)
  go_enter Try.func23, Try.ntmps23
  go_wp2_with fail
  refine HM.out.mono ?_; rintro e w1 ⟨rfl, rfl⟩
  go_wp2_with fail
  go_ret2
  exact ⟨rfl, rfl⟩

theorem chk_nil : chk [] = 4 := by unfold chk; rw [show left [] = [] from by rw [left]]; simp

theorem pmade_any {w : World} {p bm e : Nat} {K : KK} (h : Pk w p bm K e) (hG : GoodK K) (hK : K.length ≤ 900000) (he : e ≤ 1000000) : Calls Try.prog 40 #[.pointer (some ⟨p, 0, none⟩)] w fun x w' => x = .returned (.bool true) ∧ Pk w' p bm K e ∧ Aside (fun b => b = p ∨ b = bm) w w' := by
  have hE : pkE e 0 [] = 4 := by unfold pkE; rw [if_pos (by rw [chk_nil]; decide), chk_nil]
  have HN : Hid (Calls Try.prog 41 #[.pointer (some ⟨p, 0, none⟩), .int .i64 0, .string ⟨#[]⟩] w fun x w' => ∃ v, x = .returned (.tuple #[v, .int .i64 4]) ∧ Pk w' p bm K e ∧ Aside (fun b => b = p ∨ b = bm) w w') := by
    refine (show Calls Try.prog _ #[.pointer (some ⟨p, 0, none⟩), .int .i64 0, .string ⟨#[]⟩] w _ from name_any h hG hK he 0 [] (by simp)).mono ?_
    rintro x w' ⟨v, rfl, _, hp, ha⟩
    unfold nameK nameE at hp
    rw [hE, if_neg (by decide), if_neg (by decide)] at hp
    exact ⟨v, by rw [hE], hp, ha⟩
  clear h hE
  go_enter Try.func40, Try.ntmps40
  go_wp2_with fail
  refine HN.out.mono ?_; rintro e w1 ⟨v, rfl, hp, ha⟩
  have HP := Lib.hid (And.intro hp ha)
  clear hp ha
  go_wp2_with fail
  go_ret
  exact ⟨rfl, HP.out⟩
end Go.Proofs.Ytkiahaodajecfaa

/-
  Write.
-/
namespace Go.Proofs.Ytkiahaodajecfaa
open Go.RowKit Go.Shelf
set_option linter.unusedVariables false
set_option linter.unusedSimpArgs false
set_option maxRecDepth 100000

/-- Write's pieces, its row of bytes and its packer, round for round. -/
structure Wk (w wr : World) (p bm B0 : Nat) (vl vb : Value) (L : List Pc) (acc : List UInt8) (K : KK) (e : Nat) : Prop where
  rp : OwnP wr w.heap.size vl L
  lo : ∀ b, vl.ownBlock = some b → b < B0
  rb : OwnB wr B0 vb acc
  pk : Pk wr p bm K e
  has : Aside (fun b => b = p ∨ b = bm) w wr
  size : B0 ≤ wr.heap.size
  base : w.heap.size ≤ B0
  hp : p < w.heap.size
  hm : bm < w.heap.size

section
variable {w wr w' : World} {p bm B0 e : Nat} {vl vb : Value} {L : List Pc} {acc : List UInt8} {K : KK}
theorem Wk.later (h : Wk w wr p bm B0 vl vb L acc K e) (hb : Below wr.heap.size wr w') : Wk w w' p bm B0 vl vb L acc K e :=
  ⟨h.rp.below hb, h.lo, h.rb.below hb, h.pk.later hb, h.has.trans (Aside.of_all hb), Nat.le_trans h.size hb.size, h.base, h.hp, h.hm⟩
theorem Wk.name {K' : KK} {e' : Nat} (h : Wk w wr p bm B0 vl vb L acc K e) (ha : Aside (fun b => b = p ∨ b = bm) wr w') (hk : Pk w' p bm K' e') : Wk w w' p bm B0 vl vb L acc K' e' := by
  have h1 := h.hp
  have h2 := h.hm
  have h3 := h.base
  refine ⟨h.rp.aside ha fun b hb hg => ?_, h.lo, h.rb.aside ha fun b hb hg => ?_, hk, h.has.trans ha, Nat.le_trans h.size ha.size, h3, h1, h2⟩
  · have := (h.rp.lt b hb).1; omega
  · have := (h.rb.lt b hb).1; omega
theorem Wk.app (h : Wk w wr p bm B0 vl vb L acc K e) {xv : Value} {l' : List UInt8} {lo hi : Nat} (hx : Sl wr lo hi xv (iz l')) (hb : acc.length + l'.length ≤ 1000000) :
    ∃ a' c' w', (Builtin.append_ #[42, 42] 42 #[vb, xv]).run Try.prog wr = .ok (.slice a' (acc.length + l'.length) c') w' ∧ Wk w w' p bm B0 vl (.slice a' (acc.length + l'.length) c') L (acc ++ l') K e := by
  obtain ⟨a', c', w', h1, h2, ha⟩ := run_appBs B0 vb xv acc l' h.rb hx hb h.size
  have hlt := h.rb.lt
  have g1 := h.hp
  have g2 := h.hm
  have g3 := h.base
  refine ⟨a', c', w', h1, h.rp.aside ha fun b hb hg => by have := h.lo b hb; have := (hlt b hg).1; omega, h.lo, h2, h.pk.aside ha (fun hg => by have := (hlt p hg).1; omega) (fun hg => by have := (hlt bm hg).1; omega), ?_, Nat.le_trans h.size ha.size, g3, g1, g2⟩
  have ha2 : Aside (fun b => w.heap.size ≤ b) wr w' := ha.mono fun b _ hg => by have := (hlt b hg).1; omega
  exact ⟨ha2.os.trans h.has.os, ha2.tape.trans h.has.tape, ha2.output.trans h.has.output, Nat.le_trans h.has.size ha2.size, fun b hb hg => (ha2.block b (Nat.lt_of_lt_of_le hb h.has.size) (by omega)).trans (h.has.block b hb hg)⟩
end

def WrPost (w : World) (p bm : Nat) (R : WR) (x : Ending) (w' : World) : Prop :=
  ∃ v, x = .returned (.tuple #[v, .int .i64 R.code]) ∧ OwnB w' w.heap.size v R.out ∧ Pk w' p bm R.K R.e ∧ Aside (fun b => b = p ∨ b = bm) w w'

theorem fits_nam {ks : List PK} {L : List Pc} (h : Fits ks L) : ∀ x ∈ L, x.2 = true → chk x.1 = 0 := by
  induction h with
  | nil => simp
  | fix h h2 ih => intro x hx hf; rcases List.mem_cons.mp hx with rfl | hx; cases hf; exact ih x hx hf
  | nam h h2 ih => intro x hx hf; rcases List.mem_cons.mp hx with rfl | hx; exact h; exact ih x hx hf
  | txt h => intro x hx hf; obtain rfl := List.mem_singleton.mp hx; cases hf
  | rst => intro x hx hf; obtain rfl := List.mem_singleton.mp hx; cases hf

set_option maxHeartbeats 8000000 in
theorem write_any {w : World} {p bm e : Nat} {K : KK} (h : Pk w p bm K e) (hG : GoodK K) (hK : K.length ≤ 800000) (he : e ≤ 900000) (a t : Int) (d : List UInt8) (hd : d.length ≤ 1000000) :
    Calls Try.prog 23 #[.pointer (some ⟨p, 0, none⟩), .int .i64 a, .int .i64 t, .string (bs d)] w (WrPost w p bm (wrR a t d K e)) := by
  have HM := Lib.hid (pmade_any h hG (by omega) (by omega))
  have hpl := h.lt
  have hml := h.map.lt
  rcases hR : spl t d with L | ⟨c, aa⟩
  · have eR : wrR a t d K e = wrL a L K e [] := by unfold wrR; rw [hR]
    rw [eR]
    have HS := Lib.hid (fun wx => split_ok hR hd wx)
    obtain ⟨_, _, hd6, hf, hj⟩ := spl_ok hR
    have hfl := fits_len hf
    have hk3 := (kinds_small t).1
    have HP := Lib.hid (fun k (h : k < L.length) => show L[k].1.length ≤ 65535 from by
      have h1 := joined_take h
      have h2 := joined_part L (k + 1)
      rw [h1, List.length_append, hj] at h2
      omega)
    have HNM := Lib.hid (fun k (h : k < L.length) (h2 : L[k].2 = true) => fits_nam hf L[k] (List.getElem_mem h) h2)
    obtain ⟨X, hX⟩ : ∃ X, wrL a L K e [] = X := ⟨_, rfl⟩
    rw [hX]
    have HX := Lib.hid hX
    obtain ⟨n, hn⟩ : ∃ n, L.length = n := ⟨_, rfl⟩
    have HN := Lib.hid hn
    have hn3 : n ≤ 3 := by omega
    clear hR eR hf hj hfl hk3 hd6 hn hX h
    go_enter Try.func23, Try.ntmps23
    go_wp2_with fail
    refine HM.out.mono ?_; rintro e0 w1 ⟨rfl, hpk1, ha1⟩
    have HP1 := Lib.hid (And.intro hpk1 ha1)
    clear hpk1 ha1
    go_wp2_with fail
    refine (HS.out w1).mono ?_; rintro e0 w2 ⟨vl, rfl, hown, hb2⟩
    have HWk : Hid (Wk w w2 p bm w2.heap.size vl (.slice none 0 0) L [] K e) := ⟨hown.mono HP1.out.2.size, fun b hb => (hown.lt b hb).2, OwnB.nil _ _, HP1.out.1.later hb2, HP1.out.2.trans (Aside.of_all hb2), Nat.le_refl _, Nat.le_trans HP1.out.2.size hb2.size, hpl, hml⟩
    obtain ⟨al, cl, rfl⟩ := hown.shape
    rw [HN.out] at HWk ⊢
    obtain ⟨B0, hB0⟩ : ∃ B0, w2.heap.size = B0 := ⟨_, rfl⟩
    rw [hB0] at HWk
    clear hown hb2 hB0 HP1 HM
    go_wp2_with fail
    go_loopg [12, 30] n (fun g v12 v30 wr => ∃ (k z : Nat) (acc : List UInt8) (K' : KK) (e' : Nat) (ab : Option Addr) (cb : Nat), k + g = n ∧ v30 = .int .i64 k ∧ v12 = .slice ab z cb ∧ acc.length = z ∧ z ≤ 65535 * k ∧ K'.length ≤ K.length + 127 * k ∧ e' ≤ 1000000 ∧ Hid (Wk w wr p bm B0 (.slice al n cl) (.slice ab z cb) L acc K' e') ∧ Hid (GoodK K') ∧ Hid (wrL a (L.drop k) K' e' acc = X))
    case atStart => exact ⟨0, 0, [], K, e, none, 0, by omega, rfl, rfl, rfl, by omega, by omega, by omega, HWk, hG, HX⟩
    case round =>
      obtain ⟨k, z, acc, K', e', ab, cb, hk, rfl, rfl, hz, hzl, hKl, hel, HW, HGk, HXk⟩ := hrel
      clear HWk
      by_cases hlt0 : k < n
      · have hlt : k < L.length := by have := HN.out; omega
        obtain ⟨g0, c0, he0, hc0, hc1⟩ := OwnP.at_ HW.out.rp k hlt
        injection he0 with he1 he2 he3
        subst he1
        subst he3
        have hxl := HP.out k hlt
        have hst := HXk.out
        rw [List.drop_eq_getElem_cons hlt, wrL] at hst
        obtain ⟨x, hx⟩ : ∃ x, L[k].1 = x := ⟨_, rfl⟩
        obtain ⟨f, hf⟩ : ∃ f, L[k].2 = f := ⟨_, rfl⟩
        rw [hx] at hc0 hxl hst
        rw [hf] at hc1 hst
        rw [hz] at hst
        have hal : Below wr.heap.size wr (wr.alloc (.cells #[.string (bs x), .bool f] 63)) := (Below.refl _ _).alloc (Nat.le_refl _) _
        obtain ⟨cap, W, hcv, ho, hbW, hltW⟩ := conv_B (wr.alloc (.cells #[.string (bs x), .bool f] 63)) x (by omega)
        have hsz : (wr.alloc (.cells #[.string (bs x), .bool f] 63)).heap.size = wr.heap.size + 1 := World.size_alloc _ _
        rw [hsz] at hcv ho hbW hltW
        have d0 : W.cell? ⟨wr.heap.size, 0, none⟩ = some (.string (bs x)) := (hbW.cell (p := ⟨wr.heap.size, 0, none⟩) (Nat.lt_succ_self _)).trans (by simp [go_sem])
        have d1 : W.cell? ⟨wr.heap.size, 1, none⟩ = some (.bool f) := (hbW.cell (p := ⟨wr.heap.size, 1, none⟩) (Nat.lt_succ_self _)).trans (by simp [go_sem])
        have HWW := Lib.hid ((HW.out.later hal).later (by rw [hsz]; exact hbW))
        have HO := Lib.hid ho
        have hnm := fun h => HNM.out k hlt h
        rw [hf, hx] at hnm
        clear hx hf hal ho hbW hltW he2 hsz
        cases f with
        | false =>
          rw [if_neg (by simp)] at hst
          have HST := Lib.hid hst
          obtain ⟨l2, hl2⟩ : ∃ l2, x.length = l2 := ⟨_, rfl⟩
          obtain ⟨a3, c3, w3, hr3, hk3⟩ := HWW.out.app HO.out.sl (by omega)
          rw [hz, hl2] at hr3 hk3
          have HR3 := Lib.hid hr3
          have HK3 := Lib.hid hk3
          have hzl2 : z + l2 ≤ 65535 * (k + 1) := by omega
          have hlen : (acc ++ x).length = z + l2 := by rw [List.length_append, hz, hl2]
          rw [hl2] at hcv
          clear hr3 hk3 hst hl2 HO
          go_wp2_with (at_builtin; refine wpList_append_run (.tmp 53) (.tmp 54) 42 42 rfl rfl rfl rfl HR3.out ?_)
          go_roundg (n - (k + 1))
          case measure => omega
          case rel => exact ⟨k + 1, z + l2, acc ++ x, K', e', a3, c3, by omega, by go_num, by simp, hlen, hzl2, by omega, hel, HK3, HGk, HST⟩
        | true =>
          rw [if_pos rfl] at hst
          have hx255 := (chk_pos (hnm rfl)).2
          have hnb := nameB_len (e := e') (a := wrap64 (a + z)) (n := x) HGk.out
          have hnk := nameK_good (e := e') (a := wrap64 (a + z)) (n := x) HGk.out
          have HNm0 := name_any HWW.out.pk HGk.out (by omega) (by omega) (wrap64 (a + z)) x (by omega)
          obtain ⟨q, hq⟩ : ∃ q, wrap64 (a + z) = q := ⟨_, rfl⟩
          rw [hq] at hst hnb hnk HNm0
          by_cases hE : pkE e' q x = 0
          · rw [if_neg (by simpa using hE)] at hst
            have HST := Lib.hid hst
            obtain ⟨T, hT⟩ : ∃ T, nameB K' e' q x = T := ⟨_, rfl⟩
            obtain ⟨K2, hK2⟩ : ∃ K2, nameK K' e' q x = K2 := ⟨_, rfl⟩
            obtain ⟨e2, he2⟩ : ∃ e2, nameE K' e' q x = e2 := ⟨_, rfl⟩
            rw [hT, hK2, he2] at HST
            have HNm : Hid (Calls Try.prog 41 #[.pointer (some ⟨p, 0, none⟩), .int .i64 q, .string (bs x)] W fun y w' => ∃ v, y = .returned (.tuple #[v, .int .i64 0]) ∧ OwnB w' W.heap.size v T ∧ Pk w' p bm K2 e2 ∧ Aside (fun b => b = p ∨ b = bm) W w') := by
              refine HNm0.mono ?_
              rintro y w' ⟨v, rfl, g1, g2, g3⟩
              rw [hE]
              rw [hT] at g1
              rw [hK2, he2] at g2
              exact ⟨v, rfl, g1, g2, g3⟩
            rw [hT] at hnb
            rw [hK2, he2] at hnk
            clear hst HNm0 hT hK2 he2 hE hnm
            go_wp2_with fail
            rw [hq]
            refine HNm.out.mono ?_; rintro e0 w3 ⟨v3, rfl, ho3, hpk3, ha3⟩
            have HK3 := HWW.out.name ha3 hpk3
            obtain ⟨l2, hl2⟩ : ∃ l2, T.length = l2 := ⟨_, rfl⟩
            obtain ⟨a4, c4, w4, hr4, hk4⟩ := HK3.app ho3.sl (by omega)
            obtain ⟨a5, c5, rfl⟩ := ho3.shape
            rw [hz, hl2] at hr4 hk4
            rw [hl2] at hnb ⊢
            have HR4 := Lib.hid hr4
            have HK4 := Lib.hid hk4
            have hzl2 : z + l2 ≤ 65535 * (k + 1) := by omega
            have hlen : (acc ++ T).length = z + l2 := by rw [List.length_append, hz, hl2]
            have hG2 := Lib.hid hnk.1
            clear hr4 hk4 hl2 HO ho3 hpk3 ha3 HK3 hq
            go_wp2_with (at_builtin; refine wpList_append_run (.tmp 53) (.tmp 54) 42 42 rfl rfl rfl rfl HR4.out ?_)
            go_roundg (n - (k + 1))
            case measure => omega
            case rel => exact ⟨k + 1, z + l2, acc ++ T, K2, e2, a4, c4, by omega, by go_num, by simp, hlen, hzl2, by omega, by omega, HK4, hG2, HST⟩
          · rw [if_pos (by simpa using hE)] at hst
            have HST := Lib.hid hst
            have hnk0 : nameK K' e' q x = K' ∧ nameE K' e' q x = e' := by unfold nameK nameE; rw [if_neg hE, if_neg hE]; exact ⟨rfl, rfl⟩
            obtain ⟨cc, hcc⟩ : ∃ cc, pkE e' q x = cc := ⟨_, rfl⟩
            rw [hcc] at HST hE
            have HNm : Hid (Calls Try.prog 41 #[.pointer (some ⟨p, 0, none⟩), .int .i64 q, .string (bs x)] W fun y w' => ∃ v, y = .returned (.tuple #[v, .int .i64 cc]) ∧ Pk w' p bm K' e' ∧ Aside (fun b => b = p ∨ b = bm) W w') := by
              refine HNm0.mono ?_
              rintro y w' ⟨v, rfl, _, g2, g3⟩
              rw [hcc]
              rw [hnk0.1, hnk0.2] at g2
              exact ⟨v, rfl, g2, g3⟩
            have tc : (cc != 0) = true := by simpa using hE
            clear hst HNm0 hcc hE hnm hnk0 hnk hnb
            go_wp2_with fail
            rw [hq]
            refine HNm.out.mono ?_; rintro e0 w3 ⟨v3, rfl, hpk3, ha3⟩
            have HK3 := Lib.hid (HWW.out.name ha3 hpk3)
            clear hpk3 ha3 hq
            go_wp2_with fail
            go_ret2
            rw [← HST.out]
            exact ⟨_, rfl, OwnB.nil _ _, HK3.out.pk, HK3.out.has⟩
      · have hXe : wrL a [] K' e' acc = X := by have h := HXk.out; rw [List.drop_eq_nil_of_le (by have := HN.out; omega)] at h; exact h
        have HXe := Lib.hid hXe
        clear hXe
        go_wp2_with fail
        go_ret2
        rw [← HXe.out]
        have hh := HW.out
        exact ⟨_, rfl, hh.rb.mono hh.base, hh.pk, hh.has⟩
  · have eR : wrR a t d K e = ⟨[], c, K, e⟩ := by unfold wrR; rw [hR]
    rw [eR]
    have HS := Lib.hid (fun wx => split_bad hR hd wx)
    have tc : (c != 0) = true := by simpa using code_bad hR
    clear hR eR h
    go_enter Try.func23, Try.ntmps23
    go_wp2_with fail
    refine HM.out.mono ?_; rintro e0 w1 ⟨rfl, hpk1, ha1⟩
    have HP1 := Lib.hid (And.intro hpk1 ha1)
    clear hpk1 ha1
    go_wp2_with fail
    refine (HS.out w1).mono ?_; rintro e0 w2 ⟨vl, rfl, hb2⟩
    have HP2 := Lib.hid (And.intro (HP1.out.1.later hb2) (HP1.out.2.trans (Aside.of_all hb2)))
    clear hb2
    go_wp2_with fail
    go_ret2
    exact ⟨_, rfl, OwnB.nil _ _, HP2.out⟩
end Go.Proofs.Ytkiahaodajecfaa

/-
  Acts that came in: types, places, whether these are places as they are, data.
-/
namespace Go.Proofs.Ytkiahaodajecfaa
open Go.RowKit Go.Shelf
set_option linter.unusedVariables false
set_option maxRecDepth 100000

/-- A type, a number, whether it is a place as it is, data. -/
structure AQ where
  t : Int
  a : Int
  r : Bool
  d : List UInt8

/-- The cells of an act. -/
def AtQ (w : World) (b o : Nat) (x : AQ) : Prop :=
  w.cell? ⟨b, o, none⟩ = some (.int .i64 x.t) ∧ w.cell? ⟨b, o + 1, none⟩ = some (.int .i64 x.a) ∧ w.cell? ⟨b, o + 2, none⟩ = some (.bool x.r) ∧ w.cell? ⟨b, o + 3, none⟩ = some (.string (bs x.d))

/-- The slice v reads as these acts; what it leads to lies in blocks below hi. -/
def Aq (w : World) (hi : Nat) (v : Value) (l : List AQ) : Prop :=
  ∃ a c, v = .slice a l.length c ∧ (0 < l.length → ∃ b off, a = some ⟨b, off, none⟩ ∧ b < hi ∧ ∀ j (h : j < l.length), AtQ w b (off + j * 4) l[j] ∧ (Lit.int .i64 l[j].t).wf = true ∧ (Lit.int .i64 l[j].a).wf = true)

theorem AtQ.keep {w w' : World} {b o : Nat} {x : AQ} (h : AtQ w b o x) (hk : ∀ o, w'.cell? ⟨b, o, none⟩ = w.cell? ⟨b, o, none⟩) : AtQ w' b o x :=
  ⟨(hk _).trans h.1, (hk _).trans h.2.1, (hk _).trans h.2.2.1, (hk _).trans h.2.2.2⟩

theorem Aq.below {w w' : World} {hi B : Nat} {v : Value} {l : List AQ} (h : Aq w hi v l) (hb : Below B w w') (hB : hi ≤ B) : Aq w' hi v l := by
  obtain ⟨a, c, rfl, hx⟩ := h
  refine ⟨a, c, rfl, fun h0 => ?_⟩
  obtain ⟨b, off, rfl, h1, h2⟩ := hx h0
  refine ⟨b, off, rfl, h1, fun j hj => ?_⟩
  obtain ⟨c0, c1⟩ := h2 j hj
  exact ⟨c0.keep fun o => hb.cell (p := ⟨b, o, none⟩) (Nat.lt_of_lt_of_le h1 hB), c1⟩

/-- Are there too many, or is one of the first ones too long? -/
def longQ (l : List AQ) : Bool := (l.take 41).any (fun x => decide (3000 < x.d.length)) || decide (40 < l.length)

set_option maxHeartbeats 1000000 in
theorem longQ_any {w : World} {hi : Nat} {v : Value} {l : List AQ} (h : Aq w hi v l) : Calls Try.prog 21 #[v] w fun e w' => e = .returned (.bool (longQ l)) ∧ w = w' := by
  obtain ⟨a, c, rfl, hx⟩ := h
  obtain ⟨r, hr⟩ : ∃ r, longQ l = r := ⟨_, rfl⟩
  rw [hr]
  have HR := Lib.hid hr
  have HX := Lib.hid hx
  clear hr hx
  go_enter Try.func21, Try.ntmps21
  go_wp2
  go_loopg [3] 42 (fun g v3 wr => ∃ k : Nat, k + g = 42 ∧ v3 = .int .i64 k ∧ k ≤ l.length ∧ k ≤ 41 ∧ Hid ((l.take k).any (fun x => decide (3000 < x.d.length)) = false) ∧ w = wr)
  case atStart => exact ⟨0, by omega, rfl, Nat.zero_le _, by omega, by simp [Hid], rfl⟩
  case round =>
    obtain ⟨k, hk, rfl, hkl, hk41, HA, rfl⟩ := hrel
    by_cases h1 : k < l.length
    · by_cases h2 : k < 41
      · obtain ⟨b, off, rfl, _, hcc⟩ := HX.out (by omega)
        obtain ⟨⟨_, _, _, c3⟩, _⟩ := hcc k h1
        have hany := HA.out
        have htk : l.take (k + 1) = l.take k ++ [l[k]] := by rw [List.take_add_one, List.getElem?_eq_getElem h1]; rfl
        by_cases h4 : 3000 < l[k].d.length
        · have HE := Lib.hid (show r = true by
            rw [← HR.out]
            unfold longQ
            rw [Bool.or_eq_true]
            refine .inl (List.any_eq_true.mpr ⟨l[k], ?_, by simpa using h4⟩)
            exact List.mem_take_iff_getElem.mpr ⟨k, by omega, rfl⟩)
          obtain ⟨n, hn⟩ : ∃ n, l[k].d = n := ⟨_, rfl⟩
          rw [hn] at c3 h4
          have hns : (bs n).size = n.length := bs_size n
          clear hany htk hcc hn HA
          go_wp2_with fail
          go_ret
          exact ⟨by rw [HE.out]; rfl, rfl⟩
        · have HA2 := Lib.hid (show (l.take (k + 1)).any (fun x => decide (3000 < x.d.length)) = false by rw [htk, List.any_append, hany]; simpa using h4)
          obtain ⟨n, hn⟩ : ∃ n, l[k].d = n := ⟨_, rfl⟩
          rw [hn] at c3 h4
          have hns : (bs n).size = n.length := bs_size n
          clear hany htk hcc hn HA
          go_wp2_with fail
          go_roundg (42 - (k + 1))
          case measure => omega
          case rel => exact ⟨k + 1, by omega, by go_num, by omega, by omega, HA2, rfl⟩
      · have hk : k = 41 := by omega
        subst hk
        have t40 : 40 < l.length := by omega
        have HE := Lib.hid (show r = true by rw [← HR.out]; unfold longQ; rw [decide_eq_true t40, Bool.or_true])
        clear HA
        go_wp2_with fail
        go_ret
        exact ⟨by rw [HE.out]; simp; omega, rfl⟩
    · have hke : k = l.length := by omega
      have HE := Lib.hid (show r = decide (40 < l.length) by
        rw [← HR.out]
        unfold longQ
        rw [List.take_of_length_le (by omega)]
        have := HA.out
        rw [List.take_of_length_le (by omega)] at this
        rw [this, Bool.false_or])
      clear HA
      have t1 : ¬ ((k : Int) < l.length) := by omega
      go_wp2_with fail
      go_ret
      exact ⟨by rw [HE.out]; simp; omega, rfl⟩

theorem longQ_no {l : List AQ} (h : longQ l = false) : l.length ≤ 40 ∧ ∀ k (hk : k < l.length), l[k].d.length ≤ 3000 := by
  unfold longQ at h
  rw [Bool.or_eq_false_iff] at h
  obtain ⟨h1, h2⟩ := h
  have h3 : l.length ≤ 40 := by simpa using h2
  rw [List.take_of_length_le (by omega)] at h1
  exact ⟨h3, fun k hk => by
    have := List.any_eq_false.mp h1 l[k] (List.getElem_mem hk)
    simpa using this⟩

/-- What is known of a slice of acts that came in. -/
def IsActs (w : World) (a : Option Addr) (len cap : Nat) : Prop :=
  (a = none ∧ len = 0 ∧ cap = 0) ∨ ∃ x, a = some x ∧ ∀ i, i < len → ∃ (t n : Int) (r : Bool) (s : ByteArray), w.cell? (x.add (i * 4)) = some (.int .i64 t) ∧ w.cell? (x.add (i * 4 + 1)) = some (.int .i64 n) ∧ w.cell? (x.add (i * 4 + 2)) = some (.bool r) ∧ w.cell? (x.add (i * 4 + 3)) = some (.string s) ∧ (Lit.int .i64 t).wf = true ∧ (Lit.int .i64 n).wf = true

theorem cells_act : Try.prog.cellsOf 40 = 4 := by kernel_rfl
theorem cells_str : Try.prog.cellsOf 9 = 1 := by kernel_rfl
theorem cells_int : Try.prog.cellsOf 3 = 1 := by kernel_rfl
theorem cells_bool : Try.prog.cellsOf 4 = 1 := by kernel_rfl

theorem open_acts {H : Type} {enc : TypeId × Value → H} {w : World} {base fuel : Nat} {spare : Nat → Bool} {held : Bool} {a : Option Addr} {len cap : Nat} {x : DataW H × List MemPlace}
    (h : DataW.trod enc Try.prog w base spare held fuel 31 (Value.slice a len cap).cells.toList = some x) : IsActs w a len cap := by
  have hcs : (Value.slice a len cap).cells.toList = [.slice a len cap] := by simp [Value.cells]
  rw [hcs] at h
  rcases Deep.open_slice Try.underlying31 h with ⟨h1, _⟩ | ⟨b, l, c, m, n, D, Pl, h1, _, h2, _, h3, _, h4⟩
  · injection h1 with h1 _
    injection h1 with e1 e2 e3
    exact .inl ⟨e1, e2, e3⟩
  · injection h1 with h1 _
    injection h1 with e1 e2 e3
    subst e1; subst e2; subst e3
    refine .inr ⟨b, rfl, fun i hi => ?_⟩
    have hm : len ≤ m := by rw [h3]; split <;> omega
    obtain ⟨cs, h5, h6⟩ := h4 i (by omega)
    rw [cells_act] at h5
    obtain ⟨_, h7, h8⟩ := World.cells?_some h5
    obtain ⟨xs, k, _, _, _, h9, h10⟩ := DataW.trod_struct Try.underlying40 h6
    match cs, h7 with
    | [v0, v1, v2, v3], _ =>
      have c0 := h8 0 (by omega)
      have c1 := h8 1 (by omega)
      have c2 := h8 2 (by omega)
      have c3 := h8 3 (by omega)
      have g0 := h10 0 _ rfl
      have g1 := h10 1 _ rfl
      have g2 := h10 2 _ rfl
      have g3 := h10 3 _ rfl
      match xs, h9 with
      | [y0, y1, y2, y3], _ =>
        simp [cells_str, cells_int, cells_bool] at g0 g1 g2 g3
        obtain ⟨t, k0, _, hw0⟩ := DataW.trod_int Try.underlying3 g0
        obtain ⟨q, k1, _, hw⟩ := DataW.trod_int Try.underlying3 g1
        obtain ⟨r, k2, _⟩ := DataW.trod_bool Try.underlying4 g2
        obtain ⟨s, k3, _, _⟩ := DataW.trod_string Try.underlying9 g3
        injection k0 with k0 _
        injection k1 with k1 _
        injection k2 with k2 _
        injection k3 with k3 _
        subst k0; subst k1; subst k2; subst k3
        rw [Deep.add_add] at c0 c1 c2 c3
        exact ⟨t, q, r, s, by simpa using c0, by simpa using c1, by simpa using c2, by simpa using c3, hw0, hw⟩

/-- Such a slice as acts. -/
theorem acts_of {w : World} {a : Option Addr} {len cap : Nat} (h : IsActs w a len cap) : ∃ l : List AQ, len = l.length ∧ Aq w w.heap.size (.slice a len cap) l := by
  rcases h with ⟨rfl, rfl, rfl⟩ | ⟨x, rfl, hx⟩
  · exact ⟨[], rfl, none, 0, rfl, fun h => by simp at h⟩
  · have hch : ∀ n, n ≤ len → ∃ l : List AQ, l.length = n ∧ ∀ i (h : i < l.length), w.cell? (x.add (i * 4)) = some (.int .i64 l[i].t) ∧ w.cell? (x.add (i * 4 + 1)) = some (.int .i64 l[i].a) ∧ w.cell? (x.add (i * 4 + 2)) = some (.bool l[i].r) ∧ w.cell? (x.add (i * 4 + 3)) = some (.string (bs l[i].d)) ∧ (Lit.int .i64 l[i].t).wf = true ∧ (Lit.int .i64 l[i].a).wf = true := by
      intro n
      induction n with
      | zero => intro _; exact ⟨[], rfl, fun i h => by simp at h⟩
      | succ n ih =>
        intro hn
        obtain ⟨l, h1, h2⟩ := ih (by omega)
        obtain ⟨t, q, r, s, c0, c1, c2, c3, w0, w1⟩ := hx n (by omega)
        refine ⟨l ++ [⟨t, q, r, s.data.toList⟩], by simp [h1], fun i hi => ?_⟩
        rw [List.length_append, List.length_singleton] at hi
        by_cases e : i < l.length
        · rw [List.getElem_append_left e]; exact h2 i e
        · have : i = l.length := by omega
          subst this
          rw [List.getElem_append_right (Nat.le_refl _)]
          simp only [Nat.sub_self, List.getElem_cons_zero]
          rw [h1, ← bs_eta]
          exact ⟨c0, c1, c2, c3, w0, w1⟩
    obtain ⟨l, h1, h2⟩ := hch len (Nat.le_refl _)
    refine ⟨l, h1.symm, some x, cap, by rw [h1], fun h0 => ?_⟩
    obtain ⟨b, off, spot⟩ := x
    have c0 := (h2 0 h0).1
    have hspot : spot = none := by simpa [Addr.add] using World.cell?_spot c0
    subst hspot
    have hlt : b < w.heap.size := by
      rw [WideShapes.add_plain] at c0
      exact World.block_lt_of_cell? w _ c0
    refine ⟨b, off, rfl, hlt, fun j hj => ?_⟩
    obtain ⟨c0, c1, c2, c3, w0, w1⟩ := h2 j hj
    rw [WideShapes.add_plain] at c0 c1 c2 c3
    exact ⟨⟨c0, by rw [Nat.add_assoc]; exact c1, by rw [Nat.add_assoc]; exact c2, by rw [Nat.add_assoc]; exact c3⟩, w0, w1⟩
end Go.Proofs.Ytkiahaodajecfaa

/-
  What is written is read as it was; plainly.
-/
namespace Go.Proofs.Ytkiahaodajecfaa
open Go.RowKit Go.Shelf
set_option linter.unusedVariables false
set_option maxRecDepth 100000

theorem toldE_rd {b : List UInt8} {K : KK} {e : Nat} {P : KK} (h : Inv b K e P) {ls : List (List UInt8)} (hs : Shorts ls) :
    ∀ d k, k + d = hdn K ls → ∀ part, b.length ≤ part → StandE (b ++ told K ls) part (b.length + pos ls k) (ls.drop k) (b.length + (told K ls).length) := by
  have hll := hdn_le K ls
  intro d
  induction d with
  | zero =>
    intro k hk part hp
    have hkh : k = hdn K ls := by omega
    subst hkh
    rcases Nat.lt_or_ge (hdn K ls) ls.length with hlt | hge
    · obtain ⟨x, hx⟩ := hdn_stop hlt
      have hx2 := good_lt h.good hx
      have hxe := h.ahead _ (plc_mem hx)
      obtain ⟨p1, p2⟩ := ptr_pb hx2
      have htd : told K ls = wire (ls.take (hdn K ls)) ++ [UInt8.ofNat (192 + x / 256), UInt8.ofNat (x % 256)] := by unfold told restb; rw [hx]; rfl
      have hpl : pos ls (hdn K ls) = (wire (ls.take (hdn K ls))).length := rfl
      have g0 : (b ++ told K ls)[b.length + pos ls (hdn K ls)]? = some (UInt8.ofNat (192 + x / 256)) := by
        rw [htd, List.getElem?_append_right (by omega), Nat.add_sub_cancel_left, hpl, List.getElem?_append_right (Nat.le_refl _), Nat.sub_self]; rfl
      have g1 : (b ++ told K ls)[b.length + pos ls (hdn K ls) + 1]? = some (UInt8.ofNat (x % 256)) := by
        rw [htd, List.getElem?_append_right (by omega), show b.length + pos ls (hdn K ls) + 1 - b.length = pos ls (hdn K ls) + 1 by omega, hpl, List.getElem?_append_right (by omega), show (wire (ls.take (hdn K ls))).length + 1 - (wire (ls.take (hdn K ls))).length = 1 by omega]; rfl
      obtain ⟨i0, g0⟩ := List.getElem?_eq_some_iff.mp g0
      obtain ⟨i1, g1⟩ := List.getElem?_eq_some_iff.mp g1
      have hen : b.length + (told K ls).length = b.length + pos ls (hdn K ls) + 2 := by rw [htd, List.length_append, hpl]; simp; omega
      rw [hen]
      exact .lead (to := x) i1 (by rw [g0]; exact p2) (by rw [g0, g1]; exact p1) (by have := h.last; have : x < e := hxe; omega) ((h.tails _ x (shorts_drop hs _) (plc_mem hx)).more _)
    · have hke : hdn K ls = ls.length := by omega
      have htd : told K ls = wire ls ++ [0] := by
        unfold told restb
        rw [hke, List.take_length, List.drop_length]
        show wire ls ++ (match plc K [0] with | some x => pb x | none => [0]) = _
        rw [good_root h.good]
      rw [hke, List.drop_length]
      have hpl : pos ls ls.length = (wire ls).length := by unfold pos; rw [List.take_length]
      have g0 : (b ++ told K ls)[b.length + pos ls ls.length]? = some 0 := by
        rw [htd, List.getElem?_append_right (by omega), Nat.add_sub_cancel_left, hpl, List.getElem?_append_right (Nat.le_refl _), Nat.sub_self]; rfl
      obtain ⟨i0, g0⟩ := List.getElem?_eq_some_iff.mp g0
      have hen : b.length + (told K ls).length = b.length + pos ls ls.length + 1 := by rw [htd, List.length_append, hpl]; simp; omega
      rw [hen]
      exact .zero i0 (by rw [g0]; rfl)
  | succ d ih =>
    intro k hk part hp
    have hkl : k < ls.length := by omega
    have e : ls.drop k = ls[k] :: ls.drop (k + 1) := List.drop_eq_getElem_cons hkl
    have h63 := hs.1 ls[k] (List.getElem_mem hkl)
    rw [e]
    have hcut : ((b ++ told K ls).drop (b.length + pos ls k)).take (1 + ls[k].length) = wire [ls[k]] := by
      have h1 : ls.take (hdn K ls) = ls.take k ++ (ls[k] :: (ls.drop (k + 1)).take d) := by
        rw [← hk, List.take_add, e, List.take_succ_cons]
      unfold told
      rw [h1, wire_app, List.append_assoc]
      rw [show b.length + pos ls k = b.length + (wire (ls.take k)).length from rfl, List.drop_append, List.drop_eq_nil_of_le (by omega), List.nil_append, Nat.add_sub_cancel_left, List.drop_left]
      rw [show ls[k] :: (ls.drop (k + 1)).take d = [ls[k]] ++ (ls.drop (k + 1)).take d from rfl, wire_app, List.append_assoc]
      rw [List.take_left' (by simp [wire]; omega)]
    have hpe : b.length + pos ls k + (1 + ls[k].length) = b.length + pos ls (k + 1) := by rw [pos_succ hkl]; omega
    refine .label h63.1 h63.2 ?_ hcut (by rw [hpe]; exact ih (k + 1) (by omega) part hp)
    have := congrArg List.length hcut
    rw [List.length_take, List.length_drop, List.length_append] at this
    rw [List.length_append]
    simp only [wire, List.length_append, List.length_cons, List.length_nil] at this
    omega

/-- From p up to q these pieces stand. -/
inductive Lies (b : List UInt8) : Nat → List Pc → Nat → Prop
  | nil {p : Nat} (h : p ≤ b.length) : Lies b p [] p
  | byt {p q : Nat} {x : List UInt8} {L : List Pc} (h : (b.drop p).take x.length = x) (h2 : p + x.length ≤ b.length) (r : Lies b (p + x.length) L q) : Lies b p ((x, false) :: L) q
  | nam {p q en : Nat} {ls : List (List UInt8)} {L : List Pc} (hs : Shorts ls) (h : StandE b p p ls en) (r : Lies b en L q) : Lies b p ((nm ls, true) :: L) q

theorem Lies.more {b : List UInt8} {p q : Nat} {L : List Pc} (h : Lies b p L q) (c : List UInt8) : Lies (b ++ c) p L q := by
  induction h with
  | nil h => exact .nil (by rw [List.length_append]; omega)
  | byt h h2 _ ih =>
    refine .byt ?_ (by rw [List.length_append]; omega) ih
    rw [List.drop_append_of_le_length (by omega), List.take_append_of_le_length (by rw [List.length_drop]; omega)]
    exact h
  | nam hs h _ ih => exact .nam hs (h.more c) ih

theorem Lies.le {b : List UInt8} {p q : Nat} {L : List Pc} (h : Lies b p L q) : p ≤ q ∧ q ≤ b.length := by
  induction h with
  | nil h => exact ⟨Nat.le_refl _, h⟩
  | byt h h2 _ ih => omega
  | nam hs h _ ih => have := h.lt; omega

/-- What stands is read. -/
theorem lies_go {b : List UInt8} {s : Nat} : ∀ (L : List Pc) (ks : List PK) (p q : Nat) (acc : List Pc), Lies b p L q → Fits ks L → goP (fun p => rda b p) b s q ks p acc = .ok (acc ++ L)
  | [], ks, p, q, acc, h, hf => by
    cases hf
    cases h
    rw [goP, if_neg (by omega), List.append_nil]
  | x :: L, ks, p, q, acc, h, hf => by
    have hle := h.le
    cases hf with
    | @fix n y ks' L' hn h2 =>
      cases h with
      | byt h3 h4 r =>
        have hr := r.le
        have e : stepP (fun p => rda b p) b s q p (.fix n) = .ok (y, false) (p + y.length) := by
          simp only [stepP, cutP]
          rw [← hn, if_neg (by omega), Nat.add_sub_cancel_left, h3]
        rw [goP, e]
        simp only
        rw [lies_go L ks' _ q _ r h2, List.append_assoc]
        rfl
    | @nam y ks' L' hn h2 =>
      cases h with
      | @nam _ _ en ls _ hs h3 r =>
        have hr := r.le
        have hl := h3.lt
        have e : stepP (fun p => rda b p) b s q p .nam = .ok (nm ls, true) en := by
          simp only [stepP]
          rw [rdaE h3 hs, if_neg (by omega), if_neg (by simp), if_neg (show ¬ q < en by omega)]
        rw [goP, e]
        simp only
        rw [lies_go L ks' _ q _ r h2, List.append_assoc]
        rfl
    | @txt y hn =>
      cases h with
      | byt h3 h4 r =>
        cases r with
        | nil h5 =>
          have e := tx_step (fun p => rda b p) b s p (p + y.length) (by omega) (by omega)
          rw [Nat.add_sub_cancel_left, h3, if_pos hn] at e
          rw [goP, e]
          simp only
          rw [goP, if_neg (by omega)]
    | @rst y =>
      cases h with
      | byt h3 h4 r =>
        cases r with
        | nil h5 =>
          have e : stepP (fun p => rda b p) b s (p + y.length) p .rst = .ok (y, false) (p + y.length) := by
            simp only [stepP, cutP]
            rw [if_neg (by omega), Nat.add_sub_cancel_left, h3]
          rw [goP, e]
          simp only
          rw [goP, if_neg (by omega)]

/-- Data that stand are read as they were. -/
theorem lies_rdR {b : List UInt8} {t : Int} {d : List UInt8} {L : List Pc} {a m : Nat} (hs : spl t d = .ok L) (h : Lies b a L (a + m)) (hm : m ≤ 65535) : rdR b a m t = .ok L ∧ joined L = d := by
  obtain ⟨h0, h1, _, hf, hj⟩ := spl_ok hs
  have hle := h.le
  refine ⟨?_, hj⟩
  unfold rdR
  rw [if_neg (by omega), if_neg (by omega), if_neg (by omega), Int.toNat_natCast, Int.toNat_natCast, lies_go L (kinds t) a (a + m) [] h hf, List.nil_append]

/-- What is written stands. -/
theorem wr_back (a : Nat) : ∀ (L : List Pc) (b : List UInt8) (K : KK) (e : Nat) (P : KK) (acc : List UInt8), Inv b K e P → (∀ x ∈ L, x.2 = true → chk x.1 = 0) → b.length = a + acc.length → b.length + (joined L).length ≤ 65535 →
    ∃ out K' e' P', wrL a L K e acc = ⟨acc ++ out, 0, K', e'⟩ ∧ out.length ≤ (joined L).length ∧ Inv (b ++ out) K' e' P' ∧ Lies (b ++ out) b.length L (b.length + out.length)
  | [], b, K, e, P, acc, hI, _, hb, hl => ⟨[], K, e, P, by rw [wrL, List.append_nil], by simp, by rw [List.append_nil]; exact hI, by rw [List.append_nil]; exact .nil (Nat.le_refl _)⟩
  | (x, false) :: L, b, K, e, P, acc, hI, hc, hb, hl => by
    rw [joined_cons, List.length_append] at hl
    have hl' : b.length + (x.length + (joined L).length) ≤ 65535 := hl
    obtain ⟨out, K', e', P', h1, h2, h3, h4⟩ := wr_back a L (b ++ x) K e P (acc ++ x) (hI.more x) (fun y hy => hc y (by simp [hy])) (by rw [List.length_append, List.length_append]; omega) (by rw [List.length_append]; omega)
    refine ⟨x ++ out, K', e', P', ?_, ?_, ?_, ?_⟩
    · rw [wrL]
      show wrL a L K e (acc ++ x) = _
      rw [h1, List.append_assoc]
    · rw [joined_cons, List.length_append, List.length_append]
      show x.length + out.length ≤ x.length + _
      omega
    · rw [← List.append_assoc]; exact h3
    · rw [← List.append_assoc]
      rw [List.length_append] at h4
      refine .byt ?_ (by simp) (by rw [List.length_append, ← Nat.add_assoc]; exact h4)
      rw [List.append_assoc, List.drop_left, List.take_left]
  | (x, true) :: L, b, K, e, P, acc, hI, hc, hb, hl => by
    rw [joined_cons, List.length_append] at hl
    have hl' : b.length + (x.length + (joined L).length) ≤ 65535 := hl
    obtain ⟨hs, hx⟩ := shorts_of (hc (x, true) (by simp) rfl)
    have hx : x = nm (labs x) := hx
    obtain ⟨ls, hls⟩ : ∃ ls, labs x = ls := ⟨_, rfl⟩
    rw [hls] at hs hx
    subst hx
    have hw : wrap64 ((a : Int) + acc.length) = ((b.length : Nat) : Int) := by rw [IntWalk.wrap64_in _ ⟨by omega, by omega⟩]; omega
    have hla := hI.last
    have hE : pkE e b.length (nm ls) = 0 := by unfold pkE; rw [if_neg (fun h => h (shorts_chk hs)), if_neg (by omega), if_neg (by omega)]
    have e1 : nameB K e b.length (nm ls) = told K ls := by unfold nameB; rw [if_pos hE, show labs (nm ls) = ls from shorts_labs hs]
    have e2 : nameK K e b.length (nm ls) = K ++ fr b.length ls (hdn K ls) := by unfold nameK; rw [if_pos hE, show labs (nm ls) = ls from shorts_labs hs, Int.toNat_natCast]
    have e3 : nameE K e b.length (nm ls) = b.length + (told K ls).length := by unfold nameE; rw [if_pos hE, show labs (nm ls) = ls from shorts_labs hs, Int.toNat_natCast]
    have htl := told_le hI.good hs
    obtain ⟨out, K', e', P', h1, h2, h3, h4⟩ := wr_back a L (b ++ told K ls) (K ++ fr b.length ls (hdn K ls)) (b.length + (told K ls).length) _ (acc ++ told K ls) (hI.tell hs) (fun y hy => hc y (by simp [hy])) (by rw [List.length_append, List.length_append]; omega) (by rw [List.length_append]; omega)
    refine ⟨told K ls ++ out, K', e', P', ?_, ?_, ?_, ?_⟩
    · rw [wrL, if_pos rfl]
      show (if pkE e (wrap64 ((a : Int) + acc.length)) (nm ls) ≠ 0 then _ else _) = _
      rw [hw, if_neg (by simpa using hE)]
      show wrL a L (nameK K e b.length (nm ls)) (nameE K e b.length (nm ls)) (acc ++ nameB K e b.length (nm ls)) = _
      rw [e1, e2, e3, h1, List.append_assoc]
    · rw [joined_cons, List.length_append, List.length_append]
      show (told K ls).length + out.length ≤ (nm ls).length + _
      omega
    · rw [← List.append_assoc]; exact h3
    · rw [← List.append_assoc]
      rw [List.length_append] at h4
      have hst := toldE_rd hI hs (hdn K ls) 0 (by omega) b.length (Nat.le_refl _)
      rw [pos_zero, Nat.add_zero, List.drop_zero] at hst
      exact .nam hs (hst.more out) (by rw [List.length_append, ← Nat.add_assoc]; exact h4)
end Go.Proofs.Ytkiahaodajecfaa

/-
  What was written and its reading: rows, round for round.
-/
namespace Go.Proofs.Ytkiahaodajecfaa
open Go.RowKit Go.Shelf
set_option linter.unusedVariables false
set_option linter.unusedSimpArgs false
set_option maxRecDepth 100000

section
variable {w w' : World} {B B' : Nat} {e e' : TypeId} {k k' n n' : Nat} {v v' : Value} {xs ys : List Value} {G : Nat → Prop}
theorem row_aside (h : w.ownsRow B e k v n xs) (ha : Aside G w w') (hG : ∀ b, v.ownBlock = some b → ¬ G b) : w'.ownsRow B e k v n xs := by
  have hlt := World.ownsRow.lt h
  refine ⟨h.1, ?_⟩
  rcases h.2 with h2 | ⟨g, cap, cur, hv, hg, hh, r⟩
  · exact .inl h2
  · exact .inr ⟨g, cap, cur, hv, hg, (ha.block g (by subst hv; exact (hlt g rfl).2) (hG g (by rw [hv]; rfl))).trans hh, r⟩
theorem row_below (h : w.ownsRow B e k v n xs) (hb : Below w.heap.size w w') : w'.ownsRow B e k v n xs := row_aside (G := fun _ => False) h (Aside.of_all hb) fun _ _ h => h
theorem row_shape (h : w.ownsRow B e k v n xs) : ∃ a c, v = .slice a n c := by
  rcases h.2 with ⟨rfl, h0⟩ | ⟨g, cap, cur, rfl, _⟩
  · exact ⟨none, 0, by rw [h0]⟩
  · exact ⟨_, cap, rfl⟩
theorem row_apart (h : w.ownsRow B e k v n xs) (h' : w.ownsRow B' e' k' v' n' ys) (he : e ≠ e') (b : Nat) (h1 : v.ownBlock = some b) (h2 : v'.ownBlock = some b) : False := by
  rcases h.2 with ⟨rfl, _⟩ | ⟨g, cap, cur, rfl, _, hg, _⟩
  · simp [Value.ownBlock] at h1
  · rcases h'.2 with ⟨rfl, _⟩ | ⟨g', cap', cur', rfl, _, hg', _⟩
    · simp [Value.ownBlock] at h2
    · simp [Value.ownBlock] at h1 h2
      subst h1; subst h2
      rw [hg] at hg'
      injection hg' with hg'
      injection hg' with _ h3
      exact he h3
theorem row_apartB {l : List UInt8} (h : OwnB w B v l) (h' : w.ownsRow B' e' k' v' n' ys) (he : e' ≠ 5) (b : Nat) (h1 : v.ownBlock = some b) (h2 : v'.ownBlock = some b) : False := by
  rcases h with ⟨rfl, _⟩ | ⟨g, cap, fz, rfl, _, _, _, _, hg⟩
  · simp [Value.ownBlock] at h1
  · rcases h'.2 with ⟨rfl, _⟩ | ⟨g', cap', cur', rfl, _, hg', _⟩
    · simp [Value.ownBlock] at h2
    · simp [Value.ownBlock] at h1 h2
      subst h1; subst h2
      rw [hg] at hg'
      injection hg' with hg'
      injection hg' with _ h3
      exact he h3.symm
end

/-- Acts as cells. -/
def acc4 : List AQ → List Value
  | [] => []
  | x :: r => .int .i64 x.t :: .int .i64 x.a :: .bool x.r :: .string (bs x.d) :: acc4 r
theorem acc4_len (K : List AQ) : (acc4 K).length = K.length * 4 := by
  induction K with
  | nil => rfl
  | cons p r ih => simp [acc4, ih]; omega
theorem acc4_app (K K' : List AQ) : acc4 (K ++ K') = acc4 K ++ acc4 K' := by
  induction K with
  | nil => rfl
  | cons p r ih => simp [acc4, ih]
theorem acc4_at : ∀ (K : List AQ) (j : Nat) (h : j < K.length), (acc4 K)[j * 4]? = some (.int .i64 K[j].t) ∧ (acc4 K)[j * 4 + 1]? = some (.int .i64 K[j].a) ∧ (acc4 K)[j * 4 + 2]? = some (.bool K[j].r) ∧ (acc4 K)[j * 4 + 3]? = some (.string (bs K[j].d))
  | [], j, h => by simp at h
  | p :: r, 0, h => ⟨rfl, rfl, rfl, rfl⟩
  | p :: r, j + 1, h => by
    obtain ⟨h1, h2, h3, h4⟩ := acc4_at r j (by simpa using h)
    rw [show (j + 1) * 4 = j * 4 + 1 + 1 + 1 + 1 by omega, acc4]
    exact ⟨h1, h2, h3, h4⟩
theorem acc4_one (K : List AQ) : ∀ u ∈ acc4 K, u.oneCell' = true := by
  induction K with
  | nil => intro u hu; simp [acc4] at hu
  | cons p r ih =>
    intro u hu
    simp only [acc4, List.mem_cons] at hu
    rcases hu with rfl | rfl | rfl | rfl | hu
    · rfl
    · rfl
    · rfl
    · rfl
    · exact ih u hu

/-- v is a row of numbers of the call's own. -/
def OwnJ (w : World) (B : Nat) (v : Value) (l : List Nat) : Prop := w.ownsRow B 3 1 v l.length (iv l)
/-- v is a row of acts of the call's own. -/
def OwnA (w : World) (B : Nat) (v : Value) (l : List AQ) : Prop := w.ownsRow B 40 4 v l.length (acc4 l)

theorem info_act : (Try.prog.info? 40).map (fun i => (i.zero, i.size, i.bytes)) = some (some (.agg #[.int .i64 0, .int .i64 0, .bool false, .string ⟨#[]⟩]), 4, 40) := by kernel_rfl

theorem OwnJ.at_ {w : World} {B : Nat} {v : Value} {l : List Nat} (h : OwnJ w B v l) (j : Nat) (hj : j < l.length) : ∃ g c, v = .slice (some ⟨g, 0, none⟩) l.length c ∧ w.cell? ⟨g, j, none⟩ = some (.int .i64 (l[j] : Int)) := by
  have hc := fun g hg => World.ownsRow.cells h (g := g) hg
  rcases h.2 with ⟨rfl, h0⟩ | ⟨g, cap, cur, rfl, _⟩
  · omega
  · have e1 := hc g rfl j (.int .i64 (l[j] : Int)) (by unfold iv; rw [List.getElem?_map, List.getElem?_eq_getElem hj]; rfl)
    rw [WideShapes.add_plain, Nat.zero_add] at e1
    exact ⟨g, cap, rfl, e1⟩
theorem OwnA.at_ {w : World} {B : Nat} {v : Value} {l : List AQ} (h : OwnA w B v l) (j : Nat) (hj : j < l.length) : ∃ g c, v = .slice (some ⟨g, 0, none⟩) l.length c ∧ w.cell? ⟨g, j * 4, none⟩ = some (.int .i64 l[j].t) ∧ w.cell? ⟨g, j * 4 + 3, none⟩ = some (.string (bs l[j].d)) := by
  have hc := fun g hg => World.ownsRow.cells h (g := g) hg
  rcases h.2 with ⟨rfl, h0⟩ | ⟨g, cap, cur, rfl, _⟩
  · omega
  · obtain ⟨h1, _, _, h2⟩ := acc4_at l j hj
    have e1 := hc g rfl _ _ h1
    have e2 := hc g rfl _ _ h2
    rw [WideShapes.add_plain, Nat.zero_add] at e1 e2
    exact ⟨g, cap, rfl, e1, e2⟩

/-- append of one number. -/
theorem run_appJ {w : World} (B : Nat) (v : Value) (l : List Nat) (x : Nat) (g : Nat) (hown : OwnJ w B v l) (hx : w.cell? ⟨g, 0, none⟩ = some (.int .i64 (x : Int))) (hb : l.length + 1 ≤ 1000000) (hB : B ≤ w.heap.size) :
    ∃ a' c' w', (Builtin.append_ #[49, 49] 49 #[v, .slice (some ⟨g, 0, none⟩) 1 1]).run Try.prog w = .ok (.slice a' (l.length + 1) c') w' ∧ OwnJ w' B (.slice a' (l.length + 1) c') (l ++ [x]) ∧ Aside (fun b => v.ownBlock = some b) w w' ∧ ((Value.slice a' (l.length + 1) c').ownBlock = v.ownBlock ∨ (Value.slice a' (l.length + 1) c').ownBlock = some w.heap.size) := by
  obtain ⟨i0, hi, hz0, hz1, hz2⟩ := info_parts info_int
  obtain ⟨v', w', r1, r2, r3, _, r5⟩ := run_append_own_at (P := Try.prog) (w := w) B 49 49 3 i0 _ 1 8 Try.underlying49 hi hz0 hz1 hz2 rfl (by decide) v l.length (iv l) hown ⟨g, 0, none⟩ 1 1 [.int .i64 (x : Int)] rfl
    (fun j u hu => by
      have hj : j = 0 := by have := (List.getElem?_eq_some_iff.mp hu).1; simpa using this
      subst hj
      simp at hu
      subst hu
      rw [WideShapes.add_plain, Nat.zero_add]
      exact hx)
    (by intro u hu; obtain rfl := List.mem_singleton.mp hu; rfl) (by unfold maxLen; omega) (by omega) hB
  have h4 : OwnJ w' B v' (l ++ [x]) := by
    unfold OwnJ
    rw [List.length_append, show iv (l ++ [x]) = iv l ++ [.int .i64 (x : Int)] by unfold iv; rw [List.map_append]; rfl]
    exact r2
  obtain ⟨a', c', hv⟩ := row_shape h4
  rw [List.length_append] at hv
  subst hv
  exact ⟨a', c', w', r1, h4, Aside.grown r3 fun _ h => h, r5⟩

/-- append of one act. -/
theorem run_appA {w : World} (B : Nat) (v : Value) (l : List AQ) (x : AQ) (g : Nat) (hown : OwnA w B v l) (hx : AtQ w g 0 x) (hb : l.length + 1 ≤ 1000000) (hB : B ≤ w.heap.size) :
    ∃ a' c' w', (Builtin.append_ #[31, 31] 31 #[v, .slice (some ⟨g, 0, none⟩) 1 1]).run Try.prog w = .ok (.slice a' (l.length + 1) c') w' ∧ OwnA w' B (.slice a' (l.length + 1) c') (l ++ [x]) ∧ Aside (fun b => v.ownBlock = some b) w w' := by
  obtain ⟨i0, hi, hz0, hz1, hz2⟩ := info_parts info_act
  obtain ⟨h0, h1, h2, h3⟩ := hx
  obtain ⟨v', w', r1, r2, r3, _, r5⟩ := run_append_own_at (P := Try.prog) (w := w) B 31 31 40 i0 _ 4 40 Try.underlying31 hi hz0 hz1 hz2 rfl (by decide) v l.length (acc4 l) hown ⟨g, 0, none⟩ 1 1 (acc4 [x]) (acc4_len [x])
    (fun j u hu => by
      rw [WideShapes.add_plain, Nat.zero_add]
      match j, hu with
      | 0, hu => simp [acc4] at hu; rw [h0, hu]
      | 1, hu => simp [acc4] at hu; rw [h1, hu]
      | 2, hu => simp [acc4] at hu; rw [h2, hu]
      | 3, hu => simp [acc4] at hu; rw [h3, hu]
      | j + 4, hu => simp [acc4] at hu) (acc4_one [x]) (by unfold maxLen; omega) (by omega) hB
  have h4 : OwnA w' B v' (l ++ [x]) := by
    unfold OwnA
    rw [List.length_append, acc4_app]
    exact r2
  obtain ⟨a', c', hv⟩ := row_shape h4
  rw [List.length_append] at hv
  subst hv
  exact ⟨a', c', w', r1, h4, Aside.grown r3 fun _ h => h⟩

/-- The bytes, the places, the sizes, the acts and the packer. -/
structure Bkd (w wr : World) (p bm B0 : Nat) (v7 v8 v9 v10 : Value) (b : List UInt8) (q s : List Nat) (n : List AQ) (K : KK) (e : Nat) : Prop where
  rb : OwnB wr B0 v7 b
  rq : OwnJ wr B0 v8 q
  rs : OwnJ wr B0 v9 s
  ra : OwnA wr B0 v10 n
  ne : ∀ x, v8.ownBlock = some x → v9.ownBlock = some x → False
  pk : Pk wr p bm K e
  bel : Below w.heap.size w wr
  size : B0 ≤ wr.heap.size
  hp : p < B0
  hm : bm < B0
  h0 : w.heap.size ≤ p ∧ w.heap.size ≤ bm

section
variable {w wr w' : World} {p bm B0 e : Nat} {v7 v8 v9 v10 : Value} {b : List UInt8} {q s : List Nat} {n : List AQ} {K : KK}

theorem Bkd.later (h : Bkd w wr p bm B0 v7 v8 v9 v10 b q s n K e) (hb : Below wr.heap.size wr w') : Bkd w w' p bm B0 v7 v8 v9 v10 b q s n K e :=
  ⟨h.rb.below hb, row_below h.rq hb, row_below h.rs hb, row_below h.ra hb, h.ne, h.pk.later hb, bel_call h.bel hb, Nat.le_trans h.size hb.size, h.hp, h.hm, h.h0⟩

theorem Bkd.name {K' : KK} {e' : Nat} (h : Bkd w wr p bm B0 v7 v8 v9 v10 b q s n K e) (ha : Aside (fun x => x = p ∨ x = bm) wr w') (hk : Pk w' p bm K' e') : Bkd w w' p bm B0 v7 v8 v9 v10 b q s n K' e' := by
  have h1 := h.hp
  have h2 := h.hm
  have h3 := h.h0
  refine ⟨h.rb.aside ha fun x hx => ?_, row_aside h.rq ha fun x hx => ?_, row_aside h.rs ha fun x hx => ?_, row_aside h.ra ha fun x hx => ?_, h.ne, hk, below_aside h.bel ha fun x hx => ⟨Nat.lt_of_lt_of_le hx h.bel.size, by omega⟩, Nat.le_trans h.size ha.size, h1, h2, h3⟩
  · have := (h.rb.lt x hx).1; omega
  · have := (World.ownsRow.lt h.rq x hx).1; omega
  · have := (World.ownsRow.lt h.rs x hx).1; omega
  · have := (World.ownsRow.lt h.ra x hx).1; omega

/-- A row of the call's own is written over or moved: the rest. -/
theorem Bkd.rest {v : Value} (h : Bkd w wr p bm B0 v7 v8 v9 v10 b q s n K e) (ha : Aside (fun x => v.ownBlock = some x) wr w') (hv : ∀ x, v.ownBlock = some x → B0 ≤ x) :
    Pk w' p bm K e ∧ Below w.heap.size w w' ∧ B0 ≤ w'.heap.size := by
  have g1 := h.hp
  have g2 := h.hm
  have g3 := h.h0
  refine ⟨h.pk.aside ha (fun hg => by have := hv p hg; omega) (fun hg => by have := hv bm hg; omega), below_aside h.bel ha fun x hx => ⟨Nat.lt_of_lt_of_le hx h.bel.size, fun hg => by have := hv x hg; omega⟩, Nat.le_trans h.size ha.size⟩

theorem Bkd.appB (h : Bkd w wr p bm B0 v7 v8 v9 v10 b q s n K e) {xv : Value} {l' : List UInt8} {lo hi : Nat} (hx : Sl wr lo hi xv (iz l')) (hb : b.length + l'.length ≤ 1000000) :
    ∃ a' c' w', (Builtin.append_ #[42, 42] 42 #[v7, xv]).run Try.prog wr = .ok (.slice a' (b.length + l'.length) c') w' ∧ Bkd w w' p bm B0 (.slice a' (b.length + l'.length) c') v8 v9 v10 (b ++ l') q s n K e := by
  obtain ⟨a', c', w', h1, h2, ha⟩ := run_appBs B0 v7 xv b l' h.rb hx hb h.size
  obtain ⟨r1, r2, r3⟩ := h.rest ha fun x hx => (h.rb.lt x hx).1
  exact ⟨a', c', w', h1, h2, row_aside h.rq ha fun x hx hg => row_apartB h.rb h.rq (by decide) x hg hx, row_aside h.rs ha fun x hx hg => row_apartB h.rb h.rs (by decide) x hg hx, row_aside h.ra ha fun x hx hg => row_apartB h.rb h.ra (by decide) x hg hx, h.ne, r1, r2, r3, h.hp, h.hm, h.h0⟩

theorem Bkd.appQ (h : Bkd w wr p bm B0 v7 v8 v9 v10 b q s n K e) (x : Nat) (hb : q.length + 1 ≤ 1000000) :
    ∃ a' c' w', (Builtin.append_ #[49, 49] 49 #[v8, .slice (some ⟨wr.heap.size, 0, none⟩) 1 1]).run Try.prog (wr.alloc (.cells #[.int .i64 (x : Int)] 3)) = .ok (.slice a' (q.length + 1) c') w' ∧ Bkd w w' p bm B0 v7 (.slice a' (q.length + 1) c') v9 v10 b (q ++ [x]) s n K e ∧ ∀ B v (l : List UInt8), OwnB wr B v l → OwnB w' B v l := by
  have hal : Below wr.heap.size wr (wr.alloc (.cells #[.int .i64 (x : Int)] 3)) := (Below.refl _ _).alloc (Nat.le_refl _) _
  have h := h.later hal
  obtain ⟨a', c', w', h1, h2, ha, h5⟩ := run_appJ B0 v8 q x wr.heap.size h.rq (by simp [go_sem]) hb h.size
  obtain ⟨r1, r2, r3⟩ := h.rest ha fun x hx => (World.ownsRow.lt h.rq x hx).1
  have hsz := (World.size_alloc wr (.cells #[.int .i64 (x : Int)] 3))
  refine ⟨a', c', w', h1, ⟨h.rb.aside ha fun y hy hg => row_apartB h.rb h.rq (by decide) y hy hg, h2, row_aside h.rs ha fun y hy hg => h.ne y hg hy, row_aside h.ra ha fun y hy hg => row_apart h.rq h.ra (by decide) y hg hy, ?_, r1, r2, r3, h.hp, h.hm, h.h0⟩, fun B v l ho => (ho.below hal).aside ha fun y hy hg => row_apartB (ho.below hal) h.rq (by decide) y hy hg⟩
  intro y h6 h7
  rcases h5 with h5 | h5
  · exact h.ne y (h5 ▸ h6) h7
  · have := (World.ownsRow.lt h.rs y h7).2
    rw [h5] at h6
    injection h6 with h6
    omega

theorem Bkd.appS (h : Bkd w wr p bm B0 v7 v8 v9 v10 b q s n K e) (x : Nat) (hb : s.length + 1 ≤ 1000000) :
    ∃ a' c' w', (Builtin.append_ #[49, 49] 49 #[v9, .slice (some ⟨wr.heap.size, 0, none⟩) 1 1]).run Try.prog (wr.alloc (.cells #[.int .i64 (x : Int)] 3)) = .ok (.slice a' (s.length + 1) c') w' ∧ Bkd w w' p bm B0 v7 v8 (.slice a' (s.length + 1) c') v10 b q (s ++ [x]) n K e ∧ ∀ B v (l : List UInt8), OwnB wr B v l → OwnB w' B v l := by
  have hal : Below wr.heap.size wr (wr.alloc (.cells #[.int .i64 (x : Int)] 3)) := (Below.refl _ _).alloc (Nat.le_refl _) _
  have h := h.later hal
  obtain ⟨a', c', w', h1, h2, ha, h5⟩ := run_appJ B0 v9 s x wr.heap.size h.rs (by simp [go_sem]) hb h.size
  obtain ⟨r1, r2, r3⟩ := h.rest ha fun x hx => (World.ownsRow.lt h.rs x hx).1
  refine ⟨a', c', w', h1, ⟨h.rb.aside ha fun y hy hg => row_apartB h.rb h.rs (by decide) y hy hg, row_aside h.rq ha fun y hy hg => h.ne y hy hg, h2, row_aside h.ra ha fun y hy hg => row_apart h.rs h.ra (by decide) y hg hy, ?_, r1, r2, r3, h.hp, h.hm, h.h0⟩, fun B v l ho => (ho.below hal).aside ha fun y hy hg => row_apartB (ho.below hal) h.rs (by decide) y hy hg⟩
  intro y h6 h7
  rcases h5 with h5 | h5
  · exact h.ne y h6 (h5 ▸ h7)
  · have := (World.ownsRow.lt h.rq y h6).2
    rw [h5] at h7
    injection h7 with h7
    omega

theorem Bkd.appA (h : Bkd w wr p bm B0 v7 v8 v9 v10 b q s n K e) (x : AQ) (hb : n.length + 1 ≤ 1000000) :
    ∃ a' c' w', (Builtin.append_ #[31, 31] 31 #[v10, .slice (some ⟨wr.heap.size, 0, none⟩) 1 1]).run Try.prog (wr.alloc (.cells #[.int .i64 x.t, .int .i64 x.a, .bool x.r, .string (bs x.d)] 40)) = .ok (.slice a' (n.length + 1) c') w' ∧ Bkd w w' p bm B0 v7 v8 v9 (.slice a' (n.length + 1) c') b q s (n ++ [x]) K e ∧ ∀ B v (l : List UInt8), OwnB wr B v l → OwnB w' B v l := by
  have hal : Below wr.heap.size wr (wr.alloc (.cells #[.int .i64 x.t, .int .i64 x.a, .bool x.r, .string (bs x.d)] 40)) := (Below.refl _ _).alloc (Nat.le_refl _) _
  have h := h.later hal
  obtain ⟨a', c', w', h1, h2, ha⟩ := run_appA B0 v10 n x wr.heap.size h.ra ⟨by simp [go_sem], by simp [go_sem], by simp [go_sem], by simp [go_sem]⟩ hb h.size
  obtain ⟨r1, r2, r3⟩ := h.rest ha fun x hx => (World.ownsRow.lt h.ra x hx).1
  exact ⟨a', c', w', h1, ⟨h.rb.aside ha fun y hy hg => row_apartB h.rb h.ra (by decide) y hy hg, row_aside h.rq ha fun y hy hg => row_apart h.rq h.ra (by decide) y hy hg, row_aside h.rs ha fun y hy hg => row_apart h.rs h.ra (by decide) y hy hg, h2, h.ne, r1, r2, r3, h.hp, h.hm, h.h0⟩, fun B v l ho => (ho.below hal).aside ha fun y hy hg => row_apartB (ho.below hal) h.ra (by decide) y hy hg⟩
end

/-- The packer's keys, after what is written. -/
theorem wrL_keys (a : Int) : ∀ (L : List Pc) (K : KK) (e : Nat) (acc : List UInt8), GoodK K → (wrL a L K e acc).K.length ≤ K.length + 127 * L.length
  | [], K, e, acc, _ => by simp [wrL]
  | x :: L, K, e, acc, hG => by
    rw [wrL]
    split
    · split
      · simp
      · have h1 := nameK_good (e := e) (a := wrap64 (a + acc.length)) (n := x.1) hG
        have h2 := wrL_keys a L (nameK K e (wrap64 (a + acc.length)) x.1) (nameE K e (wrap64 (a + acc.length)) x.1) (acc ++ nameB K e (wrap64 (a + acc.length)) x.1) h1.1
        rw [List.length_cons]
        omega
    · have h2 := wrL_keys a L K e (acc ++ x.1) hG
      rw [List.length_cons]
      omega
end Go.Proofs.Ytkiahaodajecfaa

/-
  The document's own cutting: texts, and how far a name goes.
-/
namespace Go.Proofs.Ytkiahaodajecfaa
open Go.RowKit Go.Shelf
set_option linter.unusedVariables false
set_option linter.unusedSimpArgs false
set_option maxRecDepth 100000

theorem txs_end {s : List UInt8} {p : Nat} (h : ¬ p < s.length) : ∀ n, s.length + 1 ≤ n + p → txs s n p = decide (p = s.length)
  | 0, hn => by rw [txs, decide_eq_false (by omega)]
  | n + 1, hn => by rw [txs, dif_neg h]
theorem frt_end {s : List UInt8} {p : Nat} (h : ¬ p < s.length) : ∀ n, frt s n p = none
  | 0 => rfl
  | n + 1 => by rw [frt, dif_neg h]

set_option maxHeartbeats 4000000 in
theorem rtexts_any (s : List UInt8) (hs : s.length ≤ 1000000) (w : World) : Calls Try.prog 52 #[.string (bs s)] w fun e w' => e = .returned (.bool (texts s)) ∧ w = w' := by
  have hsz : (bs s).size = s.length := bs_size s
  obtain ⟨X, hX⟩ : ∃ X, txs s (s.length + 1) 0 = X := ⟨_, rfl⟩
  obtain ⟨Y, hY⟩ : ∃ Y, texts s = Y := ⟨_, rfl⟩
  have HT := Lib.hid (show Y = (decide (s ≠ []) && X) by rw [← hY]; unfold texts; rw [hX])
  rw [hY]
  have HX := Lib.hid hX
  clear hY hX
  go_enter Try.func52, Try.ntmps52
  go_wp2_with fail
  go_loopg [3] (s.length + 1) (fun g v3 wr => ∃ p : Nat, v3 = .int .i64 p ∧ p ≤ s.length + 256 ∧ s.length + 1 ≤ g + p ∧ Hid (txs s g p = X) ∧ w = wr)
  case atStart => exact ⟨0, rfl, by omega, by omega, HX, rfl⟩
  case round =>
    obtain ⟨p, rfl, hp, hg, HP, rfl⟩ := hrel
    clear HX
    by_cases hlt : p < s.length
    · have hix := ix_run s p hlt
      have hst := HP.out
      obtain ⟨m, hm⟩ : ∃ m, gk = m + 1 := ⟨gk - 1, by omega⟩
      rw [hm, txs, dif_pos hlt] at hst
      have hc := s[p].toNat_lt
      obtain ⟨c, hcc⟩ : ∃ c, s[p].toNat = c := ⟨_, rfl⟩
      rw [hcc] at hix hst hc
      have HS := Lib.hid hst
      clear hst hcc
      go_wp2_with fail
      go_roundg m
      case measure => omega
      case rel => exact ⟨p + (1 + c), by go_num, by omega, by omega, HS, rfl⟩
    · have hX := txs_end hlt _ hg
      rw [HP.out] at hX
      have HE := Lib.hid hX
      have t1 : ¬ ((p : Int) < s.length) := by omega
      have e2 : ((p : Int) == (s.length : Int)) = decide (p = s.length) := by
        by_cases h : p = s.length
        · rw [decide_eq_true h, h]; simp
        · rw [decide_eq_false h]; simp; omega
      obtain ⟨z, hz⟩ : ∃ z, decide (p = s.length) = z := ⟨_, rfl⟩
      rw [hz] at HE e2
      clear HP hX hz
      have e1 : (bs s).toList.isEmpty = !decide (s ≠ []) := by rw [bs_toList]; cases s <;> simp
      obtain ⟨y, hy⟩ : ∃ y, decide (s ≠ []) = y := ⟨_, rfl⟩
      rw [hy] at HT e1
      clear hy
      cases y with
      | false =>
        have e3 : (bs s).toList.isEmpty = true := e1
        go_wp2_with fail
        go_ret
        exact ⟨by rw [HT.out, HE.out]; rfl, rfl⟩
      | true =>
        have e3 : (bs s).toList.isEmpty = false := e1
        go_wp2_with fail
        go_ret
        exact ⟨by rw [HT.out, HE.out]; rfl, rfl⟩

/-- The front's place as the walk tells it. -/
def frontI (s : List UInt8) : Int := match front s with | some n => (n : Int) | none => -1

/-- The same, from where a byte 0 stands. -/
def frv (s : List UInt8) (X : Option Nat) : Int := match X with | none => -1 | some p => if chk (s.take (p + 1)) = 0 then ((p + 1 : Nat) : Int) else -1
theorem frontI_frv (s : List UInt8) : frontI s = frv s (frt s (s.length + 1) 0) := by
  unfold frontI front frv
  rcases frt s (s.length + 1) 0 with _ | p
  · rfl
  · simp only
    by_cases h : chk (s.take (p + 1)) = 0
    · rw [if_pos h, if_pos h]
    · rw [if_neg h, if_neg h]

set_option maxHeartbeats 4000000 in
theorem rfront_any (s : List UInt8) (hs : s.length ≤ 1000000) (w : World) : Calls Try.prog 51 #[.string (bs s)] w (Tells w (.int .i64 (frontI s))) := by
  have hsz : (bs s).size = s.length := bs_size s
  obtain ⟨X, hX⟩ : ∃ X, frt s (s.length + 1) 0 = X := ⟨_, rfl⟩
  obtain ⟨Y, hY⟩ : ∃ Y, frontI s = Y := ⟨_, rfl⟩
  have HT := Lib.hid (show Y = frv s X by rw [← hY, frontI_frv, hX])
  rw [hY]
  have HX := Lib.hid hX
  have HC := Lib.hid (fun (n : List UInt8) (hn : n.length ≤ 1000000) wx => rcheck_any n hn wx)
  clear hY hX
  go_enter Try.func51, Try.ntmps51
  go_wp2_with fail
  go_loopg [3] (s.length + 1) (fun g v3 wr => ∃ p : Nat, v3 = .int .i64 p ∧ p ≤ s.length + 256 ∧ s.length + 1 ≤ g + p ∧ Hid (frt s g p = X) ∧ w = wr)
  case atStart => exact ⟨0, rfl, by omega, by omega, HX, rfl⟩
  case round =>
    obtain ⟨p, rfl, hp, hg, HP, rfl⟩ := hrel
    clear HX
    by_cases hlt : p < s.length
    · have hix := ix_run s p hlt
      have hst := HP.out
      obtain ⟨m, hm⟩ : ∃ m, gk = m + 1 := ⟨gk - 1, by omega⟩
      rw [hm, frt, dif_pos hlt] at hst
      have hc := s[p].toNat_lt
      obtain ⟨c, hcc⟩ : ∃ c, s[p].toNat = c := ⟨_, rfl⟩
      rw [hcc] at hix hst hc
      clear HP hcc
      by_cases h0 : c = 0
      · subst h0
        rw [if_pos rfl] at hst
        have HS := Lib.hid hst
        have htk := to_run s (p + 1) (by omega)
        push_cast at htk
        have HCk := Lib.hid (HC.out (s.take (p + 1)) (by rw [List.length_take]; omega) w)
        obtain ⟨k, hk⟩ : ∃ k, chk (s.take (p + 1)) = k := ⟨_, rfl⟩
        rw [hk] at HCk
        have HK := Lib.hid hk
        have ti : (p : Int) < s.length := by omega
        clear hst hk HC
        go_wp2_with fail
        refine HCk.out.mono ?_; rintro e0 w1 ⟨rfl, hb⟩
        have HB := Lib.hid hb
        clear hb
        by_cases hk0 : k = 0
        · subst hk0
          have HYv := Lib.hid (show Y = ((p + 1 : Nat) : Int) by rw [HT.out, ← HS.out]; unfold frv; simp only; rw [HK.out, if_pos rfl])
          go_wp2_with fail
          go_ret
          exact ⟨by rw [HYv.out]; push_cast; rfl, HB.out⟩
        · have HYv := Lib.hid (show Y = -1 by rw [HT.out, ← HS.out]; unfold frv; simp only; rw [HK.out, if_neg hk0])
          have tk : (k == 0) = false := by simpa using hk0
          go_wp2_with fail
          go_ret
          exact ⟨by rw [HYv.out]; rfl, HB.out⟩
      · rw [if_neg h0] at hst
        have HS := Lib.hid hst
        have tc : ((c : Int) != 0) = true := by simp; omega
        clear hst
        go_wp2_with fail
        go_roundg m
        case measure => omega
        case rel => exact ⟨p + (1 + c), by go_num, by omega, by omega, HS, rfl⟩
    · have hX := frt_end hlt gk
      rw [HP.out] at hX
      have HYv := Lib.hid (show Y = -1 by rw [HT.out, hX]; rfl)
      have t1 : ¬ ((p : Int) < s.length) := by omega
      clear HP hX HC HT
      go_wp2_with fail
      go_ret
      exact ⟨by rw [HYv.out]; rfl, Below.refl _ _⟩
end Go.Proofs.Ytkiahaodajecfaa

/-
  The document's own cutting: the forms, and the parts.
-/
namespace Go.Proofs.Ytkiahaodajecfaa
open Go.RowKit Go.Shelf
set_option linter.unusedVariables false
set_option linter.unusedSimpArgs false
set_option maxRecDepth 100000

/-- A part as the document's own text has it: a number. -/
def codeK : PK → Int
  | .fix n => n
  | .nam => -1
  | .txt => -2
  | .rst => -3

def FormPost (w : World) (ks : List PK) (e : Ending) (w' : World) : Prop := e = .returned (.slice (some ⟨w.heap.size, 0, none⟩) ks.length ks.length) ∧ w' = w.alloc (.cells (ks.map fun k => Value.int .i64 (codeK k)).toArray 3)

set_option maxHeartbeats 4000000 in
theorem form_any (t : Int) (w : World) : Calls Try.prog 38 #[.int .i64 t] w (FormPost w (kinds t)) := by
  by_cases h1 : t = 1
  · subst h1
    go_enter Try.func38, Try.ntmps38
    go_wp2
    go_ret
    exact ⟨rfl, rfl⟩
  by_cases h28 : t = 28
  · subst h28
    go_enter Try.func38, Try.ntmps38
    go_wp2
    go_ret
    exact ⟨rfl, rfl⟩
  by_cases h2 : t = 2
  · subst h2
    go_enter Try.func38, Try.ntmps38
    go_wp2
    go_ret
    exact ⟨rfl, rfl⟩
  by_cases h5 : t = 5
  · subst h5
    go_enter Try.func38, Try.ntmps38
    go_wp2
    go_ret
    exact ⟨rfl, rfl⟩
  by_cases h12 : t = 12
  · subst h12
    go_enter Try.func38, Try.ntmps38
    go_wp2
    go_ret
    exact ⟨rfl, rfl⟩
  by_cases h15 : t = 15
  · subst h15
    go_enter Try.func38, Try.ntmps38
    go_wp2
    go_ret
    exact ⟨rfl, rfl⟩
  by_cases h6 : t = 6
  · subst h6
    go_enter Try.func38, Try.ntmps38
    go_wp2
    go_ret
    exact ⟨rfl, rfl⟩
  by_cases h16 : t = 16
  · subst h16
    go_enter Try.func38, Try.ntmps38
    go_wp2
    go_ret
    exact ⟨rfl, rfl⟩
  have hk : kinds t = [.rst] := by unfold kinds; rw [if_neg h1, if_neg h28, if_neg (by omega), if_neg h15, if_neg h6, if_neg h16]
  rw [hk]
  have e1 : (t == 1) = false := by simpa using h1
  have e28 : (t == 28) = false := by simpa using h28
  have e2 : (t == 2) = false := by simpa using h2
  have e5 : (t == 5) = false := by simpa using h5
  have e12 : (t == 12) = false := by simpa using h12
  have e15 : (t == 15) = false := by simpa using h15
  have e6 : (t == 6) = false := by simpa using h6
  have e16 : (t == 16) = false := by simpa using h16
  clear hk
  go_enter Try.func38, Try.ntmps38
  go_wp2
  go_ret
  exact ⟨rfl, rfl⟩
end Go.Proofs.Ytkiahaodajecfaa

/-
  The document's own cutting: the walk of its parts.
-/
namespace Go.Proofs.Ytkiahaodajecfaa
open Go.RowKit Go.Shelf
set_option linter.unusedVariables false
set_option linter.unusedSimpArgs false
set_option maxRecDepth 100000

/-- The pieces' bytes behind those that are there, and what is left. -/
def ctsA (ks : List PK) (s : List UInt8) (acc : List (List UInt8)) : Option (List (List UInt8) × List UInt8) := (cuts ks s).map fun r => (acc ++ r.1.map (·.1), r.2)

theorem ctsA_nil (s : List UInt8) (acc : List (List UInt8)) : ctsA [] s acc = some (acc, s) := by simp [ctsA, cuts]
theorem ctsA_none {k : PK} {ks : List PK} {s : List UInt8} {acc : List (List UInt8)} (h : lenP s k = none) : ctsA (k :: ks) s acc = none := by unfold ctsA; rw [cuts, h]; rfl
theorem ctsA_some {k : PK} {ks : List PK} {s : List UInt8} {acc : List (List UInt8)} {n : Nat} (h : lenP s k = some n) : ctsA (k :: ks) s acc = ctsA ks (s.drop n) (acc ++ [s.take n]) := by
  unfold ctsA
  rw [cuts, h]
  simp only
  rcases cuts ks (s.drop n) with _ | r
  · rfl
  · simp [List.append_assoc]

def PartsP (w : World) (X : Option (List (List UInt8) × List UInt8)) (e : Ending) (w' : World) : Prop :=
  ∃ v, (match X with | none => e = .returned (.tuple #[.slice none 0 0, .bool false]) | some r => e = .returned (.tuple #[v, .bool (decide (r.2 = []))]) ∧ OwnT w' w.heap.size v r.1) ∧ Below w.heap.size w w'

set_option maxHeartbeats 8000000 in
theorem rparts_any (t : Int) (s : List UInt8) (hs : s.length ≤ 1000000) (w : World) : Calls Try.prog 33 #[.int .i64 t, .string (bs s)] w (PartsP w (ctsA (kinds t) s [])) := by
  have HFm := Lib.hid (fun wx => form_any t wx)
  have hks := kinds_small t
  obtain ⟨ks, hk⟩ : ∃ ks, kinds t = ks := ⟨_, rfl⟩
  rw [hk] at HFm hks ⊢
  have HSM := Lib.hid hks.2
  have hks3 := hks.1
  obtain ⟨X, hX⟩ : ∃ X, ctsA ks s [] = X := ⟨_, rfl⟩
  rw [hX]
  have HX := Lib.hid hX
  have HFr := Lib.hid (fun (n : List UInt8) (hn : n.length ≤ 1000000) wx => rfront_any n hn wx)
  have HTx := Lib.hid (fun (n : List UInt8) (hn : n.length ≤ 1000000) wx => rtexts_any n hn wx)
  clear hk hks hX
  go_enter Try.func33, Try.ntmps33
  go_wp2_with fail
  refine (HFm.out _).mono ?_; rintro e0 w1 ⟨rfl, hw1⟩
  have hb1 : Below w.heap.size w w1 := by rw [hw1]; exact (Below.refl _ _).alloc (Nat.le_refl _) _
  have HF := Lib.hid (fun (wx : World) (hb : Below w1.heap.size w1 wx) j (hj : j < ks.length) => show wx.cell? ⟨w.heap.size, j, none⟩ = some (.int .i64 (codeK ks[j])) from by
    refine cell_later hb ?_
    rw [hw1]
    rw [World.cell?]
    rw [show (w.alloc (.cells (ks.map fun k => Value.int .i64 (codeK k)).toArray 3)).heap[w.heap.size]? = some (.cells (ks.map fun k => Value.int .i64 (codeK k)).toArray 3) from heap_alloc_new w _]
    simp [hj])
  have HB1 := Lib.hid hb1
  clear hw1 hb1
  go_wp2_with fail
  go_loopg [1, 7, 8] ks.length (fun g v1 v7 v8 wr => ∃ (k : Nat) (s' : List UInt8) (acc : List (List UInt8)) (va : Option Addr) (ca : Nat), k + g = ks.length ∧ v1 = .string (bs s') ∧ v7 = .slice va k ca ∧ v8 = .int .i64 k ∧ Hid (acc.length = k) ∧ s'.length ≤ 1000000 ∧ Hid (OwnT wr w1.heap.size (.slice va k ca) acc) ∧ Hid (Below w1.heap.size w1 wr) ∧ Hid (ctsA (ks.drop k) s' acc = X))
  case atStart => exact ⟨0, s, [], none, 0, by omega, rfl, rfl, rfl, rfl, hs, OwnT.nil _ _, Below.refl _ _, HX⟩
  case round =>
    obtain ⟨k, s', acc, va, ca, hk, rfl, rfl, rfl, hak, hsl, HO2, HB2, HXk⟩ := hrel
    clear HX
    by_cases hlt : k < ks.length
    · have hst := HXk.out
      rw [List.drop_eq_getElem_cons hlt] at hst
      have hcell := HF.out _ HB2.out k hlt
      have hsm := HSM.out ks[k] (List.getElem_mem hlt)
      obtain ⟨K, hK⟩ : ∃ K, ks[k] = K := ⟨_, rfl⟩
      rw [hK] at hst hcell hsm
      have hsz : (bs s').size = s'.length := bs_size s'
      have hak3 : acc.length + 1 ≤ 1000000 := by rw [hak.out]; omega
      clear hK HXk
      cases K with
      | fix m =>
        have hm := hsm m rfl
        have hcell2 : wr.cell? ⟨w.heap.size, k, none⟩ = some (.int .i64 (m : Int)) := hcell
        have u1 : ((m : Int) == -1) = false := by first | (simp; done) | (simp; omega)
        have u2 : ((m : Int) == -2) = false := by first | (simp; done) | (simp; omega)
        have u3 : ((m : Int) == -3) = false := by first | (simp; done) | (simp; omega)
        clear hcell hsm
        by_cases hn : m ≤ s'.length
        · rw [ctsA_some (show lenP s' (.fix m) = some m from if_pos hn)] at hst
          have hst2 := Lib.hid hst
          have htk := to_run s' m hn
          have hfr := from_run s' m hn
          
          have hn2 : m ≤ 1000000 := by omega
          
          have hal : Below wr.heap.size wr (wr.alloc (.cells #[.string (bs (s'.take m))] 9)) := (Below.refl _ _).alloc (Nat.le_refl _) _
          obtain ⟨a7, c7, w7, hr7, ho7, hg7⟩ := run_appT w1.heap.size (.slice va k ca) acc (s'.take m) wr.heap.size (HO2.out.below hal) (by simp [go_sem, tv]) hak3 (Nat.le_trans HB2.out.size hal.size)
          rw [hak.out] at hr7 ho7
          have ha7 := aside_grown hg7
          have hlt7 := OwnZ.lt HO2.out
          have HR7 := Lib.hid hr7
          have HO7 := Lib.hid ho7
          have HB7 := Lib.hid (below_aside (bel_call HB2.out hal) ha7 fun x hx => ⟨Nat.lt_of_lt_of_le hx (bel_call HB2.out hal).size, fun hg => by have := (hlt7 x hg).1; omega⟩)
          have hdl : (s'.drop m).length ≤ 1000000 := by rw [List.length_drop]; omega
          have hal2 := Lib.hid (show (acc ++ [s'.take m]).length = k + 1 by rw [List.length_append, hak.out]; rfl)
          clear hal hr7 ho7 hg7 ha7 hlt7 hst
          go_wp2_with (at_builtin; refine wpList_append_run (.tmp 48) (.tmp 52) 64 64 rfl rfl rfl rfl HR7.out ?_)
          go_roundg (ks.length - (k + 1))
          case measure => omega
          case rel => exact ⟨k + 1, s'.drop m, acc ++ [s'.take m], a7, c7, by omega, rfl, rfl, by go_num, hal2, hdl, HO7, HB7, hst2⟩
        · have hE : X = none := by rw [← hst]; exact ctsA_none (if_neg hn)
          have HE := Lib.hid hE
          clear hst hE
          go_wp2_with fail
          go_ret2
          exact ⟨.slice none 0 0, by rw [HE.out]; rfl, bel_call HB1.out HB2.out⟩
      | rst =>
        have hcell2 : wr.cell? ⟨w.heap.size, k, none⟩ = some (.int .i64 (-3)) := hcell
        have hn : s'.length ≤ s'.length := Nat.le_refl _
        clear hcell hsm
        rw [ctsA_some (show lenP s' .rst = some s'.length from rfl)] at hst
        obtain ⟨z, hz⟩ : ∃ z, s'.length = z := ⟨_, rfl⟩
        have HZ := Lib.hid hz
        have hn : z ≤ s'.length := by omega
        have HSL := Lib.hid hsl
        rw [hz] at hst hsz hsl
        clear hz
        have hst2 := Lib.hid hst
        have htk := to_run s' z hn
        have hfr := from_run s' z hn
        
        have hn2 : z ≤ 1000000 := by omega
        
        have hal : Below wr.heap.size wr (wr.alloc (.cells #[.string (bs (s'.take z))] 9)) := (Below.refl _ _).alloc (Nat.le_refl _) _
        obtain ⟨a7, c7, w7, hr7, ho7, hg7⟩ := run_appT w1.heap.size (.slice va k ca) acc (s'.take z) wr.heap.size (HO2.out.below hal) (by simp [go_sem, tv]) hak3 (Nat.le_trans HB2.out.size hal.size)
        rw [hak.out] at hr7 ho7
        have ha7 := aside_grown hg7
        have hlt7 := OwnZ.lt HO2.out
        have HR7 := Lib.hid hr7
        have HO7 := Lib.hid ho7
        have HB7 := Lib.hid (below_aside (bel_call HB2.out hal) ha7 fun x hx => ⟨Nat.lt_of_lt_of_le hx (bel_call HB2.out hal).size, fun hg => by have := (hlt7 x hg).1; omega⟩)
        have hdl : (s'.drop z).length ≤ 1000000 := by have := HSL.out; rw [List.length_drop]; omega
        have hal2 := Lib.hid (show (acc ++ [s'.take z]).length = k + 1 by rw [List.length_append, hak.out]; rfl)
        clear hal hr7 ho7 hg7 ha7 hlt7 hst
        go_wp2_with (at_builtin; refine wpList_append_run (.tmp 48) (.tmp 52) 64 64 rfl rfl rfl rfl HR7.out ?_)
        go_roundg (ks.length - (k + 1))
        case measure => omega
        case rel => exact ⟨k + 1, s'.drop z, acc ++ [s'.take z], a7, c7, by omega, rfl, rfl, by go_num, hal2, hdl, HO7, HB7, hst2⟩
      | txt =>
        have hcell2 : wr.cell? ⟨w.heap.size, k, none⟩ = some (.int .i64 (-2)) := hcell
        have hn : s'.length ≤ s'.length := Nat.le_refl _
        have HT := Lib.hid (HTx.out s' hsl wr)
        clear hcell hsm
        by_cases hx : texts s' = true
        · rw [ctsA_some (show lenP s' .txt = some s'.length from if_pos hx)] at hst
          rw [hx] at HT
          clear hx
          go_wp2_with fail
          refine HT.out.mono ?_; rintro e0 w2 ⟨rfl, rfl⟩
          obtain ⟨z, hz⟩ : ∃ z, s'.length = z := ⟨_, rfl⟩
          have HZ := Lib.hid hz
          have hn : z ≤ s'.length := by omega
          have HSL := Lib.hid hsl
          rw [hz] at hst hsz hsl
          clear hz
          have hst2 := Lib.hid hst
          have htk := to_run s' z hn
          have hfr := from_run s' z hn
          
          have hn2 : z ≤ 1000000 := by omega
          
          have hal : Below wr.heap.size wr (wr.alloc (.cells #[.string (bs (s'.take z))] 9)) := (Below.refl _ _).alloc (Nat.le_refl _) _
          obtain ⟨a7, c7, w7, hr7, ho7, hg7⟩ := run_appT w1.heap.size (.slice va k ca) acc (s'.take z) wr.heap.size (HO2.out.below hal) (by simp [go_sem, tv]) hak3 (Nat.le_trans HB2.out.size hal.size)
          rw [hak.out] at hr7 ho7
          have ha7 := aside_grown hg7
          have hlt7 := OwnZ.lt HO2.out
          have HR7 := Lib.hid hr7
          have HO7 := Lib.hid ho7
          have HB7 := Lib.hid (below_aside (bel_call HB2.out hal) ha7 fun x hx => ⟨Nat.lt_of_lt_of_le hx (bel_call HB2.out hal).size, fun hg => by have := (hlt7 x hg).1; omega⟩)
          have hdl : (s'.drop z).length ≤ 1000000 := by have := HSL.out; rw [List.length_drop]; omega
          have hal2 := Lib.hid (show (acc ++ [s'.take z]).length = k + 1 by rw [List.length_append, hak.out]; rfl)
          clear hal hr7 ho7 hg7 ha7 hlt7 hst
          go_wp2_with (at_builtin; refine wpList_append_run (.tmp 48) (.tmp 52) 64 64 rfl rfl rfl rfl HR7.out ?_)
          go_roundg (ks.length - (k + 1))
          case measure => omega
          case rel => exact ⟨k + 1, s'.drop z, acc ++ [s'.take z], a7, c7, by omega, rfl, rfl, by go_num, hal2, hdl, HO7, HB7, hst2⟩
        · have hE : X = none := by rw [← hst]; exact ctsA_none (if_neg hx)
          have HE := Lib.hid hE
          rw [Bool.not_eq_true] at hx
          rw [hx] at HT
          clear hst hE hx
          go_wp2_with fail
          refine HT.out.mono ?_; rintro e0 w2 ⟨rfl, rfl⟩
          go_wp2_with fail
          go_ret2
          exact ⟨.slice none 0 0, by rw [HE.out]; rfl, bel_call HB1.out HB2.out⟩
      | nam =>
        have hcell2 : wr.cell? ⟨w.heap.size, k, none⟩ = some (.int .i64 (-1)) := hcell
        have HT := Lib.hid (HFr.out s' hsl wr)
        clear hcell hsm
        rcases hf : front s' with _ | m
        · have hE : X = none := by rw [← hst]; exact ctsA_none hf
          have HE := Lib.hid hE
          have hfi : frontI s' = -1 := by unfold frontI; rw [hf]
          rw [hfi] at HT
          clear hst hE hf hfi
          go_wp2_with fail
          refine HT.out.mono ?_; rintro e0 w2 ⟨rfl, hb⟩
          replace HB2 := Lib.hid (bel_call HB2.out hb)
          clear hb
          go_wp2_with fail
          go_ret2
          exact ⟨.slice none 0 0, by rw [HE.out]; rfl, bel_call HB1.out HB2.out⟩
        · obtain ⟨ls, q1, q2, q3, hn⟩ := front_some hf
          clear q1 q2 q3
          have hfi : frontI s' = (m : Int) := by unfold frontI; rw [hf]
          rw [hfi] at HT
          rw [ctsA_some (show lenP s' .nam = some m from hf)] at hst
          have u1 : ((m : Int) == -1) = false := by first | (simp; done) | (simp; omega)
          have u2 : ((m : Int) == -2) = false := by first | (simp; done) | (simp; omega)
          have u3 : ((m : Int) == -3) = false := by first | (simp; done) | (simp; omega)
          clear hf hfi
          go_wp2_with fail
          refine HT.out.mono ?_; rintro e0 w2 ⟨rfl, hb⟩
          replace HB2 := Lib.hid (bel_call HB2.out hb)
          replace HO2 := Lib.hid (HO2.out.below hb)
          clear hb
          have hst2 := Lib.hid hst
          have htk := to_run s' m hn
          have hfr := from_run s' m hn
          
          have hn2 : m ≤ 1000000 := by omega
          
          have hal : Below w2.heap.size w2 (w2.alloc (.cells #[.string (bs (s'.take m))] 9)) := (Below.refl _ _).alloc (Nat.le_refl _) _
          obtain ⟨a7, c7, w7, hr7, ho7, hg7⟩ := run_appT w1.heap.size (.slice va k ca) acc (s'.take m) w2.heap.size (HO2.out.below hal) (by simp [go_sem, tv]) hak3 (Nat.le_trans HB2.out.size hal.size)
          rw [hak.out] at hr7 ho7
          have ha7 := aside_grown hg7
          have hlt7 := OwnZ.lt HO2.out
          have HR7 := Lib.hid hr7
          have HO7 := Lib.hid ho7
          have HB7 := Lib.hid (below_aside (bel_call HB2.out hal) ha7 fun x hx => ⟨Nat.lt_of_lt_of_le hx (bel_call HB2.out hal).size, fun hg => by have := (hlt7 x hg).1; omega⟩)
          have hdl : (s'.drop m).length ≤ 1000000 := by rw [List.length_drop]; omega
          have hal2 := Lib.hid (show (acc ++ [s'.take m]).length = k + 1 by rw [List.length_append, hak.out]; rfl)
          clear hal hr7 ho7 hg7 ha7 hlt7 hst
          go_wp2_with (at_builtin; refine wpList_append_run (.tmp 48) (.tmp 52) 64 64 rfl rfl rfl rfl HR7.out ?_)
          go_roundg (ks.length - (k + 1))
          case measure => omega
          case rel => exact ⟨k + 1, s'.drop m, acc ++ [s'.take m], a7, c7, by omega, rfl, rfl, by go_num, hal2, hdl, HO7, HB7, hst2⟩
    · have hke : k = ks.length := by omega
      have hst := HXk.out
      rw [hke, List.drop_length, ctsA_nil] at hst
      have HE := Lib.hid hst
      have t1 : ¬ ((k : Int) < ks.length) := by omega
      have e2 : (bs s').toList.isEmpty = decide (s' = []) := by rw [bs_toList]; cases s' <;> simp
      obtain ⟨z, hz⟩ : ∃ z, decide (s' = []) = z := ⟨_, rfl⟩
      rw [hz] at e2
      have HZ := Lib.hid hz
      clear hst HXk hz
      go_wp2_with fail
      go_ret2
      refine ⟨.slice va k ca, ?_, bel_call HB1.out HB2.out⟩
      rw [← HE.out]
      exact ⟨by rw [HZ.out, hke]; rfl, OwnT.mono HO2.out HB1.out.size⟩
end Go.Proofs.Ytkiahaodajecfaa

/-
  The document's own cutting: whether data are those of a type.
-/
namespace Go.Proofs.Ytkiahaodajecfaa
open Go.RowKit Go.Shelf
set_option linter.unusedVariables false
set_option linter.unusedSimpArgs false
set_option maxRecDepth 100000

theorem rparts_no {t : Int} {s : List UInt8} (hs : s.length ≤ 1000000) (hc : cuts (kinds t) s = none) (w : World) : Calls Try.prog 33 #[.int .i64 t, .string (bs s)] w (Tells w (.tuple #[.slice none 0 0, .bool false])) := by
  refine (rparts_any t s hs w).mono ?_
  rintro e w' ⟨v, h1, h2⟩
  rw [show ctsA (kinds t) s [] = none by unfold ctsA; rw [hc]; rfl] at h1
  exact ⟨h1, h2⟩
theorem rparts_yes {t : Int} {s r : List UInt8} {L : List Pc} (hs : s.length ≤ 1000000) (hc : cuts (kinds t) s = some (L, r)) (w : World) : Calls Try.prog 33 #[.int .i64 t, .string (bs s)] w fun e w' => ∃ v, e = .returned (.tuple #[v, .bool (decide (r = []))]) ∧ OwnT w' w.heap.size v (L.map (·.1)) ∧ Below w.heap.size w w' := by
  refine (rparts_any t s hs w).mono ?_
  rintro e w' ⟨v, h1, h2⟩
  rw [show ctsA (kinds t) s [] = some (L.map (·.1), r) by unfold ctsA; rw [hc]; rfl] at h1
  exact ⟨v, h1.1, h1.2, h2⟩

set_option maxHeartbeats 4000000 in
theorem rcheckR_any (t : Int) (d : List UInt8) (hd : d.length ≤ 1000000) (w : World) : Calls Try.prog 16 #[.int .i64 t, .string (bs d)] w (Tells w (.int .i64 (spl t d).code)) := by
  have hsz : (bs d).size = d.length := bs_size d
  rw [spl_cuts]
  by_cases ht : t < 0
  · rw [if_pos (.inl ht)]
    show Calls _ _ _ _ (Tells w (.int .i64 5))
    have t1 : decide (t < 0) = true := by simpa using ht
    go_enter Try.func16, Try.ntmps16
    go_wp2_with fail
    go_ret
    exact ⟨rfl, Below.refl _ _⟩
  · have t1 : decide (t < 0) = false := by simpa using ht
    by_cases ht2 : 65535 < t
    · rw [if_pos (.inr ht2)]
      show Calls _ _ _ _ (Tells w (.int .i64 5))
      go_enter Try.func16, Try.ntmps16
      go_wp2_with fail
      go_ret
      exact ⟨rfl, Below.refl _ _⟩
    · rw [if_neg (by omega)]
      by_cases hl : 65535 < d.length
      · rw [if_pos hl]
        show Calls _ _ _ _ (Tells w (.int .i64 3))
        go_enter Try.func16, Try.ntmps16
        go_wp2_with fail
        go_ret
        exact ⟨rfl, Below.refl _ _⟩
      · rw [if_neg hl]
        rcases hc : cuts (kinds t) d with _ | ⟨L, r⟩
        · show Calls _ _ _ _ (Tells w (.int .i64 4))
          have HP := Lib.hid (fun wx => rparts_no hd hc wx)
          clear hc
          go_enter Try.func16, Try.ntmps16
          go_wp2_with fail
          refine (HP.out _).mono ?_; rintro e w1 ⟨rfl, hb⟩
          have HB := Lib.hid hb
          clear hb
          go_wp2_with fail
          go_ret
          exact ⟨rfl, HB.out⟩
        · have HP := Lib.hid (fun wx => rparts_yes hd hc wx)
          simp only
          by_cases hr : r = []
          · rw [if_pos hr]
            show Calls _ _ _ _ (Tells w (.int .i64 0))
            rw [decide_eq_true hr] at HP
            clear hc hr
            go_enter Try.func16, Try.ntmps16
            go_wp2_with fail
            refine (HP.out _).mono ?_; rintro e w1 ⟨v, rfl, _, hb⟩
            have HB := Lib.hid hb
            clear hb
            go_wp2_with fail
            go_ret
            exact ⟨rfl, HB.out⟩
          · rw [if_neg hr]
            show Calls _ _ _ _ (Tells w (.int .i64 4))
            rw [decide_eq_false hr] at HP
            clear hc hr
            go_enter Try.func16, Try.ntmps16
            go_wp2_with fail
            refine (HP.out _).mono ?_; rintro e w1 ⟨v, rfl, _, hb⟩
            have HB := Lib.hid hb
            clear hb
            go_wp2_with fail
            go_ret
            exact ⟨rfl, HB.out⟩

/-- Of these types data are short. -/
theorem cuts_short {t : Int} {d : List UInt8} {L : List Pc} (ht : t = 2 ∨ t = 5 ∨ t = 12 ∨ t = 15 ∨ t = 6) (h : cuts (kinds t) d = some (L, [])) : spl t d = .ok L := by
  rw [spl_cuts, if_neg (by omega)]
  have hlast : lastK (kinds t) = true := by rcases ht with rfl | rfl | rfl | rfl | rfl <;> rfl
  obtain ⟨hf, hj⟩ := cuts_fits _ hlast _ _ h
  have hlen : d.length ≤ 65535 := by
    rw [← hj]
    rcases ht with rfl | rfl | rfl | rfl | rfl
    all_goals
      first
        | (cases hf with | nam h1 h2 => cases h2; have := (chk_pos h1).2; simp [joined]; omega)
        | (cases hf with | fix h1 h2 => cases h2 with | nam h3 h4 => cases h4; have := (chk_pos h3).2; simp [joined]; omega)
        | (cases hf with | nam h1 h2 => cases h2 with | nam h3 h4 => cases h4 with | fix h5 h6 => cases h6; have := (chk_pos h1).2; have := (chk_pos h3).2; simp [joined]; omega)
  rw [if_neg (by omega), h]
  simp
end Go.Proofs.Ytkiahaodajecfaa

/-
  The document's own cutting: lower form.
-/
namespace Go.Proofs.Ytkiahaodajecfaa
open Go.RowKit Go.Shelf
set_option linter.unusedVariables false
set_option linter.unusedSimpArgs false
set_option maxRecDepth 100000

theorem fits_code {ks : List PK} {L : List Pc} (h : Fits ks L) : ∀ j (h1 : j < ks.length) (h2 : j < L.length), (codeK ks[j] == -1) = L[j].2 := by
  induction h with
  | nil => intro j h1; simp at h1
  | @fix n x ks L h h2 ih =>
    intro j h1 h3
    cases j with
    | zero => show ((n : Int) == -1) = false; first | (simp; done) | (simp; omega)
    | succ j => exact ih j (by simpa using h1) (by simpa using h3)
  | nam h h2 ih =>
    intro j h1 h3
    cases j with
    | zero => rfl
    | succ j => exact ih j (by simpa using h1) (by simpa using h3)
  | txt h =>
    intro j h1 h3
    obtain rfl : j = 0 := by simpa using h1
    rfl
  | rst =>
    intro j h1 h3
    obtain rfl : j = 0 := by simpa using h1
    rfl

theorem add_txt (a b : List UInt8) (ha : a.length ≤ 1000000) (hb : b.length ≤ 1000000) (w : World) : (Op.stringOp .add (bs a) (bs b)).run Try.prog w = .ok (.string (bs (a ++ b))) w := by
  rw [run_string_add_sum _ _ _ (by simp; omega)]
  congr 2

theorem low_joined : ∀ (M : List Pc), (joined (lowP M)).length = (joined M).length
  | [] => rfl
  | x :: M => by
    have h := low_joined M
    unfold lowP at h ⊢
    rw [List.map_cons, joined_cons, joined_cons, List.length_append, List.length_append, h]
    congr 1
    unfold lowX
    split
    · exact low_len _
    · rfl

theorem low_take {L : List Pc} {k : Nat} (h : k < L.length) : joined (lowP (L.take (k + 1))) = joined (lowP (L.take k)) ++ (lowX L[k]).1 := by
  rw [List.take_add_one, List.getElem?_eq_getElem h, Option.toList_some]
  unfold lowP
  rw [List.map_append, joined_app]
  simp [joined]

set_option maxHeartbeats 8000000 in
theorem rlowerR_any (t : Int) (d : List UInt8) (hd : d.length ≤ 1000000) (w : World) : Calls Try.prog 18 #[.int .i64 t, .string (bs d)] w (Tells w (.string (bs (lowD t d)))) := by
  have HFm := Lib.hid (fun wx => form_any t wx)
  have HC := Lib.hid (fun wx => rcheckR_any t d hd wx)
  have HB0 := Lib.hid (Below.refl w.heap.size w)
  rcases hs : spl t d with L | ⟨c, a⟩
  · obtain ⟨_, _, _, hf, hj⟩ := spl_ok hs
    have hcut := fits_cuts hf
    rw [hj] at hcut
    have HP := Lib.hid (fun wx => rparts_yes hd hcut wx)
    rw [decide_eq_true rfl] at HP
    rw [hs] at HC
    have e : lowD t d = joined (lowP L) := by unfold lowD; rw [hs]
    rw [e]
    have HCD := Lib.hid (fits_code hf)
    have hll := fits_len hf
    have hl3 := (kinds_small t).1
    obtain ⟨ks, hks⟩ : ∃ ks, kinds t = ks := ⟨_, rfl⟩
    rw [hks] at HFm HCD hll hl3
    have HLx := Lib.hid (fun k (h : k < L.length) => show L[k].1.length ≤ 1000000 from by
      have h1 := joined_take h
      have h2 := joined_part L (k + 1)
      rw [h1, List.length_append, hj] at h2
      omega)
    have HJ := Lib.hid (fun k => show (joined (lowP (L.take k))).length ≤ 1000000 from by
      rw [low_joined]
      have h2 := joined_part L k
      rw [hj] at h2
      omega)
    have HC' : Hid (∀ wx, Calls Try.prog 16 #[.int .i64 t, .string (bs d)] wx (Tells wx (.int .i64 0))) := fun wx => HC.out wx
    have HKn := Lib.hid hll
    obtain ⟨n, hn⟩ : ∃ n, ks.length = n := ⟨_, rfl⟩
    rw [hn] at hll hl3
    have HNN := Lib.hid hn
    clear hs hf hj hcut hks e HC hn
    go_enter Try.func18, Try.ntmps18
    go_wp2_with fail
    refine (HFm.out _).mono ?_; rintro e0 w1 ⟨rfl, hw1⟩
    have hb1 : Below w.heap.size w w1 := by rw [hw1]; exact (Below.refl _ _).alloc (Nat.le_refl _) _
    have HF := Lib.hid (fun (wx : World) (hb : Below w1.heap.size w1 wx) j (hj : j < ks.length) => show wx.cell? ⟨w.heap.size, j, none⟩ = some (.int .i64 (codeK ks[j])) from by
      refine cell_later hb ?_
      rw [hw1]
      rw [World.cell?]
      rw [show (w.alloc (.cells (ks.map fun k => Value.int .i64 (codeK k)).toArray 3)).heap[w.heap.size]? = some (.cells (ks.map fun k => Value.int .i64 (codeK k)).toArray 3) from heap_alloc_new w _]
      simp [hj])
    have HB1 := Lib.hid hb1
    clear hw1 hb1
    go_wp2_with fail
    refine (HP.out _).mono ?_; rintro e0 w2 ⟨v, rfl, ho, hb2⟩
    have HO2 := Lib.hid ho
    obtain ⟨va, ca, rfl⟩ := OwnT.shape ho
    rw [List.length_map, hll] at HO2 ⊢
    have HB2 := Lib.hid hb2
    clear ho hb2
    go_wp2_with fail
    refine (HC'.out _).mono ?_; rintro e0 w3 ⟨rfl, hb3⟩
    have HB3 := Lib.hid (bel_call HB2.out hb3)
    have HO3 := Lib.hid (OwnT.below HO2.out hb3)
    clear hb3 HO2 HB2
    go_wp2_with fail
    go_loopg [8, 9] n (fun g v8 v9 wr => ∃ k : Nat, k + g = n ∧ v9 = .int .i64 k ∧ v8 = .string (bs (joined (lowP (L.take k)))) ∧ Hid (Below w1.heap.size w1 wr) ∧ Hid (Below w3.heap.size w3 wr))
    case atStart => exact ⟨0, by omega, rfl, rfl, HB3, Below.refl _ _⟩
    case round =>
      obtain ⟨k, hk, rfl, rfl, HBr, HBs⟩ := hrel
      by_cases hlt : k < n
      · have hlk : k < L.length := by omega
        have hkk : k < ks.length := by have := HNN.out; omega
        have hcode := HF.out _ HBr.out k hkk
        obtain ⟨g9, d9, e9, hc9⟩ := OwnT.at_ (OwnT.below HO3.out HBs.out) k (by rw [List.length_map]; exact hlk)
        injection e9 with e9 e92 e93
        subst e9
        clear e92 e93
        rw [List.getElem_map] at hc9
        have hcd := HCD.out k hkk hlk
        have hlx := HLx.out k hlk
        have hst := low_take hlk
        unfold lowX at hst
        obtain ⟨q, hq⟩ : ∃ q, codeK ks[k] = q := ⟨_, rfl⟩
        obtain ⟨x, hx⟩ : ∃ x, L[k].1 = x := ⟨_, rfl⟩
        obtain ⟨f, hf⟩ : ∃ f, L[k].2 = f := ⟨_, rfl⟩
        rw [hq] at hcode hcd
        rw [hx] at hc9 hlx hst
        rw [hf] at hcd hst
        cases f with
        | true =>
          rw [if_pos rfl] at hst
          have HST := Lib.hid hst
          have HLo := Lib.hid (rlower_any x hlx wr)
          have hadd := fun wx => add_txt (joined (lowP (L.take k))) (low x) (HJ.out k) (by rw [low_len]; omega) wx
          clear hst hq hx hf
          go_wp2_with fail
          refine HLo.out.mono ?_; rintro e0 w4 ⟨rfl, hb4⟩
          have HBr4 := Lib.hid (bel_call HBr.out hb4)
          have HBs4 := Lib.hid (bel_call HBs.out hb4)
          clear hb4 hc9 hcode
          go_wp2_with fail
          go_roundg (n - (k + 1))
          case measure => omega
          case rel => exact ⟨k + 1, by omega, by go_num, by rw [HST.out], HBr4, HBs4⟩
        | false =>
          rw [if_neg (by simp)] at hst
          rw [hx] at hst
          have hadd := fun wx => add_txt (joined (lowP (L.take k))) x (HJ.out k) hlx wx
          have HST := Lib.hid hst
          clear hst hq hx hf
          go_wp2_with fail
          go_roundg (n - (k + 1))
          case measure => omega
          case rel => exact ⟨k + 1, by omega, by go_num, by rw [HST.out], HBr, HBs⟩
      · have hke : k = n := by omega
        have HE := Lib.hid (show L.take k = L by rw [List.take_of_length_le (by omega)])
        have t1 : ¬ ((k : Int) < n) := by omega
        go_wp2_with fail
        go_ret
        have HE2 := HE.out
        rw [hke] at HE2
        exact ⟨by rw [← hke] at HE2; simp only [hke] at HE2 ⊢; rw [HE2]; rfl, bel_call HB1.out HBr.out⟩
  · have e : lowD t d = d := by unfold lowD; rw [hs]
    rw [e]
    have hcb := code_bad hs
    rw [hs] at HC
    have HC' : Hid (∀ wx, Calls Try.prog 16 #[.int .i64 t, .string (bs d)] wx (Tells wx (.int .i64 c))) := fun wx => HC.out wx
    have tc : (c != 0) = true := by simpa using hcb
    have HP : Hid (∀ wx, Calls Try.prog 33 #[.int .i64 t, .string (bs d)] wx fun e w' => ∃ v b, e = .returned (.tuple #[v, .bool b]) ∧ Below wx.heap.size wx w') := fun wx => by
      rcases hcc : cuts (kinds t) d with _ | ⟨L, r⟩
      · refine (rparts_no hd hcc wx).mono ?_; rintro e w' ⟨rfl, hb⟩; exact ⟨_, _, rfl, hb⟩
      · refine (rparts_yes hd hcc wx).mono ?_; rintro e w' ⟨v, rfl, _, hb⟩; exact ⟨_, _, rfl, hb⟩
    clear hs hcb HC e
    go_enter Try.func18, Try.ntmps18
    go_wp2_with fail
    refine (HFm.out _).mono ?_; rintro e0 w1 ⟨rfl, hw1⟩
    have HB1 : Hid (Below w.heap.size w w1) := by rw [hw1]; exact (Below.refl _ _).alloc (Nat.le_refl _) _
    clear hw1
    go_wp2_with fail
    refine (HP.out _).mono ?_; rintro e0 w2 ⟨v, bb, rfl, hb2⟩
    have HB2 := Lib.hid (bel_call HB1.out hb2)
    clear hb2
    go_wp2_with fail
    refine (HC'.out _).mono ?_; rintro e0 w3 ⟨rfl, hb3⟩
    have HB3 := Lib.hid (bel_call HB2.out hb3)
    clear hb3
    go_wp2_with fail
    go_ret
    exact ⟨rfl, HB3.out⟩
end Go.Proofs.Ytkiahaodajecfaa

/-
  The document's own Write: its rows and its packer, round for round.
-/
namespace Go.Proofs.Ytkiahaodajecfaa
open Go.RowKit Go.Shelf
set_option linter.unusedVariables false
set_option linter.unusedSimpArgs false
set_option maxRecDepth 100000

/-- The rows of the form and of the parts, the bytes written, the packer. -/
structure Rw (w wr : World) (B q : Nat) (vf vt vb vr : Value) (cs ts : List Value) (nf nt : Nat) (acc : List UInt8) (K : KK) (e : Nat) : Prop where
  rf : wr.ownsRow w.heap.size 3 1 vf nf cs
  rt : wr.ownsRow w.heap.size 9 1 vt nt ts
  rb : OwnB wr w.heap.size vb acc
  pk : Rk wr B q vr K e
  has : Aside (fun b => b = q ∨ B ≤ b) w wr
  keep : ∀ B' v' (l' : List UInt8), B ≤ B' → OwnB w B' v' l' → OwnB wr B' v' l'

section
variable {w wr w' : World} {B q nf nt e : Nat} {vf vt vb vr : Value} {cs ts : List Value} {acc : List UInt8} {K : KK}

theorem Rw.later (h : Rw w wr B q vf vt vb vr cs ts nf nt acc K e) (hb : Below wr.heap.size wr w') : Rw w w' B q vf vt vb vr cs ts nf nt acc K e :=
  ⟨row_below h.rf hb, row_below h.rt hb, h.rb.below hb, h.pk.later hb, h.has.trans (Aside.of_all hb), fun B' v' l' hB ho => (h.keep B' v' l' hB ho).below hb⟩

theorem Rw.name {K' : KK} {e' : Nat} {v2 : Value} (h : Rw w wr B q vf vt vb vr cs ts nf nt acc K e) (hBw : B ≤ w.heap.size) (ha : Aside (fun b => b = q ∨ vr.ownBlock = some b) wr w') (hk : Rk w' B q v2 K' e') : Rw w w' B q vf vt vb v2 cs ts nf nt acc K' e' := by
  have hlt := h.pk.lt
  have hol := h.pk.own.lt
  refine ⟨row_aside h.rf ha fun b hb hg => ?_, row_aside h.rt ha fun b hb hg => ?_, h.rb.aside ha fun b hb hg => ?_, hk, h.has.trans (ha.mono fun b _ hg => hg.elim .inl fun hg => .inr (hol b hg).1), fun B' v' l' hB ho => (h.keep B' v' l' hB ho).aside ha fun b hb hg => ?_⟩
  · exact hg.elim (fun hg => by have := (World.ownsRow.lt h.rf b hb).1; omega) fun hg => row_apart h.rf h.pk.own (by decide) b hb hg
  · exact hg.elim (fun hg => by have := (World.ownsRow.lt h.rt b hb).1; omega) fun hg => row_apart h.rt h.pk.own (by decide) b hb hg
  · exact hg.elim (fun hg => by have := (h.rb.lt b hb).1; omega) fun hg => apart_BK h.rb h.pk.own b hb hg
  · exact hg.elim (fun hg => by have := ((h.keep B' v' l' hB ho).lt b hb).1; omega) fun hg => apart_BK (h.keep B' v' l' hB ho) h.pk.own b hb hg

theorem Rw.app (h : Rw w wr B q vf vt vb vr cs ts nf nt acc K e) (hBw : B ≤ w.heap.size) {xv : Value} {l' : List UInt8} {lo hi : Nat} (hx : Sl wr lo hi xv (iz l')) (hb : acc.length + l'.length ≤ 1000000) :
    ∃ a' c' w', (Builtin.append_ #[42, 42] 42 #[vb, xv]).run Try.prog wr = .ok (.slice a' (acc.length + l'.length) c') w' ∧ Rw w w' B q vf vt (.slice a' (acc.length + l'.length) c') vr cs ts nf nt (acc ++ l') K e := by
  have hsz := h.has.size
  obtain ⟨a', c', w', h1, h2, ha⟩ := run_appBs w.heap.size vb xv acc l' h.rb hx hb hsz
  have hlt := h.rb.lt
  have hq := h.pk.lt
  refine ⟨a', c', w', h1, row_aside h.rf ha fun b hb hg => row_apartB h.rb h.rf (by decide) b hg hb, row_aside h.rt ha fun b hb hg => row_apartB h.rb h.rt (by decide) b hg hb, h2, h.pk.aside ha (fun hg => by have := (hlt q hg).1; omega) (fun b hb hg => apart_BK h.rb h.pk.own b hg hb), h.has.trans (ha.mono fun b _ hg => .inr (by have := (hlt b hg).1; omega)), fun B' v' l' hB ho => (h.keep B' v' l' hB ho).aside ha fun b hb hg => ?_⟩
  have g1 := (ho.lt b hb).2
  have g2 := (hlt b hg).1
  omega
end

def RWrPost (w : World) (B q : Nat) (R : WR) (x : Ending) (w' : World) : Prop :=
  ∃ v1 v2, x = .returned (.tuple #[v1, .int .i64 R.code]) ∧ Sl w' w.heap.size w'.heap.size v1 (iz R.out) ∧ Rk w' B q v2 R.K R.e ∧ Aside (fun b => b = q ∨ B ≤ b) w w' ∧ ∀ B' v' (l' : List UInt8), B ≤ B' → OwnB w B' v' l' → OwnB w' B' v' l'
end Go.Proofs.Ytkiahaodajecfaa

/-
  The document's own Write: the walk.
-/
namespace Go.Proofs.Ytkiahaodajecfaa
open Go.RowKit Go.Shelf
set_option linter.unusedVariables false
set_option linter.unusedSimpArgs false
set_option maxRecDepth 100000

theorem row_mono {w : World} {B B' : Nat} {e : TypeId} {k n : Nat} {v : Value} {xs : List Value} (h : w.ownsRow B e k v n xs) (hB : B' ≤ B) : w.ownsRow B' e k v n xs := by
  refine ⟨h.1, ?_⟩
  rcases h.2 with h2 | ⟨g, cap, cur, hv, hg, r⟩
  · exact .inl h2
  · exact .inr ⟨g, cap, cur, hv, Nat.le_trans hB hg, r⟩

theorem form_row (w : World) (ks : List PK) (hk : ks.length ≤ 3) : (w.alloc (.cells (ks.map fun k => Value.int .i64 (codeK k)).toArray 3)).ownsRow w.heap.size 3 1 (.slice (some ⟨w.heap.size, 0, none⟩) ks.length ks.length) ks.length (ks.map fun k => Value.int .i64 (codeK k)) :=
  ⟨by simp, .inr ⟨w.heap.size, ks.length, _, rfl, Nat.le_refl _, heap_alloc_new w _, Nat.le_refl _, by unfold maxLen; omega, by simp, by simp; exact List.take_of_length_le (by simp)⟩⟩

set_option maxHeartbeats 8000000 in
theorem rwrite_any {w : World} {B q e : Nat} {v : Value} {K : KK} (h : Rk w B q v K e) (hG : GoodK K) (hK : K.length ≤ 800000) (a t : Int) (d : List UInt8) (hd : d.length ≤ 1000000) :
    Calls Try.prog 24 #[.pointer (some ⟨q, 0, none⟩), .int .i64 a, .int .i64 t, .string (bs d)] w (RWrPost w B q (wrR a t d K e)) := by
  have HC := Lib.hid (fun wx => rcheckR_any t d hd wx)
  have HFm := Lib.hid (fun wx => form_any t wx)
  have HPk := Lib.hid h
  have hBw := h.size
  rcases hR : spl t d with L | ⟨c, aa⟩
  · have eR : wrR a t d K e = wrL a L K e [] := by unfold wrR; rw [hR]
    rw [eR]
    obtain ⟨_, _, hd6, hf, hj⟩ := spl_ok hR
    have hcut := fits_cuts hf
    rw [hj] at hcut
    have HP := Lib.hid (fun wx => rparts_yes hd hcut wx)
    rw [decide_eq_true rfl] at HP
    rw [hR] at HC
    have HC' : Hid (∀ wx, Calls Try.prog 16 #[.int .i64 t, .string (bs d)] wx (Tells wx (.int .i64 0))) := fun wx => HC.out wx
    have HCD := Lib.hid (fits_code hf)
    have hfl := fits_len hf
    have hk3 := (kinds_small t).1
    obtain ⟨ks, hks⟩ : ∃ ks, kinds t = ks := ⟨_, rfl⟩
    rw [hks] at HFm HCD hfl hk3
    have HLP := Lib.hid (fun k (h : k < L.length) => show L[k].1.length ≤ 65535 from by
      have h1 := joined_take h
      have h2 := joined_part L (k + 1)
      rw [h1, List.length_append, hj] at h2
      omega)
    have HNM := Lib.hid (fun k (h : k < L.length) (h2 : L[k].2 = true) => fits_nam hf L[k] (List.getElem_mem h) h2)
    obtain ⟨X, hX⟩ : ∃ X, wrL a L K e [] = X := ⟨_, rfl⟩
    rw [hX]
    have HX := Lib.hid hX
    obtain ⟨n, hn⟩ : ∃ n, L.length = n := ⟨_, rfl⟩
    have HN := Lib.hid hn
    have HKN := Lib.hid (show ks.length = n by omega)
    have HFR := Lib.hid (fun wx => form_row wx ks hk3)
    have hn3 : n ≤ 3 := by omega
    clear hR eR hf hj hfl hk3 hd6 hn hX h hks hcut HC
    go_enter Try.func24, Try.ntmps24
    go_wp2_with fail
    refine (HC'.out _).mono ?_; rintro e0 w1 ⟨rfl, hb1⟩
    have HB1 := Lib.hid hb1
    clear hb1
    go_wp2_with fail
    refine (HFm.out _).mono ?_; rintro e0 w2 ⟨rfl, hw2⟩
    have HF2 := Lib.hid (row_mono (HFR.out w1) HB1.out.size)
    rw [← hw2] at HF2
    have HB2 : Hid (Below w.heap.size w w2) := by rw [hw2]; exact bel_alloc HB1.out _
    rw [HKN.out] at HF2 ⊢
    obtain ⟨gf, hgf⟩ : ∃ gf, w1.heap.size = gf := ⟨_, rfl⟩
    rw [hgf] at HF2 ⊢
    clear hw2 hgf
    go_wp2_with fail
    refine (HP.out _).mono ?_; rintro e0 w3 ⟨vt, rfl, ho, hb3⟩
    obtain ⟨at_, ct, rfl⟩ := OwnT.shape ho
    have HT3 : Hid (w3.ownsRow w.heap.size 9 1 (.slice at_ n ct) n ((L.map (·.1)).map tv)) := by
      have h1 := row_mono (OwnZ.owns ho) HB2.out.size
      simp only [List.length_map, HN.out] at h1 ⊢
      exact h1
    rw [List.length_map, HN.out]
    have HRw := Lib.hid (show Rw w w3 B q (.slice (some ⟨gf, 0, none⟩) n n) (.slice at_ n ct) (.slice none 0 0) v (ks.map fun k => Value.int .i64 (codeK k)) ((L.map (·.1)).map tv) n n [] K e from
      ⟨row_below HF2.out hb3, HT3.out, OwnB.nil _ _, HPk.out.later (bel_call HB2.out hb3), Aside.of_all (bel_call HB2.out hb3), fun B' v' l' _ ho => ho.below (bel_call HB2.out hb3)⟩)
    clear ho hb3 HF2 HB2 HT3 HPk
    go_wp2_with fail
    go_loopg [14, 15, 16, 17, 18] n (fun g v14 v15 v16 v17 v18 wr => ∃ (k z : Nat) (acc : List UInt8) (K' : KK) (e' : Nat) (vr : Value) (ab : Option Addr) (cb : Nat), k + g = n ∧ v15 = .int .i64 k ∧ v14 = .slice ab z cb ∧ Hid (acc.length = z) ∧ z ≤ 65535 * k ∧ K'.length ≤ K.length + 127 * k ∧ Hid (Rw w wr B q (.slice (some ⟨gf, 0, none⟩) n n) (.slice at_ n ct) (.slice ab z cb) vr (ks.map fun k => Value.int .i64 (codeK k)) ((L.map (·.1)).map tv) n n acc K' e') ∧ Hid (GoodK K') ∧ Hid (wrL a (L.drop k) K' e' acc = X))
    case atStart => exact ⟨0, 0, [], K, e, v, none, 0, by omega, rfl, rfl, rfl, by omega, by omega, HRw, hG, HX⟩
    case round =>
      obtain ⟨k, z, acc, K', e', vr, ab, cb, hk, rfl, rfl, hz, hzl, hKl, HW, HGk, HXk⟩ := hrel
      clear HRw
      by_cases hlt : k < n
      · have hlk : k < L.length := by have := HN.out; omega
        have hkk : k < ks.length := by have := HKN.out; omega
        have hcf := World.ownsRow.cells HW.out.rf (g := gf) rfl k _ (by rw [List.getElem?_map, List.getElem?_eq_getElem hkk]; rfl)
        rw [WideShapes.add_plain, Nat.zero_add] at hcf
        replace hcf : wr.cell? ⟨gf, k, none⟩ = some (.int .i64 (codeK ks[k])) := hcf
        obtain ⟨gt, hgt⟩ : ∃ gt, at_ = some ⟨gt, 0, none⟩ := by
          rcases HW.out.rt.2 with ⟨he, h0⟩ | ⟨g, cap, cur, he, _⟩
          · omega
          · injection he with he _ _; exact ⟨g, he⟩
        subst hgt
        have hct := World.ownsRow.cells HW.out.rt (g := gt) rfl k _ (by rw [List.getElem?_map, List.getElem?_map, List.getElem?_eq_getElem hlk]; rfl)
        rw [WideShapes.add_plain, Nat.zero_add] at hct
        replace hct : wr.cell? ⟨gt, k, none⟩ = some (tv L[k].1) := hct
        have hxl := HLP.out k hlk
        have hcd := HCD.out k hkk hlk
        have hst := HXk.out
        rw [List.drop_eq_getElem_cons hlk, wrL] at hst
        have hnm := fun h => HNM.out k hlk h
        obtain ⟨cq, hcq⟩ : ∃ cq, codeK ks[k] = cq := ⟨_, rfl⟩
        obtain ⟨x, hx⟩ : ∃ x, L[k].1 = x := ⟨_, rfl⟩
        obtain ⟨f, hf⟩ : ∃ f, L[k].2 = f := ⟨_, rfl⟩
        rw [hcq] at hcf hcd
        rw [hx] at hct hxl hst
        rw [hf] at hcd hst
        rw [hz.out] at hst
        rw [hf, hx] at hnm
        have hct2 : wr.cell? ⟨gt, k, none⟩ = some (.string (bs x)) := hct
        obtain ⟨cap, W, hcv, ho, hbW, hltW⟩ := conv_B wr x (by omega)
        have HWW := Lib.hid (HW.out.later hbW)
        have HO := Lib.hid ho
        have d0 := cell_later hbW hcf
        have d1 := cell_later hbW hct2
        clear hcq hx hf hct ho hbW hltW
        cases f with
        | false =>
          rw [if_neg (by simp)] at hst
          have HST := Lib.hid hst
          obtain ⟨l2, hl2⟩ : ∃ l2, x.length = l2 := ⟨_, rfl⟩
          obtain ⟨a3, c3, w3, hr3, hk3⟩ := HWW.out.app hBw HO.out.sl (by rw [hz.out]; omega)
          rw [hz.out, hl2] at hr3 hk3
          have HR3 := Lib.hid hr3
          have HK3 := Lib.hid hk3
          have hzl2 : z + l2 ≤ 65535 * (k + 1) := by omega
          have hlen := Lib.hid (show (acc ++ x).length = z + l2 by rw [List.length_append, hz.out, hl2])
          rw [hl2] at hcv
          clear hr3 hk3 hst hl2 HO
          go_wp2_with (at_builtin; refine wpList_append_run (.tmp 66) (.tmp 67) 42 42 rfl rfl rfl rfl HR3.out ?_)
          go_roundg (n - (k + 1))
          case measure => omega
          case rel => exact ⟨k + 1, z + l2, acc ++ x, K', e', vr, a3, c3, by omega, by go_num, rfl, hlen, hzl2, by omega, HK3, HGk, HST⟩
        | true =>
          rw [if_pos rfl] at hst
          have hx255 := (chk_pos (hnm rfl)).2
          have hnb := nameB_len (e := e') (a := wrap64 (a + z)) (n := x) HGk.out
          have hnk := nameK_good (e := e') (a := wrap64 (a + z)) (n := x) HGk.out
          have HNm0 := rname_any HWW.out.pk HGk.out (by omega) (wrap64 (a + z)) x (by omega)
          unfold RNamePost at HNm0
          obtain ⟨pl, hq⟩ : ∃ pl, wrap64 (a + z) = pl := ⟨_, rfl⟩
          rw [hq] at hst hnb hnk HNm0
          by_cases hE : pkE e' pl x = 0
          · rw [if_neg (by simpa using hE)] at hst
            have HST := Lib.hid hst
            obtain ⟨T, hT⟩ : ∃ T, nameB K' e' pl x = T := ⟨_, rfl⟩
            obtain ⟨K2, hK2⟩ : ∃ K2, nameK K' e' pl x = K2 := ⟨_, rfl⟩
            obtain ⟨e2, he2⟩ : ∃ e2, nameE K' e' pl x = e2 := ⟨_, rfl⟩
            rw [hT, hK2, he2] at HST
            have HNm : Hid (Calls Try.prog 42 #[.pointer (some ⟨q, 0, none⟩), .int .i64 pl, .string (bs x)] W fun y w' => ∃ v1 v2, y = .returned (.tuple #[v1, .int .i64 0]) ∧ Sl w' W.heap.size w'.heap.size v1 (iz T) ∧ Rk w' B q v2 K2 e2 ∧ Aside (fun b => b = q ∨ vr.ownBlock = some b) W w') := by
              refine HNm0.mono ?_
              rintro y w' ⟨v1, v2, rfl, g1, g2, g3⟩
              rw [hE]
              rw [hT] at g1
              rw [hK2, he2] at g2
              exact ⟨v1, v2, rfl, g1, g2, g3⟩
            rw [hT] at hnb
            rw [hK2] at hnk
            clear hst HNm0 hT hK2 he2 hE hnm
            go_wp2_with fail
            rw [hq]
            refine HNm.out.mono ?_; rintro e0 w3 ⟨v3, v4, rfl, hs3, hrk3, ha3⟩
            have HK3 := HWW.out.name hBw ha3 hrk3
            obtain ⟨l2, hl2⟩ : ∃ l2, T.length = l2 := ⟨_, rfl⟩
            obtain ⟨a4, c4, w4, hr4, hk4⟩ := HK3.app hBw hs3 (by rw [hz.out]; omega)
            obtain ⟨a5, c5, rfl, _⟩ := hs3
            rw [iz_len] at hr4 ⊢
            rw [hz.out, hl2] at hr4 hk4
            rw [hl2] at hnb ⊢
            have HR4 := Lib.hid hr4
            have HK4 := Lib.hid hk4
            have hzl2 : z + l2 ≤ 65535 * (k + 1) := by omega
            have hlen := Lib.hid (show (acc ++ T).length = z + l2 by rw [List.length_append, hz.out, hl2])
            have hG2 := Lib.hid hnk.1
            clear hr4 hk4 hl2 HO hrk3 ha3 HK3 hq
            go_wp2_with (at_builtin; refine wpList_append_run (.tmp 66) (.tmp 67) 42 42 rfl rfl rfl rfl HR4.out ?_)
            go_roundg (n - (k + 1))
            case measure => omega
            case rel => exact ⟨k + 1, z + l2, acc ++ T, K2, e2, v4, a4, c4, by omega, by go_num, rfl, hlen, hzl2, by omega, HK4, hG2, HST⟩
          · rw [if_pos (by simpa using hE)] at hst
            have HST := Lib.hid hst
            have hnk0 : nameK K' e' pl x = K' ∧ nameE K' e' pl x = e' := by unfold nameK nameE; rw [if_neg hE, if_neg hE]; exact ⟨rfl, rfl⟩
            obtain ⟨cc, hcc⟩ : ∃ cc, pkE e' pl x = cc := ⟨_, rfl⟩
            rw [hcc] at HST hE
            have HNm : Hid (Calls Try.prog 42 #[.pointer (some ⟨q, 0, none⟩), .int .i64 pl, .string (bs x)] W fun y w' => ∃ v1 v2, y = .returned (.tuple #[v1, .int .i64 cc]) ∧ Rk w' B q v2 K' e' ∧ Aside (fun b => b = q ∨ vr.ownBlock = some b) W w') := by
              refine HNm0.mono ?_
              rintro y w' ⟨v1, v2, rfl, _, g2, g3⟩
              rw [hcc]
              rw [hnk0.1, hnk0.2] at g2
              exact ⟨v1, v2, rfl, g2, g3⟩
            have tc : (cc != 0) = true := by simpa using hE
            clear hst HNm0 hcc hE hnm hnk0 hnk hnb
            go_wp2_with fail
            rw [hq]
            refine HNm.out.mono ?_; rintro e0 w3 ⟨v3, v4, rfl, hrk3, ha3⟩
            have HK3 := Lib.hid (HWW.out.name hBw ha3 hrk3)
            clear hrk3 ha3 hq
            go_wp2_with fail
            go_ret2
            rw [← HST.out]
            exact ⟨_, v4, rfl, ⟨none, 0, rfl, by simp [iz], fun _ => rfl, fun h => by simp [iz] at h⟩, HK3.out.pk, HK3.out.has, HK3.out.keep⟩
      · have hXe : wrL a [] K' e' acc = X := by have h := HXk.out; rw [List.drop_eq_nil_of_le (by have := HN.out; omega)] at h; exact h
        have HXe := Lib.hid hXe
        clear hXe
        have HSl := Lib.hid HW.out.rb.sl
        go_wp2_with fail
        go_ret2
        rw [← HXe.out]
        exact ⟨_, vr, rfl, HSl.out, HW.out.pk, HW.out.has, HW.out.keep⟩
  · have eR : wrR a t d K e = ⟨[], c, K, e⟩ := by unfold wrR; rw [hR]
    rw [eR]
    have hcb := code_bad hR
    rw [hR] at HC
    have HC' : Hid (∀ wx, Calls Try.prog 16 #[.int .i64 t, .string (bs d)] wx (Tells wx (.int .i64 c))) := fun wx => HC.out wx
    have tc : (c != 0) = true := by simpa using hcb
    clear hR hcb HC eR h
    go_enter Try.func24, Try.ntmps24
    go_wp2_with fail
    refine (HC'.out _).mono ?_; rintro e0 w1 ⟨rfl, hb1⟩
    have HB1 := Lib.hid hb1
    clear hb1
    go_wp2_with fail
    go_ret2
    exact ⟨_, v, rfl, ⟨none, 0, rfl, by simp [iz], fun _ => rfl, fun h => by simp [iz] at h⟩, HPk.out.later HB1.out, Aside.of_all HB1.out, fun B' v' l' _ ho => ho.below HB1.out⟩
end Go.Proofs.Ytkiahaodajecfaa

/-
  What the program writes and what the document's own text writes: the walk.
-/
namespace Go.Proofs.Ytkiahaodajecfaa
open Go.RowKit Go.Shelf
set_option linter.unusedVariables false
set_option linter.unusedSimpArgs false
set_option maxRecDepth 100000

theorem wrL_next (a : Int) : ∀ (L : List Pc) (K : KK) (e : Nat) (acc : List UInt8), GoodK K → e ≤ 66000 → GoodK (wrL a L K e acc).K ∧ (wrL a L K e acc).K.length ≤ K.length + 127 * L.length ∧ (wrL a L K e acc).e ≤ 66000
  | [], K, e, acc, hG, he => ⟨hG, by simp [wrL], he⟩
  | x :: L, K, e, acc, hG, he => by
    rw [wrL]
    split
    · split
      · exact ⟨hG, by simp, he⟩
      · have h1 := nameK_good (e := e) (a := wrap64 (a + acc.length)) (n := x.1) hG
        obtain ⟨g1, g2, g3⟩ := wrL_next a L (nameK K e (wrap64 (a + acc.length)) x.1) (nameE K e (wrap64 (a + acc.length)) x.1) (acc ++ nameB K e (wrap64 (a + acc.length)) x.1) h1.1 (by omega)
        exact ⟨g1, by rw [List.length_cons]; omega, g3⟩
    · obtain ⟨g1, g2, g3⟩ := wrL_next a L K e (acc ++ x.1) hG he
      exact ⟨g1, by rw [List.length_cons]; omega, g3⟩

theorem wrR_next {K : KK} {e : Nat} (a t : Int) (d : List UInt8) (hG : GoodK K) (he : e ≤ 66000) : GoodK (wrR a t d K e).K ∧ (wrR a t d K e).K.length ≤ K.length + 400 ∧ (wrR a t d K e).e ≤ 66000 := by
  unfold wrR
  rcases hs : spl t d with L | ⟨c, aa⟩
  · obtain ⟨_, _, _, hf, _⟩ := spl_ok hs
    have h1 := fits_len hf
    have h2 := (kinds_small t).1
    obtain ⟨g1, g2, g3⟩ := wrL_next a L K e [] hG he
    exact ⟨g1, by simp only; omega, g3⟩
  · exact ⟨hG, by simp, he⟩

set_option maxHeartbeats 8000000 in
theorem writes_long {v : Value} {l : List AQ} (w : World) (h : Aq w w.heap.size v l) (hc : longQ l = true) : Calls Try.prog 4 #[v] w (Tells w (.bool true)) := by
  have HAW := Lib.hid awakeD_any
  have HN := Lib.hid new_any
  have HL := Lib.hid (fun wx (hb : Below w.heap.size w wx) => longQ_any (h.below hb (Nat.le_refl _)))
  rw [hc] at HL
  have HB := Lib.hid (Below.refl w.heap.size w)
  go_enter Try.func4, Try.ntmps4
  go_wp2_with fail
  refine (HN.out _).mono ?_; rintro e w2 ⟨p, bm, rfl, hp1, hb1, hpk, hb⟩
  have HB2 := Lib.hid (bel_alloc (bel_call HB.out hb) (.cells #[.slice none 0 0, .int .i64 0] 37))
  clear hb hp1 hb1 hpk HB
  go_wp2_with fail
  refine (HL.out _ HB2.out).mono ?_; rintro e w3 ⟨rfl, rfl⟩
  go_wp2_with fail
  refine (HAW.out _).mono ?_; rintro e w4 ⟨rfl, hb⟩
  have HB4 := Lib.hid (bel_call HB2.out hb)
  clear hb
  go_wp2_with fail
  go_ret
  exact ⟨rfl, HB4.out⟩

set_option maxHeartbeats 8000000 in
theorem writes_core {v : Value} {l : List AQ} (w : World) (h : Aq w w.heap.size v l) (hc : longQ l = false) : Calls Try.prog 4 #[v] w (Tells w (.bool true)) := by
  have HAW := Lib.hid awakeD_any
  have HN := Lib.hid new_any
  have HL := Lib.hid (fun wx (hb : Below w.heap.size w wx) => longQ_any (h.below hb (Nat.le_refl _)))
  have HNil := Lib.hid (fun wx => write_nil 0 1 ⟨#[49, 50, 51, 52]⟩ wx)
  rw [hc] at HL
  obtain ⟨hl40, hn3⟩ := longQ_no hc
  have HN3 := Lib.hid hn3
  have HA := Lib.hid h
  obtain ⟨aa, ca, rfl, _⟩ := h
  have HB := Lib.hid (Below.refl w.heap.size w)
  clear hn3 hc
  go_enter Try.func4, Try.ntmps4
  go_wp2_with fail
  refine (HN.out _).mono ?_; rintro e w2 ⟨p, bm, rfl, hp1, hb1, hpk, hb⟩
  have hal := bel_alloc (Below.refl w2.heap.size w2) (.cells #[.slice none 0 0, .int .i64 0] 37)
  have HB2 := Lib.hid (bel_alloc (bel_call HB.out hb) (.cells #[.slice none 0 0, .int .i64 0] 37))
  have HPk0 := Lib.hid (hpk.later hal)
  have HRk0 := Lib.hid (show Rk (w2.alloc (.cells #[.slice none 0 0, .int .i64 0] 37)) (w2.heap.size + 1) w2.heap.size (.slice none 0 0) [] 0 from
    ⟨by simp [go_sem], by simp [go_sem], fun j => by simp [go_sem], OwnK.nil _ _, Nat.lt_succ_self _, by simp⟩)
  have Hne := Lib.hid (show p < w2.heap.size ∧ bm < w2.heap.size ∧ w.heap.size ≤ p ∧ w.heap.size ≤ bm ∧ w.heap.size ≤ w2.heap.size from ⟨hpk.lt, hpk.map.lt, Nat.le_trans HB.out.size hp1, Nat.le_trans HB.out.size hb1, (bel_call HB.out hb).size⟩)
  clear hb hp1 hb1 hpk hal HB
  go_wp2_with fail
  refine (HL.out _ HB2.out).mono ?_; rintro e w3 ⟨rfl, rfl⟩
  obtain ⟨q, hq⟩ : ∃ q, w2.heap.size = q := ⟨_, rfl⟩
  obtain ⟨W, hW⟩ : ∃ W, w2.alloc (.cells #[.slice none 0 0, .int .i64 0] 37) = W := ⟨_, rfl⟩
  rw [hW] at HB2 HPk0 HRk0 ⊢
  rw [hq] at HRk0 Hne ⊢
  clear hW hq HN
  go_wp2_with fail
  go_loopg [5] l.length (fun g v5 wr => ∃ (k : Nat) (K : KK) (e : Nat) (vr : Value), k + g = l.length ∧ v5 = .int .i64 k ∧ K.length ≤ 400 * k ∧ e ≤ 66000 ∧ Hid (GoodK K) ∧ Hid (Pk wr p bm K e) ∧ Hid (Rk wr (q + 1) q vr K e) ∧ Hid (Below w.heap.size w wr))
  case atStart => exact ⟨0, [], 0, _, by omega, rfl, by simp, by omega, good_nil, HPk0, HRk0, HB2⟩
  case round =>
    obtain ⟨k, K, e, vr, hk, rfl, hKl, he66, HG, HPk, HRk, HB⟩ := hrel
    clear HPk0 HRk0 HB2
    by_cases hlt : k < l.length
    · obtain ⟨a0, c0, he0, hcc⟩ := HA.out
      obtain ⟨g0, off, rfl, hg0, hcell⟩ := hcc (by omega)
      injection he0 with he1 he2 he3
      subst he1
      have h3000 := HN3.out k hlt
      have HD := Lib.hid (fun (wx : World) (hb : Below w.heap.size w wx) => (hcell k hlt).1.keep fun o => hb.cell (p := ⟨g0, o, none⟩) hg0)
      clear he2 he3 hcc hcell
      obtain ⟨x, hx⟩ : ∃ x, l[k] = x := ⟨_, rfl⟩
      rw [hx] at h3000 HD
      obtain ⟨t, A, R, d⟩ := x
      simp only at h3000 HD
      clear hx
      obtain ⟨c0, c1, c2, c3⟩ := HD.out _ HB.out
      simp only at c0 c1 c2 c3
      have HP := Lib.hid (fun wx => pick_any A 20000 wx (by decide) (by decide))
      have f1 := HRk.out.fin
      cases R
      · have hdX : Below wr.heap.size wr wr.drew := (Below.refl _ _).drew
        have HPkX := Lib.hid (HPk.out.later hdX)
        have HRkX := Lib.hid (HRk.out.later hdX)
        have HBX := Lib.hid (bel_call HB.out hdX)
        have f1D := HRkX.out.fin
        clear hdX
        go_wp2_with fail
        go_region_held3 (fun wx => wx.cell? ⟨q, 1, none⟩ = some (.int .i64 e)) (first | exact f1 | exact f1D) (first | (go_at_call 22; refine (HP.out _).mono ?_; rintro e0 w3 ⟨q0, hq0, rfl, rfl⟩))
        clear c0 c1 c2 c3 f1 f1D
        obtain ⟨W, hW⟩ : ∃ W, wr.drew = W := ⟨_, rfl⟩
        rw [hW] at HPkX HRkX HBX ⊢
        clear hW
        go_wp2_with fail
        obtain ⟨Y, hY⟩ : ∃ Y, IntKind.i64.wrap ((e : Int) + q0) = Y := ⟨_, rfl⟩
        rw [hY]
        clear hY
        have HWt := Lib.hid (fun (wx : World) (hb : Below W.heap.size W wx) => write_any (w := wx) (HPkX.out.later hb) HG.out (by omega) (by omega) Y t d (by omega))
        have HRt := Lib.hid (fun (wx : World) vx (h : Rk wx (q + 1) q vx K e) => rwrite_any h HG.out (by omega) Y t d (by omega))
        have hnx := wrR_next Y t d HG.out he66
        obtain ⟨X, hX⟩ : ∃ X, wrR Y t d K e = X := ⟨_, rfl⟩
        rw [hX] at HWt HRt hnx
        obtain ⟨out, c, K', e'⟩ := X
        simp only at hnx
        unfold WrPost at HWt
        unfold RWrPost at HRt
        simp only at HWt HRt
        have HG' := Lib.hid hnx.1
        have hK2 : K'.length ≤ 400 * (k + 1) := by have := hnx.2.1; omega
        have he2 : e' ≤ 66000 := hnx.2.2
        have tcc : (c != c) = false := by simp
        have tkk : (((K'.length : Nat) : Int) != (K'.length : Nat)) = false := by simp
        clear hX hnx
        obtain ⟨d0, _, _, d3⟩ := HD.out _ HBX.out
        simp only at d0 d3
        have HWd := Lib.hid (show Below W.heap.size W W.drew from (Below.refl _ _).drew)
        have HRkD0 := Lib.hid (HRkX.out.later HWd.out)
        have HBD0 := Lib.hid (bel_call HBX.out HWd.out)
        go_wp2_with fail
        go_region_held3 (fun wx => wx.cell? ⟨g0, off + k * 4, none⟩ = some (.int .i64 t) ∧ wx.cell? ⟨g0, off + k * 4 + 3, none⟩ = some (.string (bs d))) (first | exact ⟨d0, d3⟩ | exact ⟨cell_later HWd.out d0, cell_later HWd.out d3⟩ | exact HQ4.out) (first | (go_at_call 23; refine (HWt.out _ HWd.out).mono ?_; rintro e0 w4 ⟨va, rfl, hoA, hpk, has⟩; have HP4 := Lib.hid (And.intro hoA (And.intro hpk has)); have HB4 := Lib.hid (below_aside HBD0.out has fun b hb => ⟨Nat.lt_of_lt_of_le hb HBD0.out.size, by have := Hne.out; omega⟩); have HQ4 : Hid (w4.cell? ⟨g0, off + k * 4, none⟩ = some (.int .i64 t) ∧ w4.cell? ⟨g0, off + k * 4 + 3, none⟩ = some (.string (bs d))) := ⟨(HD.out _ HB4.out).1, (HD.out _ HB4.out).2.2.2⟩; clear hoA hpk has))
        clear d0 d3
        obtain ⟨d0, d3⟩ := HQ4.out
        have HO4 := Lib.hid HP4.out.1
        obtain ⟨av, cv, rfl⟩ := HO4.out.shape
        have hsz1 := HRkD0.out.size
        have HRk4 := Lib.hid (HRkD0.out.aside HP4.out.2.2 (fun h => by have := Hne.out; omega) fun b hb h => by have := (HRkD0.out.own.lt b hb).1; have := Hne.out; omega)
        have HPk4 := Lib.hid HP4.out.2.1
        have HW4 := Lib.hid (show Below w4.heap.size w4 w4.drew from (Below.refl _ _).drew)
        have HRk4D := Lib.hid (HRk4.out.later HW4.out)
        have HPk4D := Lib.hid (HPk4.out.later HW4.out)
        have HO4D := Lib.hid (HO4.out.below HW4.out)
        have HB4D := Lib.hid (bel_call HB4.out HW4.out)
        clear HP4 HWt
        go_wp2_with fail
        go_region_held3 (fun wx => wx.cell? ⟨g0, off + k * 4, none⟩ = some (.int .i64 t) ∧ wx.cell? ⟨g0, off + k * 4 + 3, none⟩ = some (.string (bs d))) (first | exact ⟨d0, d3⟩ | exact ⟨cell_later HW4.out d0, cell_later HW4.out d3⟩ | exact HQ5.out) (first | (go_at_call 24; refine (HRt.out _ _ HRk4D.out).mono ?_; rintro e0 w5 ⟨vb, vy, rfl, hsl, hrk, has, hkp⟩; have HP5 := Lib.hid (And.intro hsl (And.intro hrk (And.intro has hkp))); have HB5 := Lib.hid (below_aside HB4D.out has fun b hb => ⟨Nat.lt_of_lt_of_le hb HB4D.out.size, by have := Hne.out; omega⟩); have HQ5 : Hid (w5.cell? ⟨g0, off + k * 4, none⟩ = some (.int .i64 t) ∧ w5.cell? ⟨g0, off + k * 4 + 3, none⟩ = some (.string (bs d))) := ⟨(HD.out _ HB5.out).1, (HD.out _ HB5.out).2.2.2⟩; clear hsl hrk has hkp))
        clear d0 d3
        have hne := Hne.out
        have HPk5 := Lib.hid (HPk4D.out.aside HP5.out.2.2.1 (fun h => by omega) (fun h => by omega))
        have HO5 := Lib.hid (HP5.out.2.2.2 _ _ _ hsz1 HO4D.out)
        have hdr : Below w5.heap.size w5 w5.drew := (Below.refl _ _).drew
        have hrk := HP5.out.2.1
        have hsl := HP5.out.1
        have HSm := Lib.hid (same_any (HO5.out.below hdr).sl (hsl.later hdr))
        have HKn := Lib.hid (known_any (HPk5.out.later hdr))
        have HOv := Lib.hid (over_B (HO5.out.below hdr))
        have HPkD := Lib.hid (HPk5.out.later hdr)
        have HRkD := Lib.hid (hrk.later hdr)
        have HOD := Lib.hid (HO5.out.below hdr)
        have HBD := Lib.hid (bel_call HB5.out hdr)
        obtain ⟨ab, cb, rfl, _⟩ := hsl
        obtain ⟨ay, cy, rfl⟩ := hrk.own.shape
        have k0 := hrk.row
        have HS1 := Lib.hid hsz1
        simp only [iz_len] at HSm ⊢
        clear hne hrk hdr HPk4 HO4 HRk4 HB4 HPk5 HO5 HB5 HRt HPk4D HO4D HRk4D HB4D HQ4 HQ5 HP5 hsz1
        go_wp2_with fail
        have kD := HRkD.out.row
        go_region_held3 (fun wx => wx.cell? ⟨q, 0, none⟩ = some (.slice ay K'.length cy)) (first | exact k0 | exact kD) (first | (go_at_call 25; refine HSm.out.mono ?_; rintro e0 wy ⟨rfl, rfl⟩) | (go_at_call 26; refine HKn.out.mono ?_; rintro e0 wy ⟨rfl, rfl⟩))
        go_wp2_with fail
        refine HOv.out.mono ?_; rintro e0 w7 ⟨rfl, has⟩
        have hne := Hne.out
        have hq1 := HS1.out
        have HPk7 := Lib.hid (HPkD.out.aside has (fun h => by have := h.1; omega) (fun h => by have := h.1; omega))
        have HRk7 := Lib.hid (HRkD.out.aside has (fun h => by have := h.1; omega) (fun b hb h => apart_BK HOD.out HRkD.out.own b h.2 hb))
        have HB7 := Lib.hid (below_aside HBD.out has fun b hb => ⟨Nat.lt_of_lt_of_le hb HBD.out.size, fun h => by have := h.1; omega⟩)
        clear has hne hq1 k0 kD
        go_wp2_with fail
        go_roundg (l.length - (k + 1))
        case measure => omega
        case rel => exact ⟨k + 1, K', e', _, by omega, by go_num, hK2, he2, HG', HPk7, HRk7, HB7⟩
      · have HPkX := HPk
        have HRkX := HRk
        have HBX := HB
        go_wp2_with fail
        clear c0 c1 c2 c3 f1
        have HWt := Lib.hid (fun (wx : World) (hb : Below wr.heap.size wr wx) => write_any (w := wx) (HPkX.out.later hb) HG.out (by omega) (by omega) A t d (by omega))
        have HRt := Lib.hid (fun (wx : World) vx (h : Rk wx (q + 1) q vx K e) => rwrite_any h HG.out (by omega) A t d (by omega))
        have hnx := wrR_next A t d HG.out he66
        obtain ⟨X, hX⟩ : ∃ X, wrR A t d K e = X := ⟨_, rfl⟩
        rw [hX] at HWt HRt hnx
        obtain ⟨out, c, K', e'⟩ := X
        simp only at hnx
        unfold WrPost at HWt
        unfold RWrPost at HRt
        simp only at HWt HRt
        have HG' := Lib.hid hnx.1
        have hK2 : K'.length ≤ 400 * (k + 1) := by have := hnx.2.1; omega
        have he2 : e' ≤ 66000 := hnx.2.2
        have tcc : (c != c) = false := by simp
        have tkk : (((K'.length : Nat) : Int) != (K'.length : Nat)) = false := by simp
        clear hX hnx
        obtain ⟨d0, _, _, d3⟩ := HD.out _ HBX.out
        simp only at d0 d3
        have HWd := Lib.hid (show Below wr.heap.size wr wr.drew from (Below.refl _ _).drew)
        have HRkD0 := Lib.hid (HRkX.out.later HWd.out)
        have HBD0 := Lib.hid (bel_call HBX.out HWd.out)
        go_wp2_with fail
        go_region_held3 (fun wx => wx.cell? ⟨g0, off + k * 4, none⟩ = some (.int .i64 t) ∧ wx.cell? ⟨g0, off + k * 4 + 3, none⟩ = some (.string (bs d))) (first | exact ⟨d0, d3⟩ | exact ⟨cell_later HWd.out d0, cell_later HWd.out d3⟩ | exact HQ4.out) (first | (go_at_call 23; refine (HWt.out _ HWd.out).mono ?_; rintro e0 w4 ⟨va, rfl, hoA, hpk, has⟩; have HP4 := Lib.hid (And.intro hoA (And.intro hpk has)); have HB4 := Lib.hid (below_aside HBD0.out has fun b hb => ⟨Nat.lt_of_lt_of_le hb HBD0.out.size, by have := Hne.out; omega⟩); have HQ4 : Hid (w4.cell? ⟨g0, off + k * 4, none⟩ = some (.int .i64 t) ∧ w4.cell? ⟨g0, off + k * 4 + 3, none⟩ = some (.string (bs d))) := ⟨(HD.out _ HB4.out).1, (HD.out _ HB4.out).2.2.2⟩; clear hoA hpk has))
        clear d0 d3
        obtain ⟨d0, d3⟩ := HQ4.out
        have HO4 := Lib.hid HP4.out.1
        obtain ⟨av, cv, rfl⟩ := HO4.out.shape
        have hsz1 := HRkD0.out.size
        have HRk4 := Lib.hid (HRkD0.out.aside HP4.out.2.2 (fun h => by have := Hne.out; omega) fun b hb h => by have := (HRkD0.out.own.lt b hb).1; have := Hne.out; omega)
        have HPk4 := Lib.hid HP4.out.2.1
        have HW4 := Lib.hid (show Below w4.heap.size w4 w4.drew from (Below.refl _ _).drew)
        have HRk4D := Lib.hid (HRk4.out.later HW4.out)
        have HPk4D := Lib.hid (HPk4.out.later HW4.out)
        have HO4D := Lib.hid (HO4.out.below HW4.out)
        have HB4D := Lib.hid (bel_call HB4.out HW4.out)
        clear HP4 HWt
        go_wp2_with fail
        go_region_held3 (fun wx => wx.cell? ⟨g0, off + k * 4, none⟩ = some (.int .i64 t) ∧ wx.cell? ⟨g0, off + k * 4 + 3, none⟩ = some (.string (bs d))) (first | exact ⟨d0, d3⟩ | exact ⟨cell_later HW4.out d0, cell_later HW4.out d3⟩ | exact HQ5.out) (first | (go_at_call 24; refine (HRt.out _ _ HRk4D.out).mono ?_; rintro e0 w5 ⟨vb, vy, rfl, hsl, hrk, has, hkp⟩; have HP5 := Lib.hid (And.intro hsl (And.intro hrk (And.intro has hkp))); have HB5 := Lib.hid (below_aside HB4D.out has fun b hb => ⟨Nat.lt_of_lt_of_le hb HB4D.out.size, by have := Hne.out; omega⟩); have HQ5 : Hid (w5.cell? ⟨g0, off + k * 4, none⟩ = some (.int .i64 t) ∧ w5.cell? ⟨g0, off + k * 4 + 3, none⟩ = some (.string (bs d))) := ⟨(HD.out _ HB5.out).1, (HD.out _ HB5.out).2.2.2⟩; clear hsl hrk has hkp))
        clear d0 d3
        have hne := Hne.out
        have HPk5 := Lib.hid (HPk4D.out.aside HP5.out.2.2.1 (fun h => by omega) (fun h => by omega))
        have HO5 := Lib.hid (HP5.out.2.2.2 _ _ _ hsz1 HO4D.out)
        have hdr : Below w5.heap.size w5 w5.drew := (Below.refl _ _).drew
        have hrk := HP5.out.2.1
        have hsl := HP5.out.1
        have HSm := Lib.hid (same_any (HO5.out.below hdr).sl (hsl.later hdr))
        have HKn := Lib.hid (known_any (HPk5.out.later hdr))
        have HOv := Lib.hid (over_B (HO5.out.below hdr))
        have HPkD := Lib.hid (HPk5.out.later hdr)
        have HRkD := Lib.hid (hrk.later hdr)
        have HOD := Lib.hid (HO5.out.below hdr)
        have HBD := Lib.hid (bel_call HB5.out hdr)
        obtain ⟨ab, cb, rfl, _⟩ := hsl
        obtain ⟨ay, cy, rfl⟩ := hrk.own.shape
        have k0 := hrk.row
        have HS1 := Lib.hid hsz1
        simp only [iz_len] at HSm ⊢
        clear hne hrk hdr HPk4 HO4 HRk4 HB4 HPk5 HO5 HB5 HRt HPk4D HO4D HRk4D HB4D HQ4 HQ5 HP5 hsz1
        go_wp2_with fail
        have kD := HRkD.out.row
        go_region_held3 (fun wx => wx.cell? ⟨q, 0, none⟩ = some (.slice ay K'.length cy)) (first | exact k0 | exact kD) (first | (go_at_call 25; refine HSm.out.mono ?_; rintro e0 wy ⟨rfl, rfl⟩) | (go_at_call 26; refine HKn.out.mono ?_; rintro e0 wy ⟨rfl, rfl⟩))
        go_wp2_with fail
        refine HOv.out.mono ?_; rintro e0 w7 ⟨rfl, has⟩
        have hne := Hne.out
        have hq1 := HS1.out
        have HPk7 := Lib.hid (HPkD.out.aside has (fun h => by have := h.1; omega) (fun h => by have := h.1; omega))
        have HRk7 := Lib.hid (HRkD.out.aside has (fun h => by have := h.1; omega) (fun b hb h => apart_BK HOD.out HRkD.out.own b h.2 hb))
        have HB7 := Lib.hid (below_aside HBD.out has fun b hb => ⟨Nat.lt_of_lt_of_le hb HBD.out.size, fun h => by have := h.1; omega⟩)
        clear has hne hq1 k0 kD
        go_wp2_with fail
        go_roundg (l.length - (k + 1))
        case measure => omega
        case rel => exact ⟨k + 1, K', e', _, by omega, by go_num, hK2, he2, HG', HPk7, HRk7, HB7⟩
    · have t1 : ¬ ((k : Int) < l.length) := by omega
      have hke : k = l.length := by omega
      go_wp2_with fail
      refine (HNil.out _).mono ?_; rintro e0 w3 ⟨rfl, rfl⟩
      go_wp2_with fail
      refine (HAW.out _).mono ?_; rintro e0 w4 ⟨rfl, hb⟩
      have HB4 := Lib.hid (bel_call HB.out hb)
      clear hb
      go_wp2_with fail
      go_ret
      exact ⟨rfl, HB4.out⟩

/-- The statement. -/
theorem writesD_any {v : Value} {l : List AQ} (w : World) (h : Aq w w.heap.size v l) : Calls Try.prog 4 #[v] w (Tells w (.bool true)) := by
  by_cases hc : longQ l = true
  · exact writes_long w h hc
  · exact writes_core w h (by simpa using hc)
end Go.Proofs.Ytkiahaodajecfaa
