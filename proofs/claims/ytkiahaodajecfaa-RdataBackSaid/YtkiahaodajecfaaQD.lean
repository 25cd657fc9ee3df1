/-
  Write: plainly; what it asks of the packer.
-/
import Derived.Test.YtkiahaodajecfaaQC
import Derived.Test.YtkiahaodajecfaaKt
import Derived.Deep.Slices
import Derived.Deep.LoopGhost
import Derived.ChangeArms
import Derived.Outline
import Derived.Maps.AppendAt
namespace Go.Proofs.Ytkiahaodajecfaa
open Go.RowKit Go.Shelf
set_option linter.unusedVariables false
set_option linter.unusedSimpArgs false
set_option maxRecDepth 100000

/-- Tails, and where the last name ended; what was told. -/
abbrev KK := List (List UInt8 × Nat)
structure WR where
  out : List UInt8
  code : Int
  K : KK
  e : Nat

/-- The pieces' bytes, one behind the other. -/
def wrL (a : Int) : List Pc → KK → Nat → List UInt8 → WR
  | [], K, e, acc => ⟨acc, 0, K, e⟩
  | x :: L, K, e, acc =>
    if x.2 = true then
      (if pkE e (wrap64 (a + acc.length)) x.1 ≠ 0 then ⟨[], pkE e (wrap64 (a + acc.length)) x.1, K, e⟩
       else wrL a L (nameK K e (wrap64 (a + acc.length)) x.1) (nameE K e (wrap64 (a + acc.length)) x.1) (acc ++ nameB K e (wrap64 (a + acc.length)) x.1))
    else wrL a L K e (acc ++ x.1)

def wrR (a t : Int) (d : List UInt8) (K : KK) (e : Nat) : WR := match spl t d with | .ok L => wrL a L K e [] | .bad c _ => ⟨[], c, K, e⟩

theorem nameB_len {K : KK} {e : Nat} {a : Int} {n : List UInt8} (hG : GoodK K) : (nameB K e a n).length ≤ 255 ∧ (pkE e a n = 0 → (nameB K e a n).length ≤ n.length) := by
  unfold nameB
  by_cases h : pkE e a n = 0
  · rw [if_pos h]
    have hc : chk n = 0 := by
      unfold pkE at h
      split at h
      · rename_i h1; exact absurd h h1
      · rename_i h1; simpa using h1
    obtain ⟨hs, hn⟩ := shorts_of hc
    have hl := told_le hG hs
    have e1 : nm (labs n) = n := hn.symm
    rw [e1] at hl
    have := (chk_pos hc).2
    exact ⟨by omega, fun _ => hl⟩
  · rw [if_neg h]
    exact ⟨by simp, fun h' => absurd h' h⟩

theorem pkE_chk {e : Nat} {a : Int} {n : List UInt8} (h : pkE e a n = 0) : chk n = 0 ∧ 0 ≤ a ∧ a ≤ 65535 ∧ (e : Int) ≤ a := by
  unfold pkE at h
  split at h
  · rename_i h1; exact absurd h h1
  · rename_i h1
    split at h
    · exact absurd h (by decide)
    · split at h
      · exact absurd h (by decide)
      · exact ⟨by simpa using h1, by omega, by omega, by omega⟩

theorem nameK_good {K : KK} {e : Nat} {a : Int} {n : List UInt8} (hG : GoodK K) : GoodK (nameK K e a n) ∧ (nameK K e a n).length ≤ K.length + 127 ∧ nameE K e a n ≤ max e 65790 := by
  unfold nameK nameE
  by_cases h : pkE e a n = 0
  · rw [if_pos h, if_pos h]
    obtain ⟨hc, h0, h1, h2⟩ := pkE_chk h
    obtain ⟨hs, hn⟩ := shorts_of hc
    have hh := hdn_le K (labs n)
    have hb := (nameB_len (e := e) (a := a) (n := n) hG).1
    unfold nameB at hb
    rw [if_pos h] at hb
    refine ⟨good_fr hG hs _ hh, ?_, by omega⟩
    rw [List.length_append]
    have h3 := fr_len (labs n) a.toNat (hdn K (labs n))
    have h4 := len_wire2 hs.1
    have h5 := hs.2
    omega
  · rw [if_neg h, if_neg h]
    exact ⟨hG, by omega, by omega⟩

theorem nil_made (w : World) : Calls Try.prog 43 #[.pointer none] w fun e w' => e = .returned (.bool false) ∧ w = w' := by
  go_enter Try.func43, Try.ntmps43
  go_wp2
  go_ret
  exact ⟨rfl, rfl⟩

theorem name_nil (a : Int) (s : ByteArray) (w : World) : Calls Try.prog 41 #[.pointer none, .int .i64 a, .string s] w fun e w' => e = .returned (.tuple #[.slice none 0 0, .int .i64 1]) ∧ w = w' := by
  have HM := Lib.hid (nil_made w)
  go_enter Try.func41, Try.ntmps41
  go_wp2_with fail
  refine HM.out.mono ?_; rintro e w1 ⟨rfl, rfl⟩
  go_wp2_with fail
  go_ret2
  exact ⟨rfl, rfl⟩

theorem pmade_nil (w : World) : Calls Try.prog 40 #[.pointer none] w fun e w' => e = .returned (.bool false) ∧ w = w' := by
  have HN := Lib.hid (name_nil 0 ⟨#[]⟩ w)
  go_enter Try.func40, Try.ntmps40
  go_wp2_with fail
  refine HN.out.mono ?_; rintro e w1 ⟨rfl, rfl⟩
  go_wp2_with fail
  go_ret
  exact ⟨rfl, rfl⟩

theorem write_nil (a t : Int) (s : ByteArray) (w : World) : Calls Try.prog 23 #[.pointer none, .int .i64 a, .int .i64 t, .string s] w fun e w' => e = .returned (.tuple #[.slice none 0 0, .int .i64 1]) ∧ w = w' := by
  have HM := Lib.hid (pmade_nil w)
  go_enter Try.func23, Try.ntmps23
  go_wp2_with fail
  refine HM.out.mono ?_; rintro e w1 ⟨rfl, rfl⟩
  go_wp2_with fail
  go_ret2
  exact ⟨rfl, rfl⟩

theorem chk_nil : chk [] = 4 := by unfold chk; rw [show left [] = [] from by rw [left]]; simp

theorem pmade_any {w : World} {p bm e : Nat} {K : KK} (h : Pk w p bm K e) (hG : GoodK K) (hK : K.length ≤ 900000) (he : e ≤ 1000000) : Calls Try.prog 40 #[.pointer (some ⟨p, 0, none⟩)] w fun x w' => x = .returned (.bool true) ∧ Pk w' p bm K e ∧ Aside (fun b => b = p ∨ b = bm) w w' := by
  have hE : pkE e 0 [] = 4 := by unfold pkE; rw [if_pos (by rw [chk_nil]; decide), chk_nil]
  have HN : Hid (Calls Try.prog 41 #[.pointer (some ⟨p, 0, none⟩), .int .i64 0, .string ⟨#[]⟩] w fun x w' => ∃ v, x = .returned (.tuple #[v, .int .i64 4]) ∧ Pk w' p bm K e ∧ Aside (fun b => b = p ∨ b = bm) w w') := by
    refine (show Calls Try.prog _ #[.pointer (some ⟨p, 0, none⟩), .int .i64 0, .string ⟨#[]⟩] w _ from name_any h hG hK he 0 [] (by simp)).mono ?_
    rintro x w' ⟨v, rfl, _, hp, ha⟩
    unfold nameK nameE at hp
    rw [hE, if_neg (by decide), if_neg (by decide)] at hp
    exact ⟨v, by rw [hE], hp, ha⟩
  clear h hE
  go_enter Try.func40, Try.ntmps40
  go_wp2_with fail
  refine HN.out.mono ?_; rintro e w1 ⟨v, rfl, hp, ha⟩
  have HP := Lib.hid (And.intro hp ha)
  clear hp ha
  go_wp2_with fail
  go_ret
  exact ⟨rfl, HP.out⟩
end Go.Proofs.Ytkiahaodajecfaa

/-
  Write.
-/
namespace Go.Proofs.Ytkiahaodajecfaa
open Go.RowKit Go.Shelf
set_option linter.unusedVariables false
set_option linter.unusedSimpArgs false
set_option maxRecDepth 100000

/-- Write's pieces, its row of bytes and its packer, round for round. -/
structure Wk (w wr : World) (p bm B0 : Nat) (vl vb : Value) (L : List Pc) (acc : List UInt8) (K : KK) (e : Nat) : Prop where
  rp : OwnP wr w.heap.size vl L
  lo : ∀ b, vl.ownBlock = some b → b < B0
  rb : OwnB wr B0 vb acc
  pk : Pk wr p bm K e
  has : Aside (fun b => b = p ∨ b = bm) w wr
  size : B0 ≤ wr.heap.size
  base : w.heap.size ≤ B0
  hp : p < w.heap.size
  hm : bm < w.heap.size

section
variable {w wr w' : World} {p bm B0 e : Nat} {vl vb : Value} {L : List Pc} {acc : List UInt8} {K : KK}
theorem Wk.later (h : Wk w wr p bm B0 vl vb L acc K e) (hb : Below wr.heap.size wr w') : Wk w w' p bm B0 vl vb L acc K e :=
  ⟨h.rp.below hb, h.lo, h.rb.below hb, h.pk.later hb, h.has.trans (Aside.of_all hb), Nat.le_trans h.size hb.size, h.base, h.hp, h.hm⟩
theorem Wk.name {K' : KK} {e' : Nat} (h : Wk w wr p bm B0 vl vb L acc K e) (ha : Aside (fun b => b = p ∨ b = bm) wr w') (hk : Pk w' p bm K' e') : Wk w w' p bm B0 vl vb L acc K' e' := by
  have h1 := h.hp
  have h2 := h.hm
  have h3 := h.base
  refine ⟨h.rp.aside ha fun b hb hg => ?_, h.lo, h.rb.aside ha fun b hb hg => ?_, hk, h.has.trans ha, Nat.le_trans h.size ha.size, h3, h1, h2⟩
  · have := (h.rp.lt b hb).1; omega
  · have := (h.rb.lt b hb).1; omega
theorem Wk.app (h : Wk w wr p bm B0 vl vb L acc K e) {xv : Value} {l' : List UInt8} {lo hi : Nat} (hx : Sl wr lo hi xv (iz l')) (hb : acc.length + l'.length ≤ 1000000) :
    ∃ a' c' w', (Builtin.append_ #[42, 42] 42 #[vb, xv]).run Try.prog wr = .ok (.slice a' (acc.length + l'.length) c') w' ∧ Wk w w' p bm B0 vl (.slice a' (acc.length + l'.length) c') L (acc ++ l') K e := by
  obtain ⟨a', c', w', h1, h2, ha⟩ := run_appBs B0 vb xv acc l' h.rb hx hb h.size
  have hlt := h.rb.lt
  have g1 := h.hp
  have g2 := h.hm
  have g3 := h.base
  refine ⟨a', c', w', h1, h.rp.aside ha fun b hb hg => by have := h.lo b hb; have := (hlt b hg).1; omega, h.lo, h2, h.pk.aside ha (fun hg => by have := (hlt p hg).1; omega) (fun hg => by have := (hlt bm hg).1; omega), ?_, Nat.le_trans h.size ha.size, g3, g1, g2⟩
  have ha2 : Aside (fun b => w.heap.size ≤ b) wr w' := ha.mono fun b _ hg => by have := (hlt b hg).1; omega
  exact ⟨ha2.os.trans h.has.os, ha2.tape.trans h.has.tape, ha2.output.trans h.has.output, Nat.le_trans h.has.size ha2.size, fun b hb hg => (ha2.block b (Nat.lt_of_lt_of_le hb h.has.size) (by omega)).trans (h.has.block b hb hg)⟩
end

def WrPost (w : World) (p bm : Nat) (R : WR) (x : Ending) (w' : World) : Prop :=
  ∃ v, x = .returned (.tuple #[v, .int .i64 R.code]) ∧ OwnB w' w.heap.size v R.out ∧ Pk w' p bm R.K R.e ∧ Aside (fun b => b = p ∨ b = bm) w w'

theorem fits_nam {ks : List PK} {L : List Pc} (h : Fits ks L) : ∀ x ∈ L, x.2 = true → chk x.1 = 0 := by
  induction h with
  | nil => simp
  | fix h h2 ih => intro x hx hf; rcases List.mem_cons.mp hx with rfl | hx; cases hf; exact ih x hx hf
  | nam h h2 ih => intro x hx hf; rcases List.mem_cons.mp hx with rfl | hx; exact h; exact ih x hx hf
  | txt h => intro x hx hf; obtain rfl := List.mem_singleton.mp hx; cases hf
  | rst => intro x hx hf; obtain rfl := List.mem_singleton.mp hx; cases hf

set_option maxHeartbeats 8000000 in
theorem write_any {w : World} {p bm e : Nat} {K : KK} (h : Pk w p bm K e) (hG : GoodK K) (hK : K.length ≤ 800000) (he : e ≤ 900000) (a t : Int) (d : List UInt8) (hd : d.length ≤ 1000000) :
    Calls Try.prog 23 #[.pointer (some ⟨p, 0, none⟩), .int .i64 a, .int .i64 t, .string (bs d)] w (WrPost w p bm (wrR a t d K e)) := by
  have HM := Lib.hid (pmade_any h hG (by omega) (by omega))
  have hpl := h.lt
  have hml := h.map.lt
  rcases hR : spl t d with L | ⟨c, aa⟩
  · have eR : wrR a t d K e = wrL a L K e [] := by unfold wrR; rw [hR]
    rw [eR]
    have HS := Lib.hid (fun wx => split_ok hR hd wx)
    obtain ⟨_, _, hd6, hf, hj⟩ := spl_ok hR
    have hfl := fits_len hf
    have hk3 := (kinds_small t).1
    have HP := Lib.hid (fun k (h : k < L.length) => show L[k].1.length ≤ 65535 from by
      have h1 := joined_take h
      have h2 := joined_part L (k + 1)
      rw [h1, List.length_append, hj] at h2
      omega)
    have HNM := Lib.hid (fun k (h : k < L.length) (h2 : L[k].2 = true) => fits_nam hf L[k] (List.getElem_mem h) h2)
    obtain ⟨X, hX⟩ : ∃ X, wrL a L K e [] = X := ⟨_, rfl⟩
    rw [hX]
    have HX := Lib.hid hX
    obtain ⟨n, hn⟩ : ∃ n, L.length = n := ⟨_, rfl⟩
    have HN := Lib.hid hn
    have hn3 : n ≤ 3 := by omega
    clear hR eR hf hj hfl hk3 hd6 hn hX h
    go_enter Try.func23, Try.ntmps23
    go_wp2_with fail
    refine HM.out.mono ?_; rintro e0 w1 ⟨rfl, hpk1, ha1⟩
    have HP1 := Lib.hid (And.intro hpk1 ha1)
    clear hpk1 ha1
    go_wp2_with fail
    refine (HS.out w1).mono ?_; rintro e0 w2 ⟨vl, rfl, hown, hb2⟩
    have HWk : Hid (Wk w w2 p bm w2.heap.size vl (.slice none 0 0) L [] K e) := ⟨hown.mono HP1.out.2.size, fun b hb => (hown.lt b hb).2, OwnB.nil _ _, HP1.out.1.later hb2, HP1.out.2.trans (Aside.of_all hb2), Nat.le_refl _, Nat.le_trans HP1.out.2.size hb2.size, hpl, hml⟩
    obtain ⟨al, cl, rfl⟩ := hown.shape
    rw [HN.out] at HWk ⊢
    obtain ⟨B0, hB0⟩ : ∃ B0, w2.heap.size = B0 := ⟨_, rfl⟩
    rw [hB0] at HWk
    clear hown hb2 hB0 HP1 HM
    go_wp2_with fail
    go_loopg [12, 30] n (fun g v12 v30 wr => ∃ (k z : Nat) (acc : List UInt8) (K' : KK) (e' : Nat) (ab : Option Addr) (cb : Nat), k + g = n ∧ v30 = .int .i64 k ∧ v12 = .slice ab z cb ∧ acc.length = z ∧ z ≤ 65535 * k ∧ K'.length ≤ K.length + 127 * k ∧ e' ≤ 1000000 ∧ Hid (Wk w wr p bm B0 (.slice al n cl) (.slice ab z cb) L acc K' e') ∧ Hid (GoodK K') ∧ Hid (wrL a (L.drop k) K' e' acc = X))
    case atStart => exact ⟨0, 0, [], K, e, none, 0, by omega, rfl, rfl, rfl, by omega, by omega, by omega, HWk, hG, HX⟩
    case round =>
      obtain ⟨k, z, acc, K', e', ab, cb, hk, rfl, rfl, hz, hzl, hKl, hel, HW, HGk, HXk⟩ := hrel
      clear HWk
      by_cases hlt0 : k < n
      · have hlt : k < L.length := by have := HN.out; omega
        obtain ⟨g0, c0, he0, hc0, hc1⟩ := OwnP.at_ HW.out.rp k hlt
        injection he0 with he1 he2 he3
        subst he1
        subst he3
        have hxl := HP.out k hlt
        have hst := HXk.out
        rw [List.drop_eq_getElem_cons hlt, wrL] at hst
        obtain ⟨x, hx⟩ : ∃ x, L[k].1 = x := ⟨_, rfl⟩
        obtain ⟨f, hf⟩ : ∃ f, L[k].2 = f := ⟨_, rfl⟩
        rw [hx] at hc0 hxl hst
        rw [hf] at hc1 hst
        rw [hz] at hst
        have hal : Below wr.heap.size wr (wr.alloc (.cells #[.string (bs x), .bool f] 63)) := (Below.refl _ _).alloc (Nat.le_refl _) _
        obtain ⟨cap, W, hcv, ho, hbW, hltW⟩ := conv_B (wr.alloc (.cells #[.string (bs x), .bool f] 63)) x (by omega)
        have hsz : (wr.alloc (.cells #[.string (bs x), .bool f] 63)).heap.size = wr.heap.size + 1 := World.size_alloc _ _
        rw [hsz] at hcv ho hbW hltW
        have d0 : W.cell? ⟨wr.heap.size, 0, none⟩ = some (.string (bs x)) := (hbW.cell (p := ⟨wr.heap.size, 0, none⟩) (Nat.lt_succ_self _)).trans (by simp [go_sem])
        have d1 : W.cell? ⟨wr.heap.size, 1, none⟩ = some (.bool f) := (hbW.cell (p := ⟨wr.heap.size, 1, none⟩) (Nat.lt_succ_self _)).trans (by simp [go_sem])
        have HWW := Lib.hid ((HW.out.later hal).later (by rw [hsz]; exact hbW))
        have HO := Lib.hid ho
        have hnm := fun h => HNM.out k hlt h
        rw [hf, hx] at hnm
        clear hx hf hal ho hbW hltW he2 hsz
        cases f with
        | false =>
          rw [if_neg (by simp)] at hst
          have HST := Lib.hid hst
          obtain ⟨l2, hl2⟩ : ∃ l2, x.length = l2 := ⟨_, rfl⟩
          obtain ⟨a3, c3, w3, hr3, hk3⟩ := HWW.out.app HO.out.sl (by omega)
          rw [hz, hl2] at hr3 hk3
          have HR3 := Lib.hid hr3
          have HK3 := Lib.hid hk3
          have hzl2 : z + l2 ≤ 65535 * (k + 1) := by omega
          have hlen : (acc ++ x).length = z + l2 := by rw [List.length_append, hz, hl2]
          rw [hl2] at hcv
          clear hr3 hk3 hst hl2 HO
          go_wp2_with (at_builtin; refine wpList_append_run (.tmp 53) (.tmp 54) 42 42 rfl rfl rfl rfl HR3.out ?_)
          go_roundg (n - (k + 1))
          case measure => omega
          case rel => exact ⟨k + 1, z + l2, acc ++ x, K', e', a3, c3, by omega, by go_num, by simp, hlen, hzl2, by omega, hel, HK3, HGk, HST⟩
        | true =>
          rw [if_pos rfl] at hst
          have hx255 := (chk_pos (hnm rfl)).2
          have hnb := nameB_len (e := e') (a := wrap64 (a + z)) (n := x) HGk.out
          have hnk := nameK_good (e := e') (a := wrap64 (a + z)) (n := x) HGk.out
          have HNm0 := name_any HWW.out.pk HGk.out (by omega) (by omega) (wrap64 (a + z)) x (by omega)
          obtain ⟨q, hq⟩ : ∃ q, wrap64 (a + z) = q := ⟨_, rfl⟩
          rw [hq] at hst hnb hnk HNm0
          by_cases hE : pkE e' q x = 0
          · rw [if_neg (by simpa using hE)] at hst
            have HST := Lib.hid hst
            obtain ⟨T, hT⟩ : ∃ T, nameB K' e' q x = T := ⟨_, rfl⟩
            obtain ⟨K2, hK2⟩ : ∃ K2, nameK K' e' q x = K2 := ⟨_, rfl⟩
            obtain ⟨e2, he2⟩ : ∃ e2, nameE K' e' q x = e2 := ⟨_, rfl⟩
            rw [hT, hK2, he2] at HST
            have HNm : Hid (Calls Try.prog 41 #[.pointer (some ⟨p, 0, none⟩), .int .i64 q, .string (bs x)] W fun y w' => ∃ v, y = .returned (.tuple #[v, .int .i64 0]) ∧ OwnB w' W.heap.size v T ∧ Pk w' p bm K2 e2 ∧ Aside (fun b => b = p ∨ b = bm) W w') := by
              refine HNm0.mono ?_
              rintro y w' ⟨v, rfl, g1, g2, g3⟩
              rw [hE]
              rw [hT] at g1
              rw [hK2, he2] at g2
              exact ⟨v, rfl, g1, g2, g3⟩
            rw [hT] at hnb
            rw [hK2, he2] at hnk
            clear hst HNm0 hT hK2 he2 hE hnm
            go_wp2_with fail
            rw [hq]
            refine HNm.out.mono ?_; rintro e0 w3 ⟨v3, rfl, ho3, hpk3, ha3⟩
            have HK3 := HWW.out.name ha3 hpk3
            obtain ⟨l2, hl2⟩ : ∃ l2, T.length = l2 := ⟨_, rfl⟩
            obtain ⟨a4, c4, w4, hr4, hk4⟩ := HK3.app ho3.sl (by omega)
            obtain ⟨a5, c5, rfl⟩ := ho3.shape
            rw [hz, hl2] at hr4 hk4
            rw [hl2] at hnb ⊢
            have HR4 := Lib.hid hr4
            have HK4 := Lib.hid hk4
            have hzl2 : z + l2 ≤ 65535 * (k + 1) := by omega
            have hlen : (acc ++ T).length = z + l2 := by rw [List.length_append, hz, hl2]
            have hG2 := Lib.hid hnk.1
            clear hr4 hk4 hl2 HO ho3 hpk3 ha3 HK3 hq
            go_wp2_with (at_builtin; refine wpList_append_run (.tmp 53) (.tmp 54) 42 42 rfl rfl rfl rfl HR4.out ?_)
            go_roundg (n - (k + 1))
            case measure => omega
            case rel => exact ⟨k + 1, z + l2, acc ++ T, K2, e2, a4, c4, by omega, by go_num, by simp, hlen, hzl2, by omega, by omega, HK4, hG2, HST⟩
          · rw [if_pos (by simpa using hE)] at hst
            have HST := Lib.hid hst
            have hnk0 : nameK K' e' q x = K' ∧ nameE K' e' q x = e' := by unfold nameK nameE; rw [if_neg hE, if_neg hE]; exact ⟨rfl, rfl⟩
            obtain ⟨cc, hcc⟩ : ∃ cc, pkE e' q x = cc := ⟨_, rfl⟩
            rw [hcc] at HST hE
            have HNm : Hid (Calls Try.prog 41 #[.pointer (some ⟨p, 0, none⟩), .int .i64 q, .string (bs x)] W fun y w' => ∃ v, y = .returned (.tuple #[v, .int .i64 cc]) ∧ Pk w' p bm K' e' ∧ Aside (fun b => b = p ∨ b = bm) W w') := by
              refine HNm0.mono ?_
              rintro y w' ⟨v, rfl, _, g2, g3⟩
              rw [hcc]
              rw [hnk0.1, hnk0.2] at g2
              exact ⟨v, rfl, g2, g3⟩
            have tc : (cc != 0) = true := by simpa using hE
            clear hst HNm0 hcc hE hnm hnk0 hnk hnb
            go_wp2_with fail
            rw [hq]
            refine HNm.out.mono ?_; rintro e0 w3 ⟨v3, rfl, hpk3, ha3⟩
            have HK3 := Lib.hid (HWW.out.name ha3 hpk3)
            clear hpk3 ha3 hq
            go_wp2_with fail
            go_ret2
            rw [← HST.out]
            exact ⟨_, rfl, OwnB.nil _ _, HK3.out.pk, HK3.out.has⟩
      · have hXe : wrL a [] K' e' acc = X := by have h := HXk.out; rw [List.drop_eq_nil_of_le (by have := HN.out; omega)] at h; exact h
        have HXe := Lib.hid hXe
        clear hXe
        go_wp2_with fail
        go_ret2
        rw [← HXe.out]
        have hh := HW.out
        exact ⟨_, rfl, hh.rb.mono hh.base, hh.pk, hh.has⟩
  · have eR : wrR a t d K e = ⟨[], c, K, e⟩ := by unfold wrR; rw [hR]
    rw [eR]
    have HS := Lib.hid (fun wx => split_bad hR hd wx)
    have tc : (c != 0) = true := by simpa using code_bad hR
    clear hR eR h
    go_enter Try.func23, Try.ntmps23
    go_wp2_with fail
    refine HM.out.mono ?_; rintro e0 w1 ⟨rfl, hpk1, ha1⟩
    have HP1 := Lib.hid (And.intro hpk1 ha1)
    clear hpk1 ha1
    go_wp2_with fail
    refine (HS.out w1).mono ?_; rintro e0 w2 ⟨vl, rfl, hb2⟩
    have HP2 := Lib.hid (And.intro (HP1.out.1.later hb2) (HP1.out.2.trans (Aside.of_all hb2)))
    clear hb2
    go_wp2_with fail
    go_ret2
    exact ⟨_, rfl, OwnB.nil _ _, HP2.out⟩
end Go.Proofs.Ytkiahaodajecfaa

/-
  Acts that came in: types, places, whether these are places as they are, data.
-/
namespace Go.Proofs.Ytkiahaodajecfaa
open Go.RowKit Go.Shelf
set_option linter.unusedVariables false
set_option maxRecDepth 100000

/-- A type, a number, whether it is a place as it is, data. -/
structure AQ where
  t : Int
  a : Int
  r : Bool
  d : List UInt8

/-- The cells of an act. -/
def AtQ (w : World) (b o : Nat) (x : AQ) : Prop :=
  w.cell? ⟨b, o, none⟩ = some (.int .i64 x.t) ∧ w.cell? ⟨b, o + 1, none⟩ = some (.int .i64 x.a) ∧ w.cell? ⟨b, o + 2, none⟩ = some (.bool x.r) ∧ w.cell? ⟨b, o + 3, none⟩ = some (.string (bs x.d))

/-- The slice v reads as these acts; what it leads to lies in blocks below hi. -/
def Aq (w : World) (hi : Nat) (v : Value) (l : List AQ) : Prop :=
  ∃ a c, v = .slice a l.length c ∧ (0 < l.length → ∃ b off, a = some ⟨b, off, none⟩ ∧ b < hi ∧ ∀ j (h : j < l.length), AtQ w b (off + j * 4) l[j] ∧ (Lit.int .i64 l[j].t).wf = true ∧ (Lit.int .i64 l[j].a).wf = true)

theorem AtQ.keep {w w' : World} {b o : Nat} {x : AQ} (h : AtQ w b o x) (hk : ∀ o, w'.cell? ⟨b, o, none⟩ = w.cell? ⟨b, o, none⟩) : AtQ w' b o x :=
  ⟨(hk _).trans h.1, (hk _).trans h.2.1, (hk _).trans h.2.2.1, (hk _).trans h.2.2.2⟩

theorem Aq.below {w w' : World} {hi B : Nat} {v : Value} {l : List AQ} (h : Aq w hi v l) (hb : Below B w w') (hB : hi ≤ B) : Aq w' hi v l := by
  obtain ⟨a, c, rfl, hx⟩ := h
  refine ⟨a, c, rfl, fun h0 => ?_⟩
  obtain ⟨b, off, rfl, h1, h2⟩ := hx h0
  refine ⟨b, off, rfl, h1, fun j hj => ?_⟩
  obtain ⟨c0, c1⟩ := h2 j hj
  exact ⟨c0.keep fun o => hb.cell (p := ⟨b, o, none⟩) (Nat.lt_of_lt_of_le h1 hB), c1⟩

/-- Are there too many, or is one of the first ones too long? -/
def longQ (l : List AQ) : Bool := (l.take 41).any (fun x => decide (3000 < x.d.length)) || decide (40 < l.length)

set_option maxHeartbeats 1000000 in
theorem longQ_any {w : World} {hi : Nat} {v : Value} {l : List AQ} (h : Aq w hi v l) : Calls Try.prog 21 #[v] w fun e w' => e = .returned (.bool (longQ l)) ∧ w = w' := by
  obtain ⟨a, c, rfl, hx⟩ := h
  obtain ⟨r, hr⟩ : ∃ r, longQ l = r := ⟨_, rfl⟩
  rw [hr]
  have HR := Lib.hid hr
  have HX := Lib.hid hx
  clear hr hx
  go_enter Try.func21, Try.ntmps21
  go_wp2
  go_loopg [3] 42 (fun g v3 wr => ∃ k : Nat, k + g = 42 ∧ v3 = .int .i64 k ∧ k ≤ l.length ∧ k ≤ 41 ∧ Hid ((l.take k).any (fun x => decide (3000 < x.d.length)) = false) ∧ w = wr)
  case atStart => exact ⟨0, by omega, rfl, Nat.zero_le _, by omega, by simp [Hid], rfl⟩
  case round =>
    obtain ⟨k, hk, rfl, hkl, hk41, HA, rfl⟩ := hrel
    by_cases h1 : k < l.length
    · by_cases h2 : k < 41
      · obtain ⟨b, off, rfl, _, hcc⟩ := HX.out (by omega)
        obtain ⟨⟨_, _, _, c3⟩, _⟩ := hcc k h1
        have hany := HA.out
        have htk : l.take (k + 1) = l.take k ++ [l[k]] := by rw [List.take_add_one, List.getElem?_eq_getElem h1]; rfl
        by_cases h4 : 3000 < l[k].d.length
        · have HE := Lib.hid (show r = true by
            rw [← HR.out]
            unfold longQ
            rw [Bool.or_eq_true]
            refine .inl (List.any_eq_true.mpr ⟨l[k], ?_, by simpa using h4⟩)
            exact List.mem_take_iff_getElem.mpr ⟨k, by omega, rfl⟩)
          obtain ⟨n, hn⟩ : ∃ n, l[k].d = n := ⟨_, rfl⟩
          rw [hn] at c3 h4
          have hns : (bs n).size = n.length := bs_size n
          clear hany htk hcc hn HA
          go_wp2_with fail
          go_ret
          exact ⟨by rw [HE.out]; rfl, rfl⟩
        · have HA2 := Lib.hid (show (l.take (k + 1)).any (fun x => decide (3000 < x.d.length)) = false by rw [htk, List.any_append, hany]; simpa using h4)
          obtain ⟨n, hn⟩ : ∃ n, l[k].d = n := ⟨_, rfl⟩
          rw [hn] at c3 h4
          have hns : (bs n).size = n.length := bs_size n
          clear hany htk hcc hn HA
          go_wp2_with fail
          go_roundg (42 - (k + 1))
          case measure => omega
          case rel => exact ⟨k + 1, by omega, by go_num, by omega, by omega, HA2, rfl⟩
      · have hk : k = 41 := by omega
        subst hk
        have t40 : 40 < l.length := by omega
        have HE := Lib.hid (show r = true by rw [← HR.out]; unfold longQ; rw [decide_eq_true t40, Bool.or_true])
        clear HA
        go_wp2_with fail
        go_ret
        exact ⟨by rw [HE.out]; simp; omega, rfl⟩
    · have hke : k = l.length := by omega
      have HE := Lib.hid (show r = decide (40 < l.length) by
        rw [← HR.out]
        unfold longQ
        rw [List.take_of_length_le (by omega)]
        have := HA.out
        rw [List.take_of_length_le (by omega)] at this
        rw [this, Bool.false_or])
      clear HA
      have t1 : ¬ ((k : Int) < l.length) := by omega
      go_wp2_with fail
      go_ret
      exact ⟨by rw [HE.out]; simp; omega, rfl⟩

theorem longQ_no {l : List AQ} (h : longQ l = false) : l.length ≤ 40 ∧ ∀ k (hk : k < l.length), l[k].d.length ≤ 3000 := by
  unfold longQ at h
  rw [Bool.or_eq_false_iff] at h
  obtain ⟨h1, h2⟩ := h
  have h3 : l.length ≤ 40 := by simpa using h2
  rw [List.take_of_length_le (by omega)] at h1
  exact ⟨h3, fun k hk => by
    have := List.any_eq_false.mp h1 l[k] (List.getElem_mem hk)
    simpa using this⟩

/-- What is known of a slice of acts that came in. -/
def IsActs (w : World) (a : Option Addr) (len cap : Nat) : Prop :=
  (a = none ∧ len = 0 ∧ cap = 0) ∨ ∃ x, a = some x ∧ ∀ i, i < len → ∃ (t n : Int) (r : Bool) (s : ByteArray), w.cell? (x.add (i * 4)) = some (.int .i64 t) ∧ w.cell? (x.add (i * 4 + 1)) = some (.int .i64 n) ∧ w.cell? (x.add (i * 4 + 2)) = some (.bool r) ∧ w.cell? (x.add (i * 4 + 3)) = some (.string s) ∧ (Lit.int .i64 t).wf = true ∧ (Lit.int .i64 n).wf = true

theorem cells_act : Try.prog.cellsOf 40 = 4 := by kernel_rfl
theorem cells_str : Try.prog.cellsOf 9 = 1 := by kernel_rfl
theorem cells_int : Try.prog.cellsOf 3 = 1 := by kernel_rfl
theorem cells_bool : Try.prog.cellsOf 4 = 1 := by kernel_rfl

theorem open_acts {H : Type} {enc : TypeId × Value → H} {w : World} {base fuel : Nat} {spare : Nat → Bool} {held : Bool} {a : Option Addr} {len cap : Nat} {x : DataW H × List MemPlace}
    (h : DataW.trod enc Try.prog w base spare held fuel 31 (Value.slice a len cap).cells.toList = some x) : IsActs w a len cap := by
  have hcs : (Value.slice a len cap).cells.toList = [.slice a len cap] := by simp [Value.cells]
  rw [hcs] at h
  rcases Deep.open_slice Try.underlying31 h with ⟨h1, _⟩ | ⟨b, l, c, m, n, D, Pl, h1, _, h2, _, h3, _, h4⟩
  · injection h1 with h1 _
    injection h1 with e1 e2 e3
    exact .inl ⟨e1, e2, e3⟩
  · injection h1 with h1 _
    injection h1 with e1 e2 e3
    subst e1; subst e2; subst e3
    refine .inr ⟨b, rfl, fun i hi => ?_⟩
    have hm : len ≤ m := by rw [h3]; split <;> omega
    obtain ⟨cs, h5, h6⟩ := h4 i (by omega)
    rw [cells_act] at h5
    obtain ⟨_, h7, h8⟩ := World.cells?_some h5
    obtain ⟨xs, k, _, _, _, h9, h10⟩ := DataW.trod_struct Try.underlying40 h6
    match cs, h7 with
    | [v0, v1, v2, v3], _ =>
      have c0 := h8 0 (by omega)
      have c1 := h8 1 (by omega)
      have c2 := h8 2 (by omega)
      have c3 := h8 3 (by omega)
      have g0 := h10 0 _ rfl
      have g1 := h10 1 _ rfl
      have g2 := h10 2 _ rfl
      have g3 := h10 3 _ rfl
      match xs, h9 with
      | [y0, y1, y2, y3], _ =>
        simp [cells_str, cells_int, cells_bool] at g0 g1 g2 g3
        obtain ⟨t, k0, _, hw0⟩ := DataW.trod_int Try.underlying3 g0
        obtain ⟨q, k1, _, hw⟩ := DataW.trod_int Try.underlying3 g1
        obtain ⟨r, k2, _⟩ := DataW.trod_bool Try.underlying4 g2
        obtain ⟨s, k3, _, _⟩ := DataW.trod_string Try.underlying9 g3
        injection k0 with k0 _
        injection k1 with k1 _
        injection k2 with k2 _
        injection k3 with k3 _
        subst k0; subst k1; subst k2; subst k3
        rw [Deep.add_add] at c0 c1 c2 c3
        exact ⟨t, q, r, s, by simpa using c0, by simpa using c1, by simpa using c2, by simpa using c3, hw0, hw⟩

/-- Such a slice as acts. -/
theorem acts_of {w : World} {a : Option Addr} {len cap : Nat} (h : IsActs w a len cap) : ∃ l : List AQ, len = l.length ∧ Aq w w.heap.size (.slice a len cap) l := by
  rcases h with ⟨rfl, rfl, rfl⟩ | ⟨x, rfl, hx⟩
  · exact ⟨[], rfl, none, 0, rfl, fun h => by simp at h⟩
  · have hch : ∀ n, n ≤ len → ∃ l : List AQ, l.length = n ∧ ∀ i (h : i < l.length), w.cell? (x.add (i * 4)) = some (.int .i64 l[i].t) ∧ w.cell? (x.add (i * 4 + 1)) = some (.int .i64 l[i].a) ∧ w.cell? (x.add (i * 4 + 2)) = some (.bool l[i].r) ∧ w.cell? (x.add (i * 4 + 3)) = some (.string (bs l[i].d)) ∧ (Lit.int .i64 l[i].t).wf = true ∧ (Lit.int .i64 l[i].a).wf = true := by
      intro n
      induction n with
      | zero => intro _; exact ⟨[], rfl, fun i h => by simp at h⟩
      | succ n ih =>
        intro hn
        obtain ⟨l, h1, h2⟩ := ih (by omega)
        obtain ⟨t, q, r, s, c0, c1, c2, c3, w0, w1⟩ := hx n (by omega)
        refine ⟨l ++ [⟨t, q, r, s.data.toList⟩], by simp [h1], fun i hi => ?_⟩
        rw [List.length_append, List.length_singleton] at hi
        by_cases e : i < l.length
        · rw [List.getElem_append_left e]; exact h2 i e
        · have : i = l.length := by omega
          subst this
          rw [List.getElem_append_right (Nat.le_refl _)]
          simp only [Nat.sub_self, List.getElem_cons_zero]
          rw [h1, ← bs_eta]
          exact ⟨c0, c1, c2, c3, w0, w1⟩
    obtain ⟨l, h1, h2⟩ := hch len (Nat.le_refl _)
    refine ⟨l, h1.symm, some x, cap, by rw [h1], fun h0 => ?_⟩
    obtain ⟨b, off, spot⟩ := x
    have c0 := (h2 0 h0).1
    have hspot : spot = none := by simpa [Addr.add] using World.cell?_spot c0
    subst hspot
    have hlt : b < w.heap.size := by
      rw [WideShapes.add_plain] at c0
      exact World.block_lt_of_cell? w _ c0
    refine ⟨b, off, rfl, hlt, fun j hj => ?_⟩
    obtain ⟨c0, c1, c2, c3, w0, w1⟩ := h2 j hj
    rw [WideShapes.add_plain] at c0 c1 c2 c3
    exact ⟨⟨c0, by rw [Nat.add_assoc]; exact c1, by rw [Nat.add_assoc]; exact c2, by rw [Nat.add_assoc]; exact c3⟩, w0, w1⟩
end Go.Proofs.Ytkiahaodajecfaa

/-
  What is written is read as it was; plainly.
-/
namespace Go.Proofs.Ytkiahaodajecfaa
open Go.RowKit Go.Shelf
set_option linter.unusedVariables false
set_option maxRecDepth 100000

theorem toldE_rd {b : List UInt8} {K : KK} {e : Nat} {P : KK} (h : Inv b K e P) {ls : List (List UInt8)} (hs : Shorts ls) :
    ∀ d k, k + d = hdn K ls → ∀ part, b.length ≤ part → StandE (b ++ told K ls) part (b.length + pos ls k) (ls.drop k) (b.length + (told K ls).length) := by
  have hll := hdn_le K ls
  intro d
  induction d with
  | zero =>
    intro k hk part hp
    have hkh : k = hdn K ls := by omega
    subst hkh
    rcases Nat.lt_or_ge (hdn K ls) ls.length with hlt | hge
    · obtain ⟨x, hx⟩ := hdn_stop hlt
      have hx2 := good_lt h.good hx
      have hxe := h.ahead _ (plc_mem hx)
      obtain ⟨p1, p2⟩ := ptr_pb hx2
      have htd : told K ls = wire (ls.take (hdn K ls)) ++ [UInt8.ofNat (192 + x / 256), UInt8.ofNat (x % 256)] := by unfold told restb; rw [hx]; rfl
      have hpl : pos ls (hdn K ls) = (wire (ls.take (hdn K ls))).length := rfl
      have g0 : (b ++ told K ls)[b.length + pos ls (hdn K ls)]? = some (UInt8.ofNat (192 + x / 256)) := by
        rw [htd, List.getElem?_append_right (by omega), Nat.add_sub_cancel_left, hpl, List.getElem?_append_right (Nat.le_refl _), Nat.sub_self]; rfl
      have g1 : (b ++ told K ls)[b.length + pos ls (hdn K ls) + 1]? = some (UInt8.ofNat (x % 256)) := by
        rw [htd, List.getElem?_append_right (by omega), show b.length + pos ls (hdn K ls) + 1 - b.length = pos ls (hdn K ls) + 1 by omega, hpl, List.getElem?_append_right (by omega), show (wire (ls.take (hdn K ls))).length + 1 - (wire (ls.take (hdn K ls))).length = 1 by omega]; rfl
      obtain ⟨i0, g0⟩ := List.getElem?_eq_some_iff.mp g0
      obtain ⟨i1, g1⟩ := List.getElem?_eq_some_iff.mp g1
      have hen : b.length + (told K ls).length = b.length + pos ls (hdn K ls) + 2 := by rw [htd, List.length_append, hpl]; simp; omega
      rw [hen]
      exact .lead (to := x) i1 (by rw [g0]; exact p2) (by rw [g0, g1]; exact p1) (by have := h.last; have : x < e := hxe; omega) ((h.tails _ x (shorts_drop hs _) (plc_mem hx)).more _)
    · have hke : hdn K ls = ls.length := by omega
      have htd : told K ls = wire ls ++ [0] := by
        unfold told restb
        rw [hke, List.take_length, List.drop_length]
        show wire ls ++ (match plc K [0] with | some x => pb x | none => [0]) = _
        rw [good_root h.good]
      rw [hke, List.drop_length]
      have hpl : pos ls ls.length = (wire ls).length := by unfold pos; rw [List.take_length]
      have g0 : (b ++ told K ls)[b.length + pos ls ls.length]? = some 0 := by
        rw [htd, List.getElem?_append_right (by omega), Nat.add_sub_cancel_left, hpl, List.getElem?_append_right (Nat.le_refl _), Nat.sub_self]; rfl
      obtain ⟨i0, g0⟩ := List.getElem?_eq_some_iff.mp g0
      have hen : b.length + (told K ls).length = b.length + pos ls ls.length + 1 := by rw [htd, List.length_append, hpl]; simp; omega
      rw [hen]
      exact .zero i0 (by rw [g0]; rfl)
  | succ d ih =>
    intro k hk part hp
    have hkl : k < ls.length := by omega
    have e : ls.drop k = ls[k] :: ls.drop (k + 1) := List.drop_eq_getElem_cons hkl
    have h63 := hs.1 ls[k] (List.getElem_mem hkl)
    rw [e]
    have hcut : ((b ++ told K ls).drop (b.length + pos ls k)).take (1 + ls[k].length) = wire [ls[k]] := by
      have h1 : ls.take (hdn K ls) = ls.take k ++ (ls[k] :: (ls.drop (k + 1)).take d) := by
        rw [← hk, List.take_add, e, List.take_succ_cons]
      unfold told
      rw [h1, wire_app, List.append_assoc]
      rw [show b.length + pos ls k = b.length + (wire (ls.take k)).length from rfl, List.drop_append, List.drop_eq_nil_of_le (by omega), List.nil_append, Nat.add_sub_cancel_left, List.drop_left]
      rw [show ls[k] :: (ls.drop (k + 1)).take d = [ls[k]] ++ (ls.drop (k + 1)).take d from rfl, wire_app, List.append_assoc]
      rw [List.take_left' (by simp [wire]; omega)]
    have hpe : b.length + pos ls k + (1 + ls[k].length) = b.length + pos ls (k + 1) := by rw [pos_succ hkl]; omega
    refine .label h63.1 h63.2 ?_ hcut (by rw [hpe]; exact ih (k + 1) (by omega) part hp)
    have := congrArg List.length hcut
    rw [List.length_take, List.length_drop, List.length_append] at this
    rw [List.length_append]
    simp only [wire, List.length_append, List.length_cons, List.length_nil] at this
    omega

/-- From p up to q these pieces stand. -/
inductive Lies (b : List UInt8) : Nat → List Pc → Nat → Prop
  | nil {p : Nat} (h : p ≤ b.length) : Lies b p [] p
  | byt {p q : Nat} {x : List UInt8} {L : List Pc} (h : (b.drop p).take x.length = x) (h2 : p + x.length ≤ b.length) (r : Lies b (p + x.length) L q) : Lies b p ((x, false) :: L) q
  | nam {p q en : Nat} {ls : List (List UInt8)} {L : List Pc} (hs : Shorts ls) (h : StandE b p p ls en) (r : Lies b en L q) : Lies b p ((nm ls, true) :: L) q

theorem Lies.more {b : List UInt8} {p q : Nat} {L : List Pc} (h : Lies b p L q) (c : List UInt8) : Lies (b ++ c) p L q := by
  induction h with
  | nil h => exact .nil (by rw [List.length_append]; omega)
  | byt h h2 _ ih =>
    refine .byt ?_ (by rw [List.length_append]; omega) ih
    rw [List.drop_append_of_le_length (by omega), List.take_append_of_le_length (by rw [List.length_drop]; omega)]
    exact h
  | nam hs h _ ih => exact .nam hs (h.more c) ih

theorem Lies.le {b : List UInt8} {p q : Nat} {L : List Pc} (h : Lies b p L q) : p ≤ q ∧ q ≤ b.length := by
  induction h with
  | nil h => exact ⟨Nat.le_refl _, h⟩
  | byt h h2 _ ih => omega
  | nam hs h _ ih => have := h.lt; omega

/-- What stands is read. -/
theorem lies_go {b : List UInt8} {s : Nat} : ∀ (L : List Pc) (ks : List PK) (p q : Nat) (acc : List Pc), Lies b p L q → Fits ks L → goP (fun p => rda b p) b s q ks p acc = .ok (acc ++ L)
  | [], ks, p, q, acc, h, hf => by
    cases hf
    cases h
    rw [goP, if_neg (by omega), List.append_nil]
  | x :: L, ks, p, q, acc, h, hf => by
    have hle := h.le
    cases hf with
    | @fix n y ks' L' hn h2 =>
      cases h with
      | byt h3 h4 r =>
        have hr := r.le
        have e : stepP (fun p => rda b p) b s q p (.fix n) = .ok (y, false) (p + y.length) := by
          simp only [stepP, cutP]
          rw [← hn, if_neg (by omega), Nat.add_sub_cancel_left, h3]
        rw [goP, e]
        simp only
        rw [lies_go L ks' _ q _ r h2, List.append_assoc]
        rfl
    | @nam y ks' L' hn h2 =>
      cases h with
      | @nam _ _ en ls _ hs h3 r =>
        have hr := r.le
        have hl := h3.lt
        have e : stepP (fun p => rda b p) b s q p .nam = .ok (nm ls, true) en := by
          simp only [stepP]
          rw [rdaE h3 hs, if_neg (by omega), if_neg (by simp), if_neg (show ¬ q < en by omega)]
        rw [goP, e]
        simp only
        rw [lies_go L ks' _ q _ r h2, List.append_assoc]
        rfl
    | @txt y hn =>
      cases h with
      | byt h3 h4 r =>
        cases r with
        | nil h5 =>
          have e := tx_step (fun p => rda b p) b s p (p + y.length) (by omega) (by omega)
          rw [Nat.add_sub_cancel_left, h3, if_pos hn] at e
          rw [goP, e]
          simp only
          rw [goP, if_neg (by omega)]
    | @rst y =>
      cases h with
      | byt h3 h4 r =>
        cases r with
        | nil h5 =>
          have e : stepP (fun p => rda b p) b s (p + y.length) p .rst = .ok (y, false) (p + y.length) := by
            simp only [stepP, cutP]
            rw [if_neg (by omega), Nat.add_sub_cancel_left, h3]
          rw [goP, e]
          simp only
          rw [goP, if_neg (by omega)]

/-- Data that stand are read as they were. -/
theorem lies_rdR {b : List UInt8} {t : Int} {d : List UInt8} {L : List Pc} {a m : Nat} (hs : spl t d = .ok L) (h : Lies b a L (a + m)) (hm : m ≤ 65535) : rdR b a m t = .ok L ∧ joined L = d := by
  obtain ⟨h0, h1, _, hf, hj⟩ := spl_ok hs
  have hle := h.le
  refine ⟨?_, hj⟩
  unfold rdR
  rw [if_neg (by omega), if_neg (by omega), if_neg (by omega), Int.toNat_natCast, Int.toNat_natCast, lies_go L (kinds t) a (a + m) [] h hf, List.nil_append]

/-- What is written stands. -/
theorem wr_back (a : Nat) : ∀ (L : List Pc) (b : List UInt8) (K : KK) (e : Nat) (P : KK) (acc : List UInt8), Inv b K e P → (∀ x ∈ L, x.2 = true → chk x.1 = 0) → b.length = a + acc.length → b.length + (joined L).length ≤ 65535 →
    ∃ out K' e' P', wrL a L K e acc = ⟨acc ++ out, 0, K', e'⟩ ∧ out.length ≤ (joined L).length ∧ Inv (b ++ out) K' e' P' ∧ Lies (b ++ out) b.length L (b.length + out.length)
  | [], b, K, e, P, acc, hI, _, hb, hl => ⟨[], K, e, P, by rw [wrL, List.append_nil], by simp, by rw [List.append_nil]; exact hI, by rw [List.append_nil]; exact .nil (Nat.le_refl _)⟩
  | (x, false) :: L, b, K, e, P, acc, hI, hc, hb, hl => by
    rw [joined_cons, List.length_append] at hl
    have hl' : b.length + (x.length + (joined L).length) ≤ 65535 := hl
    obtain ⟨out, K', e', P', h1, h2, h3, h4⟩ := wr_back a L (b ++ x) K e P (acc ++ x) (hI.more x) (fun y hy => hc y (by simp [hy])) (by rw [List.length_append, List.length_append]; omega) (by rw [List.length_append]; omega)
    refine ⟨x ++ out, K', e', P', ?_, ?_, ?_, ?_⟩
    · rw [wrL]
      show wrL a L K e (acc ++ x) = _
      rw [h1, List.append_assoc]
    · rw [joined_cons, List.length_append, List.length_append]
      show x.length + out.length ≤ x.length + _
      omega
    · rw [← List.append_assoc]; exact h3
    · rw [← List.append_assoc]
      rw [List.length_append] at h4
      refine .byt ?_ (by simp) (by rw [List.length_append, ← Nat.add_assoc]; exact h4)
      rw [List.append_assoc, List.drop_left, List.take_left]
  | (x, true) :: L, b, K, e, P, acc, hI, hc, hb, hl => by
    rw [joined_cons, List.length_append] at hl
    have hl' : b.length + (x.length + (joined L).length) ≤ 65535 := hl
    obtain ⟨hs, hx⟩ := shorts_of (hc (x, true) (by simp) rfl)
    have hx : x = nm (labs x) := hx
    obtain ⟨ls, hls⟩ : ∃ ls, labs x = ls := ⟨_, rfl⟩
    rw [hls] at hs hx
    subst hx
    have hw : wrap64 ((a : Int) + acc.length) = ((b.length : Nat) : Int) := by rw [IntWalk.wrap64_in _ ⟨by omega, by omega⟩]; omega
    have hla := hI.last
    have hE : pkE e b.length (nm ls) = 0 := by unfold pkE; rw [if_neg (fun h => h (shorts_chk hs)), if_neg (by omega), if_neg (by omega)]
    have e1 : nameB K e b.length (nm ls) = told K ls := by unfold nameB; rw [if_pos hE, show labs (nm ls) = ls from shorts_labs hs]
    have e2 : nameK K e b.length (nm ls) = K ++ fr b.length ls (hdn K ls) := by unfold nameK; rw [if_pos hE, show labs (nm ls) = ls from shorts_labs hs, Int.toNat_natCast]
    have e3 : nameE K e b.length (nm ls) = b.length + (told K ls).length := by unfold nameE; rw [if_pos hE, show labs (nm ls) = ls from shorts_labs hs, Int.toNat_natCast]
    have htl := told_le hI.good hs
    obtain ⟨out, K', e', P', h1, h2, h3, h4⟩ := wr_back a L (b ++ told K ls) (K ++ fr b.length ls (hdn K ls)) (b.length + (told K ls).length) _ (acc ++ told K ls) (hI.tell hs) (fun y hy => hc y (by simp [hy])) (by rw [List.length_append, List.length_append]; omega) (by rw [List.length_append]; omega)
    refine ⟨told K ls ++ out, K', e', P', ?_, ?_, ?_, ?_⟩
    · rw [wrL, if_pos rfl]
      show (if pkE e (wrap64 ((a : Int) + acc.length)) (nm ls) ≠ 0 then _ else _) = _
      rw [hw, if_neg (by simpa using hE)]
      show wrL a L (nameK K e b.length (nm ls)) (nameE K e b.length (nm ls)) (acc ++ nameB K e b.length (nm ls)) = _
      rw [e1, e2, e3, h1, List.append_assoc]
    · rw [joined_cons, List.length_append, List.length_append]
      show (told K ls).length + out.length ≤ (nm ls).length + _
      omega
    · rw [← List.append_assoc]; exact h3
    · rw [← List.append_assoc]
      rw [List.length_append] at h4
      have hst := toldE_rd hI hs (hdn K ls) 0 (by omega) b.length (Nat.le_refl _)
      rw [pos_zero, Nat.add_zero, List.drop_zero] at hst
      exact .nam hs (hst.more out) (by rw [List.length_append, ← Nat.add_assoc]; exact h4)
end Go.Proofs.Ytkiahaodajecfaa

/-
  What was written and its reading: rows, round for round.
-/
namespace Go.Proofs.Ytkiahaodajecfaa
open Go.RowKit Go.Shelf
set_option linter.unusedVariables false
set_option linter.unusedSimpArgs false
set_option maxRecDepth 100000

section
variable {w w' : World} {B B' : Nat} {e e' : TypeId} {k k' n n' : Nat} {v v' : Value} {xs ys : List Value} {G : Nat → Prop}
theorem row_aside (h : w.ownsRow B e k v n xs) (ha : Aside G w w') (hG : ∀ b, v.ownBlock = some b → ¬ G b) : w'.ownsRow B e k v n xs := by
  have hlt := World.ownsRow.lt h
  refine ⟨h.1, ?_⟩
  rcases h.2 with h2 | ⟨g, cap, cur, hv, hg, hh, r⟩
  · exact .inl h2
  · exact .inr ⟨g, cap, cur, hv, hg, (ha.block g (by subst hv; exact (hlt g rfl).2) (hG g (by rw [hv]; rfl))).trans hh, r⟩
theorem row_below (h : w.ownsRow B e k v n xs) (hb : Below w.heap.size w w') : w'.ownsRow B e k v n xs := row_aside (G := fun _ => False) h (Aside.of_all hb) fun _ _ h => h
theorem row_shape (h : w.ownsRow B e k v n xs) : ∃ a c, v = .slice a n c := by
  rcases h.2 with ⟨rfl, h0⟩ | ⟨g, cap, cur, rfl, _⟩
  · exact ⟨none, 0, by rw [h0]⟩
  · exact ⟨_, cap, rfl⟩
theorem row_apart (h : w.ownsRow B e k v n xs) (h' : w.ownsRow B' e' k' v' n' ys) (he : e ≠ e') (b : Nat) (h1 : v.ownBlock = some b) (h2 : v'.ownBlock = some b) : False := by
  rcases h.2 with ⟨rfl, _⟩ | ⟨g, cap, cur, rfl, _, hg, _⟩
  · simp [Value.ownBlock] at h1
  · rcases h'.2 with ⟨rfl, _⟩ | ⟨g', cap', cur', rfl, _, hg', _⟩
    · simp [Value.ownBlock] at h2
    · simp [Value.ownBlock] at h1 h2
      subst h1; subst h2
      rw [hg] at hg'
      injection hg' with hg'
      injection hg' with _ h3
      exact he h3
theorem row_apartB {l : List UInt8} (h : OwnB w B v l) (h' : w.ownsRow B' e' k' v' n' ys) (he : e' ≠ 5) (b : Nat) (h1 : v.ownBlock = some b) (h2 : v'.ownBlock = some b) : False := by
  rcases h with ⟨rfl, _⟩ | ⟨g, cap, fz, rfl, _, _, _, _, hg⟩
  · simp [Value.ownBlock] at h1
  · rcases h'.2 with ⟨rfl, _⟩ | ⟨g', cap', cur', rfl, _, hg', _⟩
    · simp [Value.ownBlock] at h2
    · simp [Value.ownBlock] at h1 h2
      subst h1; subst h2
      rw [hg] at hg'
      injection hg' with hg'
      injection hg' with _ h3
      exact he h3.symm
end

/-- Acts as cells. -/
def acc4 : List AQ → List Value
  | [] => []
  | x :: r => .int .i64 x.t :: .int .i64 x.a :: .bool x.r :: .string (bs x.d) :: acc4 r
theorem acc4_len (K : List AQ) : (acc4 K).length = K.length * 4 := by
  induction K with
  | nil => rfl
  | cons p r ih => simp [acc4, ih]; omega
theorem acc4_app (K K' : List AQ) : acc4 (K ++ K') = acc4 K ++ acc4 K' := by
  induction K with
  | nil => rfl
  | cons p r ih => simp [acc4, ih]
theorem acc4_at : ∀ (K : List AQ) (j : Nat) (h : j < K.length), (acc4 K)[j * 4]? = some (.int .i64 K[j].t) ∧ (acc4 K)[j * 4 + 1]? = some (.int .i64 K[j].a) ∧ (acc4 K)[j * 4 + 2]? = some (.bool K[j].r) ∧ (acc4 K)[j * 4 + 3]? = some (.string (bs K[j].d))
  | [], j, h => by simp at h
  | p :: r, 0, h => ⟨rfl, rfl, rfl, rfl⟩
  | p :: r, j + 1, h => by
    obtain ⟨h1, h2, h3, h4⟩ := acc4_at r j (by simpa using h)
    rw [show (j + 1) * 4 = j * 4 + 1 + 1 + 1 + 1 by omega, acc4]
    exact ⟨h1, h2, h3, h4⟩
theorem acc4_one (K : List AQ) : ∀ u ∈ acc4 K, u.oneCell' = true := by
  induction K with
  | nil => intro u hu; simp [acc4] at hu
  | cons p r ih =>
    intro u hu
    simp only [acc4, List.mem_cons] at hu
    rcases hu with rfl | rfl | rfl | rfl | hu
    · rfl
    · rfl
    · rfl
    · rfl
    · exact ih u hu

/-- v is a row of numbers of the call's own. -/
def OwnJ (w : World) (B : Nat) (v : Value) (l : List Nat) : Prop := w.ownsRow B 3 1 v l.length (iv l)
/-- v is a row of acts of the call's own. -/
def OwnA (w : World) (B : Nat) (v : Value) (l : List AQ) : Prop := w.ownsRow B 40 4 v l.length (acc4 l)

theorem info_act : (Try.prog.info? 40).map (fun i => (i.zero, i.size, i.bytes)) = some (some (.agg #[.int .i64 0, .int .i64 0, .bool false, .string ⟨#[]⟩]), 4, 40) := by kernel_rfl

theorem OwnJ.at_ {w : World} {B : Nat} {v : Value} {l : List Nat} (h : OwnJ w B v l) (j : Nat) (hj : j < l.length) : ∃ g c, v = .slice (some ⟨g, 0, none⟩) l.length c ∧ w.cell? ⟨g, j, none⟩ = some (.int .i64 (l[j] : Int)) := by
  have hc := fun g hg => World.ownsRow.cells h (g := g) hg
  rcases h.2 with ⟨rfl, h0⟩ | ⟨g, cap, cur, rfl, _⟩
  · omega
  · have e1 := hc g rfl j (.int .i64 (l[j] : Int)) (by unfold iv; rw [List.getElem?_map, List.getElem?_eq_getElem hj]; rfl)
    rw [WideShapes.add_plain, Nat.zero_add] at e1
    exact ⟨g, cap, rfl, e1⟩
theorem OwnA.at_ {w : World} {B : Nat} {v : Value} {l : List AQ} (h : OwnA w B v l) (j : Nat) (hj : j < l.length) : ∃ g c, v = .slice (some ⟨g, 0, none⟩) l.length c ∧ w.cell? ⟨g, j * 4, none⟩ = some (.int .i64 l[j].t) ∧ w.cell? ⟨g, j * 4 + 3, none⟩ = some (.string (bs l[j].d)) := by
  have hc := fun g hg => World.ownsRow.cells h (g := g) hg
  rcases h.2 with ⟨rfl, h0⟩ | ⟨g, cap, cur, rfl, _⟩
  · omega
  · obtain ⟨h1, _, _, h2⟩ := acc4_at l j hj
    have e1 := hc g rfl _ _ h1
    have e2 := hc g rfl _ _ h2
    rw [WideShapes.add_plain, Nat.zero_add] at e1 e2
    exact ⟨g, cap, rfl, e1, e2⟩

/-- append of one number. -/
theorem run_appJ {w : World} (B : Nat) (v : Value) (l : List Nat) (x : Nat) (g : Nat) (hown : OwnJ w B v l) (hx : w.cell? ⟨g, 0, none⟩ = some (.int .i64 (x : Int))) (hb : l.length + 1 ≤ 1000000) (hB : B ≤ w.heap.size) :
    ∃ a' c' w', (Builtin.append_ #[49, 49] 49 #[v, .slice (some ⟨g, 0, none⟩) 1 1]).run Try.prog w = .ok (.slice a' (l.length + 1) c') w' ∧ OwnJ w' B (.slice a' (l.length + 1) c') (l ++ [x]) ∧ Aside (fun b => v.ownBlock = some b) w w' ∧ ((Value.slice a' (l.length + 1) c').ownBlock = v.ownBlock ∨ (Value.slice a' (l.length + 1) c').ownBlock = some w.heap.size) := by
  obtain ⟨i0, hi, hz0, hz1, hz2⟩ := info_parts info_int
  obtain ⟨v', w', r1, r2, r3, _, r5⟩ := run_append_own_at (P := Try.prog) (w := w) B 49 49 3 i0 _ 1 8 Try.underlying49 hi hz0 hz1 hz2 rfl (by decide) v l.length (iv l) hown ⟨g, 0, none⟩ 1 1 [.int .i64 (x : Int)] rfl
    (fun j u hu => by
      have hj : j = 0 := by have := (List.getElem?_eq_some_iff.mp hu).1; simpa using this
      subst hj
      simp at hu
      subst hu
      rw [WideShapes.add_plain, Nat.zero_add]
      exact hx)
    (by intro u hu; obtain rfl := List.mem_singleton.mp hu; rfl) (by unfold maxLen; omega) (by omega) hB
  have h4 : OwnJ w' B v' (l ++ [x]) := by
    unfold OwnJ
    rw [List.length_append, show iv (l ++ [x]) = iv l ++ [.int .i64 (x : Int)] by unfold iv; rw [List.map_append]; rfl]
    exact r2
  obtain ⟨a', c', hv⟩ := row_shape h4
  rw [List.length_append] at hv
  subst hv
  exact ⟨a', c', w', r1, h4, Aside.grown r3 fun _ h => h, r5⟩

/-- append of one act. -/
theorem run_appA {w : World} (B : Nat) (v : Value) (l : List AQ) (x : AQ) (g : Nat) (hown : OwnA w B v l) (hx : AtQ w g 0 x) (hb : l.length + 1 ≤ 1000000) (hB : B ≤ w.heap.size) :
    ∃ a' c' w', (Builtin.append_ #[31, 31] 31 #[v, .slice (some ⟨g, 0, none⟩) 1 1]).run Try.prog w = .ok (.slice a' (l.length + 1) c') w' ∧ OwnA w' B (.slice a' (l.length + 1) c') (l ++ [x]) ∧ Aside (fun b => v.ownBlock = some b) w w' := by
  obtain ⟨i0, hi, hz0, hz1, hz2⟩ := info_parts info_act
  obtain ⟨h0, h1, h2, h3⟩ := hx
  obtain ⟨v', w', r1, r2, r3, _, r5⟩ := run_append_own_at (P := Try.prog) (w := w) B 31 31 40 i0 _ 4 40 Try.underlying31 hi hz0 hz1 hz2 rfl (by decide) v l.length (acc4 l) hown ⟨g, 0, none⟩ 1 1 (acc4 [x]) (acc4_len [x])
    (fun j u hu => by
      rw [WideShapes.add_plain, Nat.zero_add]
      match j, hu with
      | 0, hu => simp [acc4] at hu; rw [h0, hu]
      | 1, hu => simp [acc4] at hu; rw [h1, hu]
      | 2, hu => simp [acc4] at hu; rw [h2, hu]
      | 3, hu => simp [acc4] at hu; rw [h3, hu]
      | j + 4, hu => simp [acc4] at hu) (acc4_one [x]) (by unfold maxLen; omega) (by omega) hB
  have h4 : OwnA w' B v' (l ++ [x]) := by
    unfold OwnA
    rw [List.length_append, acc4_app]
    exact r2
  obtain ⟨a', c', hv⟩ := row_shape h4
  rw [List.length_append] at hv
  subst hv
  exact ⟨a', c', w', r1, h4, Aside.grown r3 fun _ h => h⟩

/-- The bytes, the places, the sizes, the acts and the packer. -/
structure Bkd (w wr : World) (p bm B0 : Nat) (v7 v8 v9 v10 : Value) (b : List UInt8) (q s : List Nat) (n : List AQ) (K : KK) (e : Nat) : Prop where
  rb : OwnB wr B0 v7 b
  rq : OwnJ wr B0 v8 q
  rs : OwnJ wr B0 v9 s
  ra : OwnA wr B0 v10 n
  ne : ∀ x, v8.ownBlock = some x → v9.ownBlock = some x → False
  pk : Pk wr p bm K e
  bel : Below w.heap.size w wr
  size : B0 ≤ wr.heap.size
  hp : p < B0
  hm : bm < B0
  h0 : w.heap.size ≤ p ∧ w.heap.size ≤ bm

section
variable {w wr w' : World} {p bm B0 e : Nat} {v7 v8 v9 v10 : Value} {b : List UInt8} {q s : List Nat} {n : List AQ} {K : KK}

theorem Bkd.later (h : Bkd w wr p bm B0 v7 v8 v9 v10 b q s n K e) (hb : Below wr.heap.size wr w') : Bkd w w' p bm B0 v7 v8 v9 v10 b q s n K e :=
  ⟨h.rb.below hb, row_below h.rq hb, row_below h.rs hb, row_below h.ra hb, h.ne, h.pk.later hb, bel_call h.bel hb, Nat.le_trans h.size hb.size, h.hp, h.hm, h.h0⟩

theorem Bkd.name {K' : KK} {e' : Nat} (h : Bkd w wr p bm B0 v7 v8 v9 v10 b q s n K e) (ha : Aside (fun x => x = p ∨ x = bm) wr w') (hk : Pk w' p bm K' e') : Bkd w w' p bm B0 v7 v8 v9 v10 b q s n K' e' := by
  have h1 := h.hp
  have h2 := h.hm
  have h3 := h.h0
  refine ⟨h.rb.aside ha fun x hx => ?_, row_aside h.rq ha fun x hx => ?_, row_aside h.rs ha fun x hx => ?_, row_aside h.ra ha fun x hx => ?_, h.ne, hk, below_aside h.bel ha fun x hx => ⟨Nat.lt_of_lt_of_le hx h.bel.size, by omega⟩, Nat.le_trans h.size ha.size, h1, h2, h3⟩
  · have := (h.rb.lt x hx).1; omega
  · have := (World.ownsRow.lt h.rq x hx).1; omega
  · have := (World.ownsRow.lt h.rs x hx).1; omega
  · have := (World.ownsRow.lt h.ra x hx).1; omega

/-- A row of the call's own is written over or moved: the rest. -/
theorem Bkd.rest {v : Value} (h : Bkd w wr p bm B0 v7 v8 v9 v10 b q s n K e) (ha : Aside (fun x => v.ownBlock = some x) wr w') (hv : ∀ x, v.ownBlock = some x → B0 ≤ x) :
    Pk w' p bm K e ∧ Below w.heap.size w w' ∧ B0 ≤ w'.heap.size := by
  have g1 := h.hp
  have g2 := h.hm
  have g3 := h.h0
  refine ⟨h.pk.aside ha (fun hg => by have := hv p hg; omega) (fun hg => by have := hv bm hg; omega), below_aside h.bel ha fun x hx => ⟨Nat.lt_of_lt_of_le hx h.bel.size, fun hg => by have := hv x hg; omega⟩, Nat.le_trans h.size ha.size⟩

theorem Bkd.appB (h : Bkd w wr p bm B0 v7 v8 v9 v10 b q s n K e) {xv : Value} {l' : List UInt8} {lo hi : Nat} (hx : Sl wr lo hi xv (iz l')) (hb : b.length + l'.length ≤ 1000000) :
    ∃ a' c' w', (Builtin.append_ #[42, 42] 42 #[v7, xv]).run Try.prog wr = .ok (.slice a' (b.length + l'.length) c') w' ∧ Bkd w w' p bm B0 (.slice a' (b.length + l'.length) c') v8 v9 v10 (b ++ l') q s n K e := by
  obtain ⟨a', c', w', h1, h2, ha⟩ := run_appBs B0 v7 xv b l' h.rb hx hb h.size
  obtain ⟨r1, r2, r3⟩ := h.rest ha fun x hx => (h.rb.lt x hx).1
  exact ⟨a', c', w', h1, h2, row_aside h.rq ha fun x hx hg => row_apartB h.rb h.rq (by decide) x hg hx, row_aside h.rs ha fun x hx hg => row_apartB h.rb h.rs (by decide) x hg hx, row_aside h.ra ha fun x hx hg => row_apartB h.rb h.ra (by decide) x hg hx, h.ne, r1, r2, r3, h.hp, h.hm, h.h0⟩

theorem Bkd.appQ (h : Bkd w wr p bm B0 v7 v8 v9 v10 b q s n K e) (x : Nat) (hb : q.length + 1 ≤ 1000000) :
    ∃ a' c' w', (Builtin.append_ #[49, 49] 49 #[v8, .slice (some ⟨wr.heap.size, 0, none⟩) 1 1]).run Try.prog (wr.alloc (.cells #[.int .i64 (x : Int)] 3)) = .ok (.slice a' (q.length + 1) c') w' ∧ Bkd w w' p bm B0 v7 (.slice a' (q.length + 1) c') v9 v10 b (q ++ [x]) s n K e ∧ ∀ B v (l : List UInt8), OwnB wr B v l → OwnB w' B v l := by
  have hal : Below wr.heap.size wr (wr.alloc (.cells #[.int .i64 (x : Int)] 3)) := (Below.refl _ _).alloc (Nat.le_refl _) _
  have h := h.later hal
  obtain ⟨a', c', w', h1, h2, ha, h5⟩ := run_appJ B0 v8 q x wr.heap.size h.rq (by simp [go_sem]) hb h.size
  obtain ⟨r1, r2, r3⟩ := h.rest ha fun x hx => (World.ownsRow.lt h.rq x hx).1
  have hsz := (World.size_alloc wr (.cells #[.int .i64 (x : Int)] 3))
  refine ⟨a', c', w', h1, ⟨h.rb.aside ha fun y hy hg => row_apartB h.rb h.rq (by decide) y hy hg, h2, row_aside h.rs ha fun y hy hg => h.ne y hg hy, row_aside h.ra ha fun y hy hg => row_apart h.rq h.ra (by decide) y hg hy, ?_, r1, r2, r3, h.hp, h.hm, h.h0⟩, fun B v l ho => (ho.below hal).aside ha fun y hy hg => row_apartB (ho.below hal) h.rq (by decide) y hy hg⟩
  intro y h6 h7
  rcases h5 with h5 | h5
  · exact h.ne y (h5 ▸ h6) h7
  · have := (World.ownsRow.lt h.rs y h7).2
    rw [h5] at h6
    injection h6 with h6
    omega

theorem Bkd.appS (h : Bkd w wr p bm B0 v7 v8 v9 v10 b q s n K e) (x : Nat) (hb : s.length + 1 ≤ 1000000) :
    ∃ a' c' w', (Builtin.append_ #[49, 49] 49 #[v9, .slice (some ⟨wr.heap.size, 0, none⟩) 1 1]).run Try.prog (wr.alloc (.cells #[.int .i64 (x : Int)] 3)) = .ok (.slice a' (s.length + 1) c') w' ∧ Bkd w w' p bm B0 v7 v8 (.slice a' (s.length + 1) c') v10 b q (s ++ [x]) n K e ∧ ∀ B v (l : List UInt8), OwnB wr B v l → OwnB w' B v l := by
  have hal : Below wr.heap.size wr (wr.alloc (.cells #[.int .i64 (x : Int)] 3)) := (Below.refl _ _).alloc (Nat.le_refl _) _
  have h := h.later hal
  obtain ⟨a', c', w', h1, h2, ha, h5⟩ := run_appJ B0 v9 s x wr.heap.size h.rs (by simp [go_sem]) hb h.size
  obtain ⟨r1, r2, r3⟩ := h.rest ha fun x hx => (World.ownsRow.lt h.rs x hx).1
  refine ⟨a', c', w', h1, ⟨h.rb.aside ha fun y hy hg => row_apartB h.rb h.rs (by decide) y hy hg, row_aside h.rq ha fun y hy hg => h.ne y hy hg, h2, row_aside h.ra ha fun y hy hg => row_apart h.rs h.ra (by decide) y hg hy, ?_, r1, r2, r3, h.hp, h.hm, h.h0⟩, fun B v l ho => (ho.below hal).aside ha fun y hy hg => row_apartB (ho.below hal) h.rs (by decide) y hy hg⟩
  intro y h6 h7
  rcases h5 with h5 | h5
  · exact h.ne y h6 (h5 ▸ h7)
  · have := (World.ownsRow.lt h.rq y h6).2
    rw [h5] at h7
    injection h7 with h7
    omega

theorem Bkd.appA (h : Bkd w wr p bm B0 v7 v8 v9 v10 b q s n K e) (x : AQ) (hb : n.length + 1 ≤ 1000000) :
    ∃ a' c' w', (Builtin.append_ #[31, 31] 31 #[v10, .slice (some ⟨wr.heap.size, 0, none⟩) 1 1]).run Try.prog (wr.alloc (.cells #[.int .i64 x.t, .int .i64 x.a, .bool x.r, .string (bs x.d)] 40)) = .ok (.slice a' (n.length + 1) c') w' ∧ Bkd w w' p bm B0 v7 v8 v9 (.slice a' (n.length + 1) c') b q s (n ++ [x]) K e ∧ ∀ B v (l : List UInt8), OwnB wr B v l → OwnB w' B v l := by
  have hal : Below wr.heap.size wr (wr.alloc (.cells #[.int .i64 x.t, .int .i64 x.a, .bool x.r, .string (bs x.d)] 40)) := (Below.refl _ _).alloc (Nat.le_refl _) _
  have h := h.later hal
  obtain ⟨a', c', w', h1, h2, ha⟩ := run_appA B0 v10 n x wr.heap.size h.ra ⟨by simp [go_sem], by simp [go_sem], by simp [go_sem], by simp [go_sem]⟩ hb h.size
  obtain ⟨r1, r2, r3⟩ := h.rest ha fun x hx => (World.ownsRow.lt h.ra x hx).1
  exact ⟨a', c', w', h1, ⟨h.rb.aside ha fun y hy hg => row_apartB h.rb h.ra (by decide) y hy hg, row_aside h.rq ha fun y hy hg => row_apart h.rq h.ra (by decide) y hy hg, row_aside h.rs ha fun y hy hg => row_apart h.rs h.ra (by decide) y hy hg, h2, h.ne, r1, r2, r3, h.hp, h.hm, h.h0⟩, fun B v l ho => (ho.below hal).aside ha fun y hy hg => row_apartB (ho.below hal) h.ra (by decide) y hy hg⟩
end

/-- The packer's keys, after what is written. -/
theorem wrL_keys (a : Int) : ∀ (L : List Pc) (K : KK) (e : Nat) (acc : List UInt8), GoodK K → (wrL a L K e acc).K.length ≤ K.length + 127 * L.length
  | [], K, e, acc, _ => by simp [wrL]
  | x :: L, K, e, acc, hG => by
    rw [wrL]
    split
    · split
      · simp
      · have h1 := nameK_good (e := e) (a := wrap64 (a + acc.length)) (n := x.1) hG
        have h2 := wrL_keys a L (nameK K e (wrap64 (a + acc.length)) x.1) (nameE K e (wrap64 (a + acc.length)) x.1) (acc ++ nameB K e (wrap64 (a + acc.length)) x.1) h1.1
        rw [List.length_cons]
        omega
    · have h2 := wrL_keys a L K e (acc ++ x.1) hG
      rw [List.length_cons]
      omega
end Go.Proofs.Ytkiahaodajecfaa

/-
  What was written and its reading: the walk.
-/
namespace Go.Proofs.Ytkiahaodajecfaa
open Go.RowKit Go.Shelf
set_option linter.unusedVariables false
set_option linter.unusedSimpArgs false
set_option maxRecDepth 100000

/-- What was kept lies where it was put. -/
def RdK (b : List UInt8) (R : List (AQ × Nat × Nat)) : Prop := ∀ x ∈ R, (∃ L, spl x.1.t x.1.d = .ok L ∧ Lies b x.2.1 L (x.2.1 + x.2.2)) ∧ x.2.2 ≤ 65535 ∧ (Lit.int .i64 x.1.t).wf = true ∧ x.1.d.length ≤ 3000

theorem RdK.more {b : List UInt8} {R : List (AQ × Nat × Nat)} (h : RdK b R) (c : List UInt8) : RdK (b ++ c) R := fun x hx => by
  obtain ⟨⟨L, h1, h2⟩, h3⟩ := h x hx
  exact ⟨⟨L, h1, h2.more c⟩, h3⟩

theorem goP_codes (b : List UInt8) (d : List UInt8) (s e : Nat) : ∀ (ks : List PK) (p : Nat) (acc : List Pc), (goP (pln d) b s e ks p acc).code = 0 ∨ (goP (pln d) b s e ks p acc).code = 4
  | [], p, acc => by
    rw [goP]
    split
    · exact .inr rfl
    · exact .inl rfl
  | k :: ks, p, acc => by
    have hcut : ∀ q c a, cutP b s e p q = .bad c a → c = 4 := by
      intro q c a h
      unfold cutP at h
      split at h
      · injection h with h _; exact h.symm
      · cases h
    rw [goP]
    rcases h : stepP (pln d) b s e p k with ⟨x, q⟩ | ⟨c, a⟩
    · exact goP_codes b d s e ks q (acc ++ [x])
    · refine .inr ?_
      show c = 4
      cases k with
      | fix n => exact hcut _ _ _ h
      | rst => exact hcut _ _ _ h
      | txt =>
        simp only [stepP] at h
        split at h
        · injection h with h _; exact h.symm
        · exact hcut _ _ _ h
      | nam =>
        simp only [stepP] at h
        split at h
        · injection h with h _; exact h.symm
        · split at h
          · rename_i h2
            injection h with h _
            rw [← h]
            unfold pln at h2 ⊢
            split
            · rfl
            · rename_i h3
              rw [if_neg h3] at h2
              exact absurd rfl h2
          · split at h
            · injection h with h _; exact h.symm
            · cases h

theorem spl_codes (t : Int) (d : List UInt8) : (spl t d).code = 0 ∨ (spl t d).code = 3 ∨ (spl t d).code = 4 ∨ (spl t d).code = 5 := by
  unfold spl
  split
  · exact .inr (.inr (.inr rfl))
  · split
    · exact .inr (.inl rfl)
    · rcases goP_codes d d 0 d.length (kinds t) 0 [] with h | h
      · exact .inl h
      · exact .inr (.inr (.inl h))

set_option maxHeartbeats 8000000 in
theorem back_longD {v va : Value} {l : List AQ} {bt : List UInt8} {lo hi : Nat} (w : World) (h : Aq w w.heap.size v l) (hs : Sl w lo hi va (iz bt)) (hc : longQ l = true ∨ (longQ l = false ∧ 100 < bt.length)) :
    Calls Try.prog 5 #[v, va] w (Tells w (.bool true)) := by
  have HAW := Lib.hid awakeD_any
  have HN := Lib.hid new_any
  have HL := Lib.hid (fun wx (hb : Below w.heap.size w wx) => longQ_any (h.below hb (Nat.le_refl _)))
  obtain ⟨ad, c, rfl, _⟩ := hs
  rw [iz_len]
  have HB := Lib.hid (Below.refl w.heap.size w)
  rcases hc with hc | ⟨hc, hb⟩
  · rw [hc] at HL
    go_enter Try.func5, Try.ntmps5
    go_wp2_with fail
    refine (tell_on HB (HAW.out _)).mono ?_; rintro e w1 ⟨rfl, HB⟩
    go_wp2_with fail
    refine (HN.out _).mono ?_; rintro e w2 ⟨p, bm, rfl, _, _, _, hb⟩
    replace HB := Lib.hid (bel_call HB.out hb)
    clear hb
    go_wp2_with fail
    refine (HL.out _ HB.out).mono ?_; rintro e w3 ⟨rfl, rfl⟩
    go_wp2_with fail
    go_ret
    exact ⟨rfl, HB.out⟩
  · rw [hc] at HL
    go_enter Try.func5, Try.ntmps5
    go_wp2_with fail
    refine (tell_on HB (HAW.out _)).mono ?_; rintro e w1 ⟨rfl, HB⟩
    go_wp2_with fail
    refine (HN.out _).mono ?_; rintro e w2 ⟨p, bm, rfl, _, _, _, hbb⟩
    replace HB := Lib.hid (bel_call HB.out hbb)
    clear hbb
    go_wp2_with fail
    refine (HL.out _ HB.out).mono ?_; rintro e w3 ⟨rfl, rfl⟩
    go_wp2_with fail
    go_ret
    exact ⟨rfl, HB.out⟩

set_option maxHeartbeats 8000000 in
theorem back_coreD {v va : Value} {l : List AQ} {bt : List UInt8} {lo hi : Nat} (w : World) (h : Aq w w.heap.size v l) (hs : Sl w lo hi va (iz bt)) (hhi : hi ≤ w.heap.size) (hc : longQ l = false) (hbt : bt.length ≤ 100) :
    Calls Try.prog 5 #[v, va] w (Tells w (.bool true)) := by
  have HAW := Lib.hid awakeD_any
  have HN := Lib.hid new_any
  have HL := Lib.hid (fun wx (hb : Below w.heap.size w wx) => longQ_any (h.below hb (Nat.le_refl _)))
  rw [hc] at HL
  obtain ⟨hl40, hn3⟩ := longQ_no hc
  have HN3 := Lib.hid hn3
  have HA := Lib.hid h
  have HS := Lib.hid hs
  obtain ⟨ad, c, rfl, _⟩ := hs
  obtain ⟨aa, ca, rfl, _⟩ := h
  rw [iz_len]
  simp only [iz_len] at HS
  have HB := Lib.hid (Below.refl w.heap.size w)
  have t100 : ¬ 100 < bt.length := by omega
  clear hn3 hc
  go_enter Try.func5, Try.ntmps5
  go_wp2_with fail
  refine (tell_on HB (HAW.out _)).mono ?_; rintro e w1 ⟨rfl, HB⟩
  go_wp2_with fail
  refine (HN.out _).mono ?_; rintro e w2 ⟨p, bm, rfl, hp1, hb1, hpk, hb⟩
  have HBk := Lib.hid (show Bkd w w2 p bm w2.heap.size (.slice none 0 0) (.slice none 0 0) (.slice none 0 0) (.slice none 0 0) [] [] [] [] [] 0 from ⟨OwnB.nil _ _, World.ownsRow_nil _ _ _ _, World.ownsRow_nil _ _ _ _, World.ownsRow_nil _ _ _ _, fun x hx => by simp [Value.ownBlock] at hx, hpk, bel_call HB.out hb, Nat.le_refl _, hpk.lt, hpk.map.lt, Nat.le_trans HB.out.size hp1, Nat.le_trans HB.out.size hb1⟩)
  replace HB := Lib.hid (bel_call HB.out hb)
  obtain ⟨B0, hB0⟩ : ∃ B0, w2.heap.size = B0 := ⟨_, rfl⟩
  rw [hB0] at HBk
  clear hb hp1 hb1 hpk hB0
  go_wp2_with fail
  refine (HL.out _ HB.out).mono ?_; rintro e w3 ⟨rfl, rfl⟩
  clear HB
  go_wp2_with fail
  go_loopg [7, 8, 9, 10, 11, 12, 13] l.length (fun g v7 v8 v9 v10 v11 v12 v13 wr => ∃ (k : Nat) (b : List UInt8) (K : KK) (e : Nat) (P : KK) (R : List (AQ × Nat × Nat)), k + g = l.length ∧ v11 = .int .i64 k ∧ b.length ≤ 63200 ∧ R.length ≤ k ∧ K.length ≤ 400 * k ∧ Hid (Bkd w wr p bm B0 v7 v8 v9 v10 b (R.map (·.2.1)) (R.map (·.2.2)) (R.map (·.1)) K e) ∧ Hid (Inv b K e P) ∧ Hid (RdK b R))
  case atStart => exact ⟨0, [], [], 0, [], [], by omega, rfl, by simp, by simp, by simp, HBk, Inv.nil, fun x hx => by simp at hx⟩
  case round =>
    obtain ⟨k, b, K, e, P, R, hk, rfl, hbl, hRl, hKl, HK, HI, HR⟩ := hrel
    clear HBk
    by_cases hlt : k < l.length
    · obtain ⟨a0, c0, he0, hcc⟩ := HA.out
      obtain ⟨g0, off, rfl, hg0, hcell⟩ := hcc (by omega)
      injection he0 with he1 he2 he3
      subst he1
      have h3000 := HN3.out k hlt
      have HD := Lib.hid (fun (wx : World) (hb : Below w.heap.size w wx) => (hcell k hlt).1.keep fun o => hb.cell (p := ⟨g0, o, none⟩) hg0)
      have hwt := (hcell k hlt).2.1
      clear he2 he3 hcc hcell
      obtain ⟨x, hx⟩ : ∃ x, l[k] = x := ⟨_, rfl⟩
      rw [hx] at h3000 HD hwt
      obtain ⟨t, A, r, d⟩ := x
      simp only at h3000 HD hwt
      clear hx
      have HCx := Lib.hid (fun wx => rcheckD_any t d (by omega) wx)
      obtain ⟨cc, hcn⟩ : ∃ cc, (spl t d).code = cc := ⟨_, rfl⟩
      rw [hcn] at HCx
      have HWr := Lib.hid (show Below wr.heap.size wr wr.drew from (Below.refl _ _).drew)
      obtain ⟨d0, _, _, d3⟩ := HD.out _ HK.out.bel
      simp only at d0 d3
      obtain ⟨a7, c7, rfl⟩ := HK.out.rb.shape
      by_cases hch : cc = 0
      · subst hch
        by_cases hbig : 60000 < b.length
        · have t60 : decide ((60000 : Int) < b.length) = true := by simp; omega
          go_wp2_with fail
          go_region_held3 (fun wx => wx.cell? ⟨g0, off + k * 4, none⟩ = some (.int .i64 t) ∧ wx.cell? ⟨g0, off + k * 4 + 3, none⟩ = some (.string (bs d))) (first | exact ⟨d0, d3⟩ | exact HQ.out | exact ⟨cell_later HWr.out d0, cell_later HWr.out d3⟩) (first | (go_at_call 15; refine (HCx.out _).mono ?_; rintro e0 w4 ⟨rfl, hb4⟩; have HB4 := Lib.hid (bel_call HWr.out hb4); have HQ := Lib.hid (And.intro (cell_later HB4.out d0) (cell_later HB4.out d3)); clear hb4))
          have HK2 := Lib.hid (HK.out.later HB4.out)
          clear HQ d0 d3
          go_wp2_with fail
          go_roundg (l.length - (k + 1))
          case measure => omega
          case rel => exact ⟨k + 1, b, K, e, P, R, by omega, by go_num, hbl, by omega, by omega, HK2, HI, HR⟩
        · have t60 : decide ((60000 : Int) < b.length) = false := by simp; omega
          have HP := Lib.hid (fun wx => pick_any A ((bt.length + 1 : Nat) : Int) wx (by omega) (by omega))
          push_cast at HP
          go_wp2_with fail
          go_region_held3 (fun wx => wx.cell? ⟨g0, off + k * 4, none⟩ = some (.int .i64 t) ∧ wx.cell? ⟨g0, off + k * 4 + 3, none⟩ = some (.string (bs d))) (first | exact ⟨d0, d3⟩ | exact HQ.out | exact ⟨cell_later HWr.out d0, cell_later HWr.out d3⟩) (first | (go_at_call 15; refine (HCx.out _).mono ?_; rintro e0 w4 ⟨rfl, hb4⟩; have HB4 := Lib.hid (bel_call HWr.out hb4); have HQ := Lib.hid (And.intro (cell_later HB4.out d0) (cell_later HB4.out d3)); clear hb4))
          have HK4 := Lib.hid (HK.out.later HB4.out)
          clear HQ d0 d3
          obtain ⟨f0, f1, f2, f3⟩ := HD.out _ HK4.out.bel
          simp only at f0 f1 f2 f3
          go_wp2_with fail
          refine (HP.out _).mono ?_; rintro e0 w5 ⟨q0, hq0, rfl, rfl⟩
          obtain ⟨sv, hsv, hsl⟩ := sl_to (HS.out.below HK4.out.bel hhi) (show q0 ≤ bt.length by omega)
          have htl : (bt.take q0).length ≤ 100 := by rw [List.length_take]; omega
          obtain ⟨a5, c5, w5, hr5, hk5⟩ := HK4.out.appB hsl (by omega)
          have HI5 := Lib.hid (HI.out.more (bt.take q0))
          have HRd5 := Lib.hid (HR.out.more (bt.take q0))
          have HL5 := Lib.hid (show (b ++ bt.take q0).length = b.length + (bt.take q0).length from List.length_append)
          obtain ⟨b1, hb1⟩ : ∃ b1, b ++ bt.take q0 = b1 := ⟨_, rfl⟩
          obtain ⟨M, hM⟩ : ∃ M, b.length + (bt.take q0).length = M := ⟨_, rfl⟩
          have hMb : M ≤ 60100 := by omega
          rw [hM] at hr5 hk5 HL5
          rw [hb1] at hk5 HI5 HL5 HRd5
          have HR5 := Lib.hid hr5
          have HK5 := Lib.hid hk5
          clear hsl htl hr5 hk5 hb1 hM f0 f1 f2 f3
          obtain ⟨f0, f1, f2, f3⟩ := HD.out _ HK5.out.bel
          simp only at f0 f1 f2 f3
          obtain ⟨L, hL⟩ := code_ok hcn
          obtain ⟨_, _, _, hf, hj⟩ := spl_ok hL
          obtain ⟨out, K', e', P', hw1, hw2, hw3, hw4⟩ := wr_back M L b1 K e P [] HI5.out (fits_nam hf) (by rw [HL5.out]; simp) (by rw [HL5.out, hj]; omega)
          have hkeys := wrL_keys (M : Int) L K e [] HI5.out.good
          rw [hw1] at hkeys
          simp only at hkeys
          have hL3 : L.length ≤ 3 := by rw [fits_len hf]; exact (kinds_small t).1
          have hwr : wrR (M : Int) t d K e = ⟨out, 0, K', e'⟩ := by unfold wrR; rw [hL]; show wrL _ _ _ _ _ = _; rw [hw1]; rfl
          have HWt := Lib.hid (fun (wx : World) (hb : Below w5.heap.size w5 wx) => write_any (w := wx) (HK5.out.pk.later hb) HI5.out.good (by omega) (by have := HI5.out.last; have := HL5.out; omega) (M : Int) t d (by omega))
          rw [hwr] at HWt
          have HW5 := Lib.hid (show Below w5.heap.size w5 w5.drew from (Below.refl _ _).drew)
          have HKl := Lib.hid (show K'.length ≤ 400 * (k + 1) by omega)
          rw [hj] at hw2
          obtain ⟨T, hT⟩ : ∃ T, out.length = T := ⟨_, rfl⟩
          have HI8 := Lib.hid hw3
          have HT := Lib.hid hT
          have HR8 := Lib.hid (show RdK (b1 ++ out) (R ++ [((⟨t, A, r, d⟩ : AQ), M, T)]) from fun y hy => by
            rcases List.mem_append.mp hy with hy | hy
            · exact HRd5.out.more out y hy
            · obtain rfl := List.mem_singleton.mp hy
              exact ⟨⟨L, hL, by rw [HL5.out, hT] at hw4; exact hw4⟩, (show T ≤ 65535 by omega), hwt, h3000⟩)
          rw [hT] at hw2
          have u1 : ¬ d.length < T := by omega
          have hns : (bs d).size = d.length := bs_size d
          clear hL hf hj hw1 hw3 hw4 hkeys hL3 hwr hT
          go_wp2_with (at_builtin; refine wpList_append_run (.tmp 58) (.tmp 69) 42 42 rfl rfl rfl rfl HR5.out ?_)
          go_region_held3 (fun wx => wx.cell? ⟨g0, off + k * 4, none⟩ = some (.int .i64 t) ∧ wx.cell? ⟨g0, off + k * 4 + 3, none⟩ = some (.string (bs d))) (first | exact ⟨f0, f3⟩ | exact HQ6.out | exact ⟨cell_later HW5.out f0, cell_later HW5.out f3⟩) (first | (go_at_call 23; refine (HWt.out _ HW5.out).mono ?_; rintro e0 w6 ⟨vx, rfl, ho, hpk, has⟩; have HK6 := Lib.hid ((HK5.out.later HW5.out).name has hpk); have HQ6 : Hid (w6.cell? ⟨g0, off + k * 4, none⟩ = some (.int .i64 t) ∧ w6.cell? ⟨g0, off + k * 4 + 3, none⟩ = some (.string (bs d))) := ⟨(HD.out _ HK6.out.bel).1, (HD.out _ HK6.out.bel).2.2.2⟩; have HO6 := Lib.hid ho; clear ho hpk has))
          clear HQ6 f0 f1 f2 f3
          obtain ⟨f0, f1, f2, f3⟩ := HD.out _ HK6.out.bel
          simp only at f0 f1 f2 f3
          obtain ⟨ax, cx, rfl⟩ := HO6.out.shape
          rw [HT.out] at HO6 ⊢
          obtain ⟨a7, c7, w7, hr7, hk7, hx7⟩ := HK6.out.appQ M (by rw [List.length_map]; omega)
          have HR7 := Lib.hid hr7
          have HK7 := Lib.hid hk7
          have HO7 := Lib.hid (hx7 _ _ _ HO6.out)
          clear hr7 hk7 hx7
          obtain ⟨a8, c8, w8, hr8, hk8, hx8⟩ := HK7.out.appS T (by rw [List.length_map]; omega)
          have HR9 := Lib.hid hr8
          have HK8 := Lib.hid hk8
          have HO8 := Lib.hid (hx8 _ _ _ HO7.out)
          clear hr8 hk8 hx8
          obtain ⟨e0, e1, e2, e3⟩ := HD.out _ HK8.out.bel
          simp only at e0 e1 e2 e3
          obtain ⟨a9, c9, w9, hr9, hk9, hx9⟩ := HK8.out.appA ⟨t, A, r, d⟩ (by rw [List.length_map]; omega)
          simp only at hr9
          have HR10 := Lib.hid hr9
          have HK9 := Lib.hid hk9
          have HO9 := Lib.hid (hx9 _ _ _ HO8.out)
          clear hr9 hk9 hx9
          obtain ⟨a10, c10, w10, hr10, hk10⟩ := HK9.out.appB HO9.out.sl (by rw [HL5.out, HT.out]; omega)
          rw [HL5.out, HT.out] at hr10 hk10
          have HR11 := Lib.hid hr10
          have HK10 := Lib.hid (show Bkd w w10 p bm B0 (.slice a10 (M + T) c10) (.slice a7 ((R.map (·.2.1)).length + 1) c7) (.slice a8 ((R.map (·.2.2)).length + 1) c8) (.slice a9 ((R.map (·.1)).length + 1) c9) (b1 ++ out) ((R ++ [((⟨t, A, r, d⟩ : AQ), M, T)]).map (·.2.1)) ((R ++ [((⟨t, A, r, d⟩ : AQ), M, T)]).map (·.2.2)) ((R ++ [((⟨t, A, r, d⟩ : AQ), M, T)]).map (·.1)) K' e' by
            rw [List.map_append, List.map_append, List.map_append]; exact hk10)
          have HL9 := Lib.hid (show (b1 ++ out).length = M + T by rw [List.length_append, HL5.out, HT.out])
          clear hr10 hk10
          go_wp2_with (first | (at_builtin; refine wpList_append_run (.tmp 101) (.tmp 104) 49 49 rfl rfl rfl rfl HR7.out ?_) | (at_builtin; refine wpList_append_run (.tmp 106) (.tmp 109) 49 49 rfl rfl rfl rfl HR9.out ?_) | (at_builtin; refine wpList_append_run (.tmp 111) (.tmp 116) 31 31 rfl rfl rfl rfl HR10.out ?_) | (at_builtin; refine wpList_append_run (.tmp 118) (.tmp 119) 42 42 rfl rfl rfl rfl HR11.out ?_))
          go_roundg (l.length - (k + 1))
          case measure => omega
          case rel => exact ⟨k + 1, b1 ++ out, K', e', P', R ++ [((⟨t, A, r, d⟩ : AQ), M, T)], by omega, by go_num, by rw [HL9.out]; omega, by rw [List.length_append]; simp; omega, HKl.out, (by have h := HK10.out; simp only [List.length_map] at h; exact h), HI8, HR8⟩
      · have tc : (cc != 0) = true := by simpa using hch
        go_wp2_with fail
        refine wp_region_held_drew (S := (fun wx => wx.cell? ⟨g0, off + k * 4, none⟩ = some (.int .i64 t) ∧ wx.cell? ⟨g0, off + k * 4 + 3, none⟩ = some (.string (bs d)))) (by kernel_rfl) ⟨cell_later HWr.out d0, cell_later HWr.out d3⟩ (fun hHeld => ?_)
        refine wpAnyH_take (i := 0) (v := ?_) rfl (by kernel_rfl) (by kernel_rfl) (by kernel_rfl) (fun _ _ _ h => h) (Or.inl ⟨by rfl, ?_⟩) (by assumption) ?_
        rotate_left 1
        · intro w hSw; (try dsimp only at hSw); go_simp; try (with_reducible rfl)
        try simp only [Act.put, List.setIfInBounds_toArray, List.set_cons_zero, List.set_cons_succ]
        refine wpAnyH_take (i := 1) (v := ?_) rfl (by kernel_rfl) (by kernel_rfl) (by kernel_rfl) (fun _ _ _ h => h) (Or.inl ⟨by rfl, ?_⟩) (by assumption) ?_
        rotate_left 1
        · intro w hSw; (try dsimp only at hSw); go_simp; try (with_reducible rfl)
        try simp only [Act.put, List.setIfInBounds_toArray, List.set_cons_zero, List.set_cons_succ]
        refine wpAnyH_take (i := 2) (v := ?_) rfl (by kernel_rfl) (by kernel_rfl) (by kernel_rfl) (fun _ _ _ h => h) (Or.inl ⟨by rfl, ?_⟩) (by assumption) ?_
        rotate_left 1
        · intro w hSw; (try dsimp only at hSw); go_simp; try (with_reducible rfl)
        try simp only [Act.put, List.setIfInBounds_toArray, List.set_cons_zero, List.set_cons_succ]
        refine wpAnyH_take (i := 3) (v := ?_) rfl (by kernel_rfl) (by kernel_rfl) (by kernel_rfl) (fun _ _ _ h => h) (Or.inl ⟨by rfl, ?_⟩) (by assumption) ?_
        rotate_left 1
        · intro w hSw; (try dsimp only at hSw); go_simp; try (with_reducible rfl)
        try simp only [Act.put, List.setIfInBounds_toArray, List.set_cons_zero, List.set_cons_succ]
        refine wpAnyH_take (i := 4) (v := ?_) rfl (by kernel_rfl) (by kernel_rfl) (by kernel_rfl) (fun _ _ _ h => h) (Or.inl ⟨by rfl, ?_⟩) (by assumption) ?_
        rotate_left 1
        · intro w hSw; (try dsimp only at hSw); go_simp; try (with_reducible rfl)
        try simp only [Act.put, List.setIfInBounds_toArray, List.set_cons_zero, List.set_cons_succ]
        refine wpAnyH_take (i := 5) (v := ?_) rfl (by kernel_rfl) (by kernel_rfl) (by kernel_rfl) (fun _ _ _ h => h) (Or.inl ⟨by rfl, ?_⟩) (by assumption) ?_
        rotate_left 1
        · intro w hSw; (try dsimp only at hSw); go_simp; try (with_reducible rfl)
        try simp only [Act.put, List.setIfInBounds_toArray, List.set_cons_zero, List.set_cons_succ]
        refine wpAnyH_take (i := 6) (v := ?_) rfl (by kernel_rfl) (by kernel_rfl) (by kernel_rfl) (fun _ _ _ h => h) (Or.inl ⟨by rfl, ?_⟩) (by assumption) ?_
        rotate_left 1
        · intro w hSw; (try dsimp only at hSw); go_simp; try (with_reducible rfl)
        try simp only [Act.put, List.setIfInBounds_toArray, List.set_cons_zero, List.set_cons_succ]
        refine wpAnyH_take (i := 7) (v := ?_) rfl (by kernel_rfl) (by kernel_rfl) (by kernel_rfl) (fun _ _ _ h => h) (Or.inl ⟨by rfl, ?_⟩) (by assumption) ?_
        rotate_left 1
        · intro w hSw; (try dsimp only at hSw); go_simp; try (with_reducible rfl)
        try simp only [Act.put, List.setIfInBounds_toArray, List.set_cons_zero, List.set_cons_succ]
        refine wpAnyH_take (i := 8) (v := ?_) rfl (by kernel_rfl) (by kernel_rfl) (by kernel_rfl) (fun _ _ _ h => h) (Or.inl ⟨by rfl, ?_⟩) (by assumption) ?_
        rotate_left 1
        · intro w hSw; (try dsimp only at hSw); go_simp; try (with_reducible rfl)
        try simp only [Act.put, List.setIfInBounds_toArray, List.set_cons_zero, List.set_cons_succ]
        refine wpAnyH_take (i := 9) (v := ?_) rfl (by kernel_rfl) (by kernel_rfl) (by kernel_rfl) (fun _ _ _ h => h) (Or.inl ⟨by rfl, ?_⟩) (by assumption) ?_
        rotate_left 1
        · intro w hSw; (try dsimp only at hSw); go_simp; try (with_reducible rfl)
        try simp only [Act.put, List.setIfInBounds_toArray, List.set_cons_zero, List.set_cons_succ]
        refine wpAnyH_ready (rs := [10]) (by kernel_rfl) (by simp) ?_
        refine AllReadyH.cons rfl (fun K hK => ?_) AllReadyH.nil
        go_simp
        refine (HCx.out _).mono ?_
        rintro e0 w4 ⟨rfl, hb4⟩
        have HB4 := Lib.hid (bel_call HWr.out hb4)
        have HQ := Lib.hid (And.intro (cell_later HB4.out d0) (cell_later HB4.out d3))
        clear hb4 hHeld
        try go_wp2_with fail
        refine hK.out _ _ HQ.out (fun hHeld => ?_)
        clear hK K
        try simp only [Act.put, List.setIfInBounds_toArray, List.set_cons_zero, List.set_cons_succ]
        refine wpAnyH_take (i := 11) (v := ?_) rfl (by kernel_rfl) (by kernel_rfl) (by kernel_rfl) (fun _ _ _ h => h) (Or.inl ⟨by rfl, ?_⟩) (by assumption) ?_
        rotate_left 1
        · intro w hSw; (try dsimp only at hSw); go_simp; try (with_reducible rfl)
        try simp only [Act.put, List.setIfInBounds_toArray, List.set_cons_zero, List.set_cons_succ]
        refine wpAnyH_take (i := 12) (v := ?_) rfl (by kernel_rfl) (by kernel_rfl) (by kernel_rfl) (fun _ _ _ h => h) (Or.inl ⟨by rfl, ?_⟩) (by assumption) ?_
        rotate_left 1
        · intro w hSw; (try dsimp only at hSw); go_simp; try (with_reducible rfl)
        try simp only [Act.put, List.setIfInBounds_toArray, List.set_cons_zero, List.set_cons_succ]
        refine wpAnyH_take (i := 13) (v := undef) rfl (by kernel_rfl) (by kernel_rfl) (by kernel_rfl) (fun _ _ _ h => h) (Or.inr ⟨by rfl, rfl⟩) (by assumption) ?_
        try simp only [Act.put, List.setIfInBounds_toArray, List.set_cons_zero, List.set_cons_succ]
        refine wpAnyH_take (i := 14) (v := undef) rfl (by kernel_rfl) (by kernel_rfl) (by kernel_rfl) (fun _ _ _ h => h) (Or.inr ⟨by rfl, rfl⟩) (by assumption) ?_
        try simp only [Act.put, List.setIfInBounds_toArray, List.set_cons_zero, List.set_cons_succ]
        refine wpAnyH_take (i := 15) (v := undef) rfl (by kernel_rfl) (by kernel_rfl) (by kernel_rfl) (fun _ _ _ h => h) (Or.inr ⟨by rfl, rfl⟩) (by assumption) ?_
        try simp only [Act.put, List.setIfInBounds_toArray, List.set_cons_zero, List.set_cons_succ]
        refine wpAnyH_take (i := 16) (v := ?_) rfl (by kernel_rfl) (by kernel_rfl) (by kernel_rfl) (fun _ _ _ h => h) (Or.inl ⟨by rfl, ?_⟩) (by assumption) ?_
        rotate_left 1
        · intro w hSw; (try dsimp only at hSw); go_simp; try (with_reducible rfl)
        try simp only [Act.put, List.setIfInBounds_toArray, List.set_cons_zero, List.set_cons_succ]
        refine wpAnyH_done (by kernel_rfl) ?_ _
        clear hHeld
        have HK2 := Lib.hid (HK.out.later HB4.out)
        clear HQ d0 d3
        go_wp2_with fail
        go_roundg (l.length - (k + 1))
        case measure => omega
        case rel => exact ⟨k + 1, b, K, e, P, R, by omega, by go_num, hbl, by omega, by omega, HK2, HI, HR⟩
    · have hke : k = l.length := by omega
      obtain ⟨a7, c7, rfl⟩ := HK.out.rb.shape
      obtain ⟨a8, c8, rfl⟩ := row_shape HK.out.rq
      obtain ⟨a9, c9, rfl⟩ := row_shape HK.out.rs
      obtain ⟨a10, c10, rfl⟩ := row_shape HK.out.ra
      simp only [List.length_map] at HK ⊢
      have t1 : ¬ ((k : Int) < l.length) := by omega
      go_wp2_with fail
      go_loopg [14] R.length (fun g v14 wy => ∃ j : Nat, j + g = R.length ∧ v14 = .int .i64 j ∧ Hid (Bkd w wy p bm B0 (.slice a7 b.length c7) (.slice a8 R.length c8) (.slice a9 R.length c9) (.slice a10 R.length c10) b (R.map (·.2.1)) (R.map (·.2.2)) (R.map (·.1)) K e))
      case atStart => exact ⟨0, by omega, rfl, HK⟩
      case round =>
        clear HK
        obtain ⟨j, hj, rfl, HK⟩ := hrel
        by_cases hjl : j < R.length
        · obtain ⟨g8, d8, e8, hc8⟩ := OwnJ.at_ HK.out.rq j (by rw [List.length_map]; exact hjl)
          obtain ⟨g9, d9, e9, hc9⟩ := OwnJ.at_ HK.out.rs j (by rw [List.length_map]; exact hjl)
          obtain ⟨g10, d10, e10, hcA, hcD⟩ := OwnA.at_ HK.out.ra j (by rw [List.length_map]; exact hjl)
          injection e8 with e8 e82 e83
          injection e9 with e9 e92 e93
          injection e10 with e10 e102 e103
          subst e8
          subst e9
          subst e10
          clear e82 e83 e92 e93 e102 e103
          rw [List.getElem_map] at hc8 hc9 hcA hcD
          obtain ⟨⟨L, hL, hLies⟩, h655, hwt, hd3⟩ := HR.out R[j] (List.getElem_mem hjl)
          obtain ⟨⟨⟨t, A, r, d⟩, q, s⟩, hRj⟩ : ∃ x, R[j] = x := ⟨_, rfl⟩
          rw [hRj] at hc8 hc9 hcA hcD hL hLies h655 hwt hd3
          simp only at hc8 hc9 hcA hcD hL hLies h655 hwt hd3
          obtain ⟨hrd, hjn⟩ := lies_rdR hL hLies h655
          have HBl := Lib.hid (show b.length ≤ 300000 by omega)
          have HRd := Lib.hid (fun (wx : World) (hb : Below wr.heap.size wr wx) => readD_any (w := wx) ((HK.out.later hb).rb.sl) (Nat.le_refl _) HBl.out (q : Int) (s : Int) t hwt)
          rw [hrd] at HRd
          have hjn2 : joined (RR.ok L).pcs = d := hjn
          rw [hjn2] at HRd
          replace HRd := Lib.hid (fun (wx : World) (hb : Below wr.heap.size wr wx) => show Calls Try.prog 28 #[.slice a7 b.length c7, .int .i64 (q : Int), .int .i64 (s : Int), .int .i64 t] wx (Tells wx (.tuple #[.string (bs d), .agg #[.int .i64 0, .int .i64 0]])) from HRd.out wx hb)
          have HKc := Lib.hid (fun (wx : World) (hb : Below wr.heap.size wr wx) => show wx.cell? ⟨g8, j, none⟩ = some (.int .i64 (q : Int)) ∧ wx.cell? ⟨g9, j, none⟩ = some (.int .i64 (s : Int)) ∧ wx.cell? ⟨g10, j * 4, none⟩ = some (.int .i64 t) ∧ wx.cell? ⟨g10, j * 4 + 3, none⟩ = some (.string (bs d)) from ⟨cell_later hb hc8, cell_later hb hc9, cell_later hb hcA, cell_later hb hcD⟩)
          have HKB := Lib.hid (fun (wx : World) (hb : Below wr.heap.size wr wx) => HK.out.later hb)
          have ht : ((bs d).toList == (bs d).toList) = true := by simp
          clear hL hLies h655 hd3 hrd hjn hjn2 hRj hwt
          go_wp2_with fail
          go_region_held3 (fun wx => wx.cell? ⟨g8, j, none⟩ = some (.int .i64 (q : Int)) ∧ wx.cell? ⟨g9, j, none⟩ = some (.int .i64 (s : Int)) ∧ wx.cell? ⟨g10, j * 4, none⟩ = some (.int .i64 t) ∧ wx.cell? ⟨g10, j * 4 + 3, none⟩ = some (.string (bs d))) (first | exact HKc.out _ (Below.refl _ wr).drew | exact HKc.out _ (((Below.refl _ wr).drew).alloc (Nat.le_refl _) _) | exact HKc.out _ HBW.out | exact HKc.out _ (bel_alloc HBW.out _) | exact HKc.out _ (bel_set2 HBW.out (Nat.le_refl _) _ _) | exact HKc.out _ (bel_set2 (bel_alloc HBW.out _) HBW.out.size _ _)) (first | (go_at_call 28; refine (HRd.out _ (by first | exact (Below.refl _ wr).drew | exact ((Below.refl _ wr).drew).alloc (Nat.le_refl _) _)).mono ?_; rintro en w2 ⟨rfl, hb2⟩; have HBW : Hid (Below wr.heap.size wr w2) := (by first | exact bel_call (Below.refl _ wr).drew hb2 | exact bel_call (((Below.refl _ wr).drew).alloc (Nat.le_refl _) _) hb2); try (obtain ⟨k0, k1, kf0, kf1⟩ := aft_alloc hb2); clear hb2))
          · have HB3 : Hid (Below wr.heap.size wr (w2.alloc (.cells #[.int .i64 0, .int .i64 0] 51))) := bel_alloc HBW.out _
            have HK2 := Lib.hid (HKB.out _ HB3.out)
            obtain ⟨_, _, _, z3⟩ := HKc.out _ HB3.out
            clear hc8 hc9 hcA hcD HKc HKB
            go_wp2_with fail
            go_roundg (R.length - (j + 1))
            case measure => omega
            case rel => exact ⟨j + 1, by omega, by go_num, HK2⟩
          · have HB3 : Hid (Below wr.heap.size wr ((w2.setCell ⟨wr.heap.size, 0, none⟩ (.int .i64 0)).setCell ⟨wr.heap.size, 1, none⟩ (.int .i64 0))) := bel_set2 HBW.out (Nat.le_refl _) _ _
            have HK2 := Lib.hid (HKB.out _ HB3.out)
            obtain ⟨_, _, _, z3⟩ := HKc.out _ HB3.out
            obtain ⟨q0, q1⟩ := res_set (.int .i64 0) (.int .i64 0) k0 k1
            clear hc8 hc9 hcA hcD HKc HKB
            go_wp2_with fail
            go_roundg (R.length - (j + 1))
            case measure => omega
            case rel => exact ⟨j + 1, by omega, by go_num, HK2⟩
        · go_wp2_with fail
          go_ret
          exact ⟨rfl, HK.out.bel⟩
end Go.Proofs.Ytkiahaodajecfaa

/-
  What was written and its reading: any acts.
-/
namespace Go.Proofs.Ytkiahaodajecfaa
open Go.RowKit Go.Shelf
set_option linter.unusedVariables false
set_option maxRecDepth 100000

theorem back_anyD {v va : Value} {l : List AQ} {bt : List UInt8} {lo hi : Nat} (w : World) (h : Aq w w.heap.size v l) (hs : Sl w lo hi va (iz bt)) (hhi : hi ≤ w.heap.size) :
    Calls Try.prog 5 #[v, va] w (Tells w (.bool true)) := by
  by_cases hc : longQ l = true
  · exact back_longD w h hs (.inl hc)
  · have hc : longQ l = false := by simpa using hc
    by_cases hb : 100 < bt.length
    · exact back_longD w h hs (.inr ⟨hc, hb⟩)
    · exact back_coreD w h hs hhi hc (by omega)
end Go.Proofs.Ytkiahaodajecfaa
