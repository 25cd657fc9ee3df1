/-
  Name: the bytes of a name that is to stand at a place.
-/
import Derived.Test.YtaikpgcmcmkdcaaKn
import Derived.Deep.RegionLaw
import Derived.Outline
namespace Go.Proofs.Ytaikpgcmcmkdcaa
open Go.RowKit Go.Shelf
set_option linter.unusedVariables false
set_option maxRecDepth 100000

/-- An append of bytes, as one step of a region that draws its order. -/
theorem step_appB {ops : Array Oper} {o : Oper} {a : Act} {w : World} {K : Act → World → Prop} {Q : Exit → Act → World → Prop} {E : Prop} (hgd : o.guard = none) (s x : Operand)
    (ho : o.op = .call { callee := .builtin .append, args := #[s, x], argTypes := #[43, 43] }) (hty : o.type = 43)
    (B : Nat) (v xv : Value) (l l' : List UInt8) {lo hi : Nat} (hs : a.eval s = v) (hx : a.eval x = xv) (hown : OwnB w B v l) (hsl : Sl w lo hi xv (iz l')) (h0 : 0 < l'.length) (hb : l.length + l'.length ≤ 1000000) (hB : B ≤ w.heap.size)
    (h : ∀ a' c' w', OwnB w' B (.slice a' (l.length + l'.length) c') (l ++ l') → Below B w w' → K (a.put o.dst (.slice a' (l.length + l'.length) c')) w') :
    if Region.wanted o (yielded ops a.tmps) = true then Oper.wp Try.prog o a w K Q else E := by
  rw [if_pos (by simp [Region.wanted, hgd])]
  obtain ⟨v', w', h1, h2, h3, _⟩ := run_appB B v xv l l' hown hsl h0 hb hB
  obtain ⟨a', c', hv⟩ := h2.shape
  rw [List.length_append] at hv
  subst hv
  unfold Oper.wp
  simp [execOp, ho, hty, resolve, invoke, builtin, hs, hx, h1, Result.andThen]
  exact h _ _ _ h2 ((Below.refl _ _).grown h3 hB fun k hk => (hown.lt k hk).1)

theorem to_run (n : List UInt8) (i : Nat) (h : i ≤ n.length) (w : World) : (Instr.slice 9 (.string (bs n)) none (some (.int .i64 i)) none).run Try.prog w = .ok (.string (bs (n.take i))) w := by
  rw [run_slice_string_to_if w 9 _ _ _ Try.underlying9, if_pos (by simp; omega), bs_extract]
  simp

/-- What a packer answers, and what it knows then. -/
def nameB (K : List (List UInt8 × Nat)) (e : Nat) (a : Int) (n : List UInt8) : List UInt8 := if pkE e a n = 0 then told K (labs n) else []
def nameK (K : List (List UInt8 × Nat)) (e : Nat) (a : Int) (n : List UInt8) : List (List UInt8 × Nat) := if pkE e a n = 0 then K ++ fr a.toNat (labs n) (hdn K (labs n)) else K
def nameE (K : List (List UInt8 × Nat)) (e : Nat) (a : Int) (n : List UInt8) : Nat := if pkE e a n = 0 then a.toNat + (told K (labs n)).length else e

def NamePost (w : World) (p bm : Nat) (K : List (List UInt8 × Nat)) (e : Nat) (a : Int) (n : List UInt8) (x : Ending) (w' : World) : Prop :=
  ∃ v, x = .returned (.tuple #[v, .int .i64 (pkE e a n)]) ∧ OwnB w' w.heap.size v (nameB K e a n) ∧ Pk w' p bm (nameK K e a n) (nameE K e a n) ∧ Aside (fun b => b = p ∨ b = bm) w w'

theorem name_bad {w wx : World} {p bm e : Nat} {K : List (List UInt8 × Nat)} (h : Pk w p bm K e) (hb : Below w.heap.size w wx) {a : Int} {n : List UInt8} {c : Int} (hc : pkE e a n = c) (h0 : c ≠ 0) :
    NamePost w p bm K e a n (.returned (.tuple #[.slice none 0 0, .int .i64 c])) wx := by
  subst hc
  unfold NamePost nameB nameK nameE
  rw [if_neg h0, if_neg h0, if_neg h0]
  exact ⟨_, rfl, OwnB.nil _ _, h.later hb, Aside.of_all hb⟩

theorem name_fine {w w5 w6 : World} {p bm e q : Nat} {K K' : List (List UInt8 × Nat)} {n P0 R0 : List UInt8} {v : Value} (hP : Pk w p bm K e) (hE : pkE e q n = 0)
    (hF : nameB K e q n = P0 ++ R0 ∧ nameK K e q n = K' ∧ nameE K e q n = q + (P0 ++ R0).length) (ho : OwnB w5 w.heap.size v (P0 ++ R0)) (hb : Below w.heap.size w w5) (hpk : Pk w6 p bm K' e) (has : Aside (fun b => b = bm) w5 w6) :
    NamePost w p bm K e q n (.returned (.tuple #[v, .int .i64 0])) (w6.setCell ⟨p, 2, none⟩ (.int .i64 ((q : Int) + ((P0.length : Int) + R0.length)))) := by
  have hlt := ho.lt
  have hset : Aside (fun b => b = p) w6 (w6.setCell ⟨p, 2, none⟩ (.int .i64 ((q : Int) + ((P0.length : Int) + R0.length)))) := Aside.setCell _ _ rfl
  refine ⟨v, by rw [hE], ?_, ?_, ?_⟩
  · rw [hF.1]
    refine (ho.aside has fun b hv e => ?_).aside hset fun b hv e => ?_
    · have := hlt b hv; have := hP.map.lt; omega
    · have := hlt b hv; have := hP.lt; omega
  · rw [hF.2.1, hF.2.2, List.length_append]
    have h1 : (w6.setCell ⟨p, 2, none⟩ (.int .i64 ((q : Int) + ((P0.length : Int) + R0.length)))).cell? ⟨p, 2, none⟩ = some (.int .i64 ((q : Int) + ((P0.length : Int) + R0.length))) := World.cell?_setCell_same _ _ _ hpk.fin
    refine ⟨?_, ?_, by rw [h1]; push_cast; rfl, fun j => by rw [World.frozen?_setCell]; exact hpk.free j, hpk.ne, hpk.map.aside hset (fun e => hpk.ne e.symm)⟩
    · rw [World.cell?_setCell_other _ _ _ _ (by simp)]; exact hpk.self
    · rw [World.cell?_setCell_other _ _ _ _ (by simp)]; exact hpk.tails
  · exact ((Aside.of_all hb).trans (has.mono fun _ _ h => .inr h)).trans (hset.mono fun _ _ h => .inl h)

set_option maxRecDepth 100000 in
set_option maxHeartbeats 4000000 in
theorem name_any {w : World} {p bm e : Nat} {K : List (List UInt8 × Nat)} (h : Pk w p bm K e) (hG : GoodK K) (hK : K.length ≤ 900000) (he : e ≤ 1000000) (a : Int) (n : List UInt8) (hn : n.length ≤ 1000) :
    Calls Try.prog 37 #[.pointer (some ⟨p, 0, none⟩), .int .i64 a, .string (bs n)] w (NamePost w p bm K e a n) := by
  have HM := Lib.hid (made_yes p w h.self)
  have HC := Lib.hid (check_any n (by omega) w)
  have HP := Lib.hid h
  have BAD := Lib.hid (fun wx hb c hc h0 => name_bad (wx := wx) h hb (a := a) (n := n) (c := c) hc h0)
  by_cases hc : chk n = 0
  · rw [hc] at HC
    obtain ⟨hs, hnm⟩ := shorts_of hc
    replace hnm : n = nm (labs n) := hnm
    by_cases hr : a < 0 ∨ 65535 < a
    · have HE := Lib.hid (show pkE e a n = 2 by unfold pkE; rw [if_neg (fun h => h hc), if_pos hr])
      have hor : decide (a < 0) = true ∨ (decide (a < 0) = false ∧ decide ((65535 : Int) < a) = true) := by
        by_cases h : a < 0
        · exact .inl (by simpa using h)
        · exact .inr ⟨by simpa using h, by simpa using hr.resolve_left h⟩
      clear hr hnm hc h hs
      rcases hor with t1 | ⟨t1, t2⟩
      all_goals
        go_enter Try.func37, Try.ntmps37
        go_wp2_with fail
        refine HM.out.mono ?_; rintro e0 w1 ⟨rfl, rfl⟩
        go_wp2_with fail
        refine HC.out.mono ?_; rintro e0 w1 ⟨rfl, hb⟩
        have HB := Lib.hid hb
        clear hb
        go_wp2_with fail
        go_ret2
        exact BAD.out _ HB.out 2 HE.out (by decide)
    · by_cases hst : a < e
      · have HE := Lib.hid (show pkE e a n = 9 by unfold pkE; rw [if_neg (fun h => h hc), if_neg hr, if_pos hst])
        have t1 : decide (a < 0) = false := by simp; omega
        have t2 : decide ((65535 : Int) < a) = false := by simp; omega
        have t3 : decide (a < (e : Int)) = true := by simpa using hst
        clear hr hnm hc h hs hst
        go_enter Try.func37, Try.ntmps37
        go_wp2_with fail
        refine HM.out.mono ?_; rintro e0 w1 ⟨rfl, rfl⟩
        go_wp2_with fail
        refine HC.out.mono ?_; rintro e0 w1 ⟨rfl, hb⟩
        have HB := Lib.hid hb
        have c2 := (HP.out.later hb).fin
        clear hb
        go_wp2_with fail
        go_ret2
        exact BAD.out _ HB.out 9 HE.out (by decide)
      · have hE : pkE e a n = 0 := by unfold pkE; rw [if_neg (fun h => h hc), if_neg hr, if_neg hst]
        obtain ⟨q, rfl⟩ : ∃ q : Nat, a = q := ⟨a.toNat, by omega⟩
        obtain ⟨ls, hls⟩ : ∃ ls, labs n = ls := ⟨_, rfl⟩
        have HF := Lib.hid (show nameB K e q n = told K ls ∧ nameK K e q n = K ++ fr q ls (hdn K ls) ∧ nameE K e q n = q + (told K ls).length by
          unfold nameB nameK nameE
          rw [if_pos hE, if_pos hE, if_pos hE, hls]
          exact ⟨rfl, rfl, rfl⟩)
        have HE := Lib.hid hE
        rw [hls] at hs hnm
        subst hnm
        have hhl := hdn_le K ls
        have hnl : (nm ls).length ≤ 255 := by rw [nm_len]; have := hs.2; omega
        have hpl := pos_le ls (hdn K ls)
        have hple : pos ls (hdn K ls) ≤ (nm ls).length := by rw [nm_len]; omega
        have hlo := to_run (nm ls) (pos ls (hdn K ls)) hple
        have hfr := from_run (nm ls) (pos ls (hdn K ls)) hple
        rw [nm_take] at hlo
        rw [nm_drop] at hfr
        have HAh := Lib.hid (fun wx (hp : Pk wx p bm K e) => ahead_any hp hs)
        have HRe := Lib.hid (fun wx (hp : Pk wx p bm K e) => rest_any hp hG (nm (ls.drop (hdn K ls))) (by rw [← nm_drop, List.length_drop]; omega))
        have HLe := Lib.hid (fun wx (hp : Pk wx p bm K e) => learn_any hp hs q (by omega) (hdn K ls) (Nat.le_refl _) hK)
        have hP0 : (wire (ls.take (hdn K ls))).length ≤ 1000 := by show pos ls (hdn K ls) ≤ 1000; omega
        have hR0 : 0 < (restb K (nm (ls.drop (hdn K ls)))).length := restb_pos (by rw [nm_len]; omega)
        have hR1 : (restb K (nm (ls.drop (hdn K ls)))).length ≤ 1000 := by
          have := restb_len K (nm (ls.drop (hdn K ls)))
          rw [← nm_drop, List.length_drop] at this
          rw [← nm_drop]
          omega
        have htl : (told K ls).length = (wire (ls.take (hdn K ls))).length + (restb K (nm (ls.drop (hdn K ls)))).length := by unfold told; rw [List.length_append]
        have htd : told K ls = wire (ls.take (hdn K ls)) ++ restb K (nm (ls.drop (hdn K ls))) := rfl
        obtain ⟨z, hz⟩ : ∃ z, pos ls (hdn K ls) = z := ⟨_, rfl⟩
        rw [hz] at hlo hfr HAh HLe
        obtain ⟨P0, hP⟩ : ∃ P0, wire (ls.take (hdn K ls)) = P0 := ⟨_, rfl⟩
        rw [hP] at hlo hP0 htl htd
        obtain ⟨T, hT⟩ : ∃ T, nm (ls.drop (hdn K ls)) = T := ⟨_, rfl⟩
        rw [hT] at hfr HRe hR0 hR1 htl htd
        obtain ⟨R0, hR⟩ : ∃ R0, restb K T = R0 := ⟨_, rfl⟩
        rw [hR] at HRe hR0 hR1 htl htd
        obtain ⟨M, hM⟩ : ∃ M, nm ls = M := ⟨_, rfl⟩
        have HFM := Lib.hid hM
        have t1 : decide ((q : Int) < 0) = false := by simp
        have t2 : ¬ 65535 < q := by omega
        have t3 : ¬ q < e := by omega
        have HTL := Lib.hid htl
        have HTD := Lib.hid htd
        have HG1 := Lib.hid hR0
        clear BAD hE hls hs hhl hnl hpl hple hc hr hst h hz hP hT hR hM htl htd hR0
        go_enter Try.func37, Try.ntmps37
        go_wp2_with fail
        refine HM.out.mono ?_; rintro e0 w1 ⟨rfl, rfl⟩
        go_wp2_with fail
        refine HC.out.mono ?_; rintro e0 w1 ⟨rfl, hb⟩
        have HP1 := Lib.hid (HP.out.later hb)
        have HB1 := Lib.hid hb
        have c2 := HP1.out.fin
        clear hb
        go_wp2_with fail
        refine (HAh.out _ HP1.out).mono ?_; rintro e0 w2 ⟨rfl, hb⟩
        have HP2 := Lib.hid (HP1.out.later hb)
        have HB2 := Lib.hid (bel_call HB1.out hb)
        clear hb c2
        go_wp2_with fail
        have HD := Lib.hid (show Below w.heap.size w w2.drew from HB2.out.drew)
        have HPD := Lib.hid (show Pk w2.drew p bm K e from HP2.out.later (Below.refl _ w2).drew)
        obtain ⟨cap, W, hcv, ho1, hb1, hl1⟩ := conv_B w2.drew P0 (by omega)
        have HO1 := Lib.hid ho1
        have HW := Lib.hid (bel_call HD.out hb1)
        have HPW := Lib.hid (HPD.out.later hb1)
        clear ho1 hb1 hl1
        go_region_law (first | (refine step_appB rfl (.tmp 37) (.tmp 42) rfl rfl w.heap.size _ _ P0 R0 rfl rfl HAA.out HAX.out HG1.out (by omega) HAB.out.size ?_; intro a5 c5 w5 ho5 hb5; have HO5 := Lib.hid ho5; have HB5 := Lib.hid (HAB.out.trans hb5); clear ho5 hb5) | (go_simp; go_at_call 61; refine (HRe.out _ (by first | exact HPW.out | exact HPD.out)).mono ?_; rintro e0 w3 ⟨xv, rfl, ho, hb⟩; first | (have HAB := Lib.hid (bel_call HW.out hb); have HAA := Lib.hid ((HO1.out.below hb).mono HB2.out.size); have HAX := Lib.hid ho.sl; clear ho hb) | (have HAB0 := bel_call HD.out hb; obtain ⟨cap2, W2, hcv2, ho2, hb2, _⟩ := conv_B w3 P0 (by omega); have HAB := Lib.hid (bel_call HAB0 hb2); have HAA := Lib.hid (ho2.mono HAB0.size); have HAX := Lib.hid (ho.below hb2).sl; clear ho hb ho2 hb2 HAB0)))
        all_goals
          go_wp2_with fail
          refine (HLe.out _ (HP.out.later HB5.out)).mono ?_; rintro e0 w6 ⟨rfl, hpk, has⟩
          have FIN := Lib.hid (name_fine HP.out HE.out (HTD.out ▸ HF.out) HO5.out HB5.out hpk has)
          have c2 := hpk.fin
          have f2 := hpk.free
          clear hpk has
          go_wp2_with fail
          go_ret2
          have := FIN.out
          simpa using this
  · have hE : pkE e a n = chk n := by unfold pkE; rw [if_pos hc]
    obtain ⟨c, hcn⟩ : ∃ c, chk n = c := ⟨_, rfl⟩
    rw [hcn] at HC hE hc
    have HE := Lib.hid hE
    have tc : (c != 0) = true := by simpa using hc
    clear hE hcn h
    go_enter Try.func37, Try.ntmps37
    go_wp2_with fail
    refine HM.out.mono ?_; rintro e0 w1 ⟨rfl, rfl⟩
    go_wp2_with fail
    refine HC.out.mono ?_; rintro e0 w1 ⟨rfl, hb⟩
    have HB := Lib.hid hb
    clear hb
    go_wp2_with fail
    go_ret2
    exact BAD.out _ HB.out c HE.out hc
end Go.Proofs.Ytaikpgcmcmkdcaa
