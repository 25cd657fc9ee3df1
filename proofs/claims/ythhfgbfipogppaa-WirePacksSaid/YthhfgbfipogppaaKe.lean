/-
  The document's Read.
-/
import Derived.Test.YthhfgbfipogppaaKd
import Derived.Test.YthhfgbfipogppaaBSame
namespace Go.Proofs.Ythhfgbfipogppaa
open Go.RowKit Go.Shelf
set_option linter.unusedVariables false

theorem bs_app (a b : List UInt8) : bs a ++ bs b = bs (a ++ b) := by
  have e := bs_eta (bs a ++ bs b)
  rw [e, ByteArray.data_append]
  simp [bs]

theorem add_txt (a b : List UInt8) (ha : a.length ≤ 1000000) (hb : b.length ≤ 1000000) (w : World) : (Op.stringOp .add (bs a) (bs b)).run Try.prog w = .ok (.string (bs (a ++ b))) w := by
  rw [run_string_add_sum _ _ _ (by simp; omega)]
  congr 2

theorem str_iz (m : List UInt8) : strOfNums (iz m) = bs m := by
  unfold strOfNums bs iz
  rw [List.map_map]
  congr 2
  conv => rhs; rw [← List.map_id m]
  refine List.map_congr_left fun x _ => ?_
  simp

/-- The bytes from a place to another one, as a slice and as a text. -/
theorem cut_txt {w : World} {lo hi c : Nat} {a : Option Addr} {b : List UInt8} (h : Sl w lo hi (.slice a b.length c) (iz b)) (i k : Nat) (hk : i + k ≤ b.length) (J : Int) (hJ : J = (i : Int) + k) :
    ∃ sv, (∀ wx, (Instr.slice 22 (.slice a b.length c) (some (.int .i64 i)) (some (.int .i64 J)) none).run Try.prog wx = .ok sv wx) ∧ (convert 22 9 sv).run Try.prog w = .ok (.string (bs ((b.drop i).take k))) w := by
  subst hJ
  have e : b.length = (iz b).length := (iz_len b).symm
  rw [e] at h
  obtain ⟨sv, h1, h2⟩ := slice_cut h (p := i) (m := k) (by rw [iz_len]; exact hk)
  rw [iz_len] at h1
  rw [iz_cut] at h2
  refine ⟨sv, h1, ?_⟩
  rw [conv_sl h2, str_iz]

/-- Where the first part ended, as the document's Read keeps it. -/
def nz (x : Nat) : Int := if x = 0 then -1 else x

theorem lex_lt {L p i T : Nat} (hT : T < p) (hi : i ≤ L) : T * (L + 1) + (L - T) < p * (L + 1) + (L - i) := by
  have h := Nat.mul_le_mul_right (L + 1) (show T + 1 ≤ p from hT)
  rw [Nat.add_mul] at h
  generalize T * (L + 1) = x at *
  generalize p * (L + 1) = y at *
  omega

set_option maxRecDepth 100000 in
set_option maxHeartbeats 4000000 in
theorem rread_core {w : World} {lo hi : Nat} {v : Value} {b : List UInt8} (h : Sl w lo hi v (iz b)) (hhi : hi ≤ w.heap.size) (hl : b.length ≤ 1000000) (a : Nat) (ha : a ≤ b.length)
    (n' : List UInt8) (x' : Nat) (e' : Int) (a' : Nat) (hR : rd b a a a 0 [] = (n', x', e', a')) :
    Calls Try.prog 12 #[v, .int .i64 a] w (Tells w (.tuple #[.string (bs n'), .int .i64 x', .agg #[.int .i64 e', .int .i64 a']])) := by
  have hshape := h
  obtain ⟨ad, c, rfl, _⟩ := hshape
  simp only [iz_len] at h
  rw [iz_len]
  have t0 : ¬ b.length < a := by omega
  have HR := Lib.hid hR
  obtain ⟨W, hW⟩ : ∃ W, (w.alloc (.cells #[.int .i64 0, .int .i64 0] 26)).alloc (.cells #[.int .i64 4, .int .i64 b.length] 26) = W := ⟨_, rfl⟩
  have hb0 : Below (w.heap.size + 1) (w.alloc (.cells #[.int .i64 0, .int .i64 0] 26)) W := by rw [← hW]; exact (Below.refl _ _).alloc (by simp) _
  have s0 : W.cell? ⟨w.heap.size + 1, 0, none⟩ = some (.int .i64 4) := by rw [← hW]; simp [go_sem]
  have s1 : W.cell? ⟨w.heap.size + 1, 1, none⟩ = some (.int .i64 b.length) := by rw [← hW]; simp [go_sem]
  have HB := Lib.hid (Rdy.mk hb0)
  obtain ⟨k0, k1, k3⟩ := HB.out.cells
  have HS := Lib.hid (h.below HB.out.old hhi)
  clear hR hb0 h
  go_enter Try.func12, Try.ntmps12
  go_wp2
  clear hW
  go_loopg [8, 9, 10, 11] (a * (b.length + 1) + (b.length - a)) (fun g v8 v9 v10 v11 wr => ∃ (n : List UInt8) (next part i : Nat), v8 = .string (bs n) ∧ v9 = .int .i64 (nz next) ∧ v10 = .int .i64 part ∧ v11 = .int .i64 i ∧ part * (b.length + 1) + (b.length - i) = g ∧ part ≤ b.length ∧ i ≤ b.length ∧ n.length ≤ 254 ∧ Hid (rd b a part i next n = (n', x', e', a')) ∧ Hid (W = wr))
  case atStart => exact ⟨[], 0, a, a, rfl, rfl, rfl, rfl, rfl, ha, ha, by simp, HR.out, rfl⟩
  case round =>
    obtain ⟨n, next, part, i, rfl, rfl, rfl, rfl, hg, hp, hi, hn, HRR, HWr⟩ := hrel
    obtain rfl := HWr.out
    clear HWr
    have stop : ∀ (e : Int) (k : Nat), rd b a part i next n = ([], 0, e, k) → Hid (n' = [] ∧ x' = 0 ∧ e' = e ∧ a' = k) := fun e k hk => by
      have := hk.symm.trans HRR.out
      simp only [Prod.mk.injEq] at this
      exact ⟨this.1.symm, this.2.1.symm, this.2.2.1.symm, this.2.2.2.symm⟩
    have HG := Lib.hid hg
    have HR0 := HR
    clear hg HR
    by_cases hlt : i < b.length
    · obtain ⟨g, off, c', hv, hgh, hc⟩ := HS.out.spot i (by simpa using hlt)
      injection hv with hv1 hv2 hv3
      subst hv1
      clear hv2 hv3
      rw [iz_get b i hlt] at hc
      have hcut := cut_txt HS.out i (1 + b[i].toNat)
      have hx8 : b[i].toNat < 256 := b[i].toNat_lt
      by_cases hz : b[i].toNat = 0
      · obtain ⟨nx, hnx⟩ : ∃ nx, (if next = 0 then i + 1 else next) = nx := ⟨_, rfl⟩
        have he := (rd_zero (a := a) (part := part) (next := next) (n := n) hlt hz).symm.trans HRR.out
        rw [hnx] at he
        have HE := Lib.hid he
        have hap : bs n ++ ⟨#[0]⟩ = bs (n ++ [0]) := bs_app n [0]
        rw [hz] at hc
        clear stop HRR hcut he hz
        by_cases h0 : next = 0
        · have HE1 := Lib.hid (show (nx : Int) = (i : Int) + 1 by rw [← hnx, if_pos h0]; push_cast; rfl)
          have e2 : nz next = -1 := by unfold nz; rw [if_pos h0]
          rw [e2]
          clear hnx e2
          go_wp2_with fail
          obtain ⟨m0, m1⟩ := res_set (.int .i64 0) (.int .i64 0) k0 k1
          exact bodyPost_ret (v := .tuple #[.string (bs (n ++ [0])), .int .i64 ((i : Int) + 1), .agg #[.int .i64 0, .int .i64 0]]) (by simp [results, Try.results12, go_sem, m0, m1]) rfl ⟨by have := HE.out; simp only [Prod.mk.injEq] at this; obtain ⟨rfl, rfl, rfl, rfl⟩ := this; rw [HE1.out]; rfl, HB.out.end_ _ _⟩
        · have HE1 := Lib.hid (show nx = next by rw [← hnx, if_neg h0])
          have e2 : nz next = next := by unfold nz; rw [if_neg h0]
          rw [e2]
          clear hnx e2
          go_wp2_with fail
          obtain ⟨m0, m1⟩ := res_set (.int .i64 0) (.int .i64 0) k0 k1
          exact bodyPost_ret (v := .tuple #[.string (bs (n ++ [0])), .int .i64 next, .agg #[.int .i64 0, .int .i64 0]]) (by simp [results, Try.results12, go_sem, m0, m1]) rfl ⟨by have := HE.out; simp only [Prod.mk.injEq] at this; obtain ⟨rfl, rfl, rfl, rfl⟩ := this; rw [HE1.out]; rfl, HB.out.end_ _ _⟩
      · by_cases hlab : b[i].toNat < 64
        · have tz : (((b[i].toNat : Nat) : Int) == 0) = false := by simp; omega
          have t64 : decide (((b[i].toNat : Nat) : Int) < 64) = true := by simp; omega
          by_cases hsh : b.length < i + (1 + b[i].toNat)
          · have HE := stop 4 b.length (rd_short hlt hz hlab hsh)
            obtain ⟨cc, hcc⟩ : ∃ cc, b[i].toNat = cc := ⟨_, rfl⟩
            rw [hcc] at hc tz t64 hx8 hsh
            have tsh : decide ((b.length : Int) < i + 1 + cc) = true := by simp; omega
            clear hcut stop HRR hz hlab hcc hsh
            go_wp2_with fail
            go_region
            go_wp2_with fail
            obtain ⟨m0, m1⟩ := res_set (.int .i64 4) (.int .i64 b.length) k0 k1
            exact bodyPost_ret (v := .tuple #[.string ⟨#[]⟩, .int .i64 0, .agg #[.int .i64 4, .int .i64 b.length]]) (by simp [results, Try.results12, go_sem, m0, m1]) rfl ⟨by obtain ⟨rfl, rfl, rfl, rfl⟩ := HE.out; rfl, below_drewN (HB.out.end_ _ _) 1⟩
          · obtain ⟨sv, hsl, hcv⟩ := hcut (by omega) ((i : Int) + 1 + b[i].toNat) (by push_cast; omega)
            obtain ⟨m, hm⟩ : ∃ m, (b.drop i).take (1 + b[i].toNat) = m := ⟨_, rfl⟩
            have hml : m.length = 1 + b[i].toNat := by rw [← hm, List.length_take, List.length_drop]; omega
            rw [hm] at hcv
            have hap := add_txt n m (by omega) (by omega)
            obtain ⟨N, hN⟩ : ∃ N, n ++ m = N := ⟨_, rfl⟩
            have hNl : N.length = n.length + (1 + b[i].toNat) := by rw [← hN, List.length_append, hml]
            rw [hN] at hap
            have tsh : decide ((b.length : Int) < i + 1 + b[i].toNat) = false := by simp; omega
            by_cases hlong : 254 < n.length + (1 + b[i].toNat)
            · have HE := stop 3 a (rd_long hlt hz hlab hsh hlong)
              have tlo : decide ((254 : Int) < N.length) = true := by simp; omega
              obtain ⟨cc, hcc⟩ : ∃ cc, b[i].toNat = cc := ⟨_, rfl⟩
              rw [hcc] at hc tz t64 hx8 hsl tsh
              clear hcut stop HRR hz hlab hcc hsh hm hN hml hNl hlong
              go_wp2_with fail
              obtain ⟨m0, m1⟩ := res_set (.int .i64 3) (.int .i64 a) k0 k1
              exact bodyPost_ret (v := .tuple #[.string ⟨#[]⟩, .int .i64 0, .agg #[.int .i64 3, .int .i64 a]]) (by simp [results, Try.results12, go_sem, m0, m1]) rfl ⟨by obtain ⟨rfl, rfl, rfl, rfl⟩ := HE.out; rfl, HB.out.end_ _ _⟩
            · have HRN := Lib.hid ((rd_label (a := a) (part := part) (next := next) (n := n) hlt hz hlab hsh hlong).symm.trans HRR.out)
              rw [hm, hN] at HRN
              have tlo : decide ((254 : Int) < N.length) = false := by simp; omega
              obtain ⟨cc, hcc⟩ : ∃ cc, b[i].toNat = cc := ⟨_, rfl⟩
              rw [hcc] at hc tz t64 hx8 hsl tsh HRN hsh hNl hlong
              have HI := Lib.hid (show (i : Int) + 1 + cc = (i + (1 + cc) : Nat) by push_cast; omega)
              have HL := Lib.hid hNl
              clear hcut stop HRR hz hlab hcc hm hN hml hNl
              go_wp2_with fail
              go_roundg (part * (b.length + 1) + (b.length - (i + (1 + cc))))
              case measure => rw [← HG.out]; omega
              case rel => exact ⟨N, next, part, i + (1 + cc), rfl, rfl, rfl, by rw [HI.out], rfl, hp, by omega, by have := HL.out; omega, HRN, rfl⟩
        · by_cases hmid : b[i].toNat < 192
          · have HE := stop 4 i (rd_mid hlt (by omega) hmid)
            have tz : (((b[i].toNat : Nat) : Int) == 0) = false := by simp; omega
            have t64 : decide (((b[i].toNat : Nat) : Int) < 64) = false := by simp; omega
            have t192 : decide (((b[i].toNat : Nat) : Int) < 192) = true := by simp; omega
            obtain ⟨cc, hcc⟩ : ∃ cc, b[i].toNat = cc := ⟨_, rfl⟩
            rw [hcc] at hc tz t64 hx8 t192
            clear hcut stop HRR hz hlab hcc hmid
            go_wp2_with fail
            obtain ⟨m0, m1⟩ := res_set (.int .i64 4) (.int .i64 i) k0 k1
            exact bodyPost_ret (v := .tuple #[.string ⟨#[]⟩, .int .i64 0, .agg #[.int .i64 4, .int .i64 i]]) (by simp [results, Try.results12, go_sem, m0, m1]) rfl ⟨by obtain ⟨rfl, rfl, rfl, rfl⟩ := HE.out; rfl, HB.out.end_ _ _⟩
          · have tz : (((b[i].toNat : Nat) : Int) == 0) = false := by simp; omega
            have t64 : decide (((b[i].toNat : Nat) : Int) < 64) = false := by simp; omega
            have t192 : decide (((b[i].toNat : Nat) : Int) < 192) = false := by simp; omega
            by_cases hh1 : i + 1 < b.length
            · obtain ⟨g2, off2, c2, hv2, _, hc2⟩ := HS.out.spot (i + 1) (by simpa using hh1)
              injection hv2 with e1 e2 e3
              injection e1 with e1
              injection e1 with e4 e5 e6
              subst e4; subst e5
              clear e2 e3 e6
              rw [iz_get b (i + 1) hh1] at hc2
              have hy8 : b[i + 1].toNat < 256 := b[i + 1].toNat_lt
              have th : decide ((b.length : Int) ≤ i + 1) = false := by simp; omega
              have hT0 : 256 * (((b[i].toNat : Nat) : Int) - 192) + ((b[i + 1].toNat : Nat) : Int) = (ptr b[i] b[i + 1] : Nat) := by unfold ptr; omega
              by_cases hpt : part ≤ ptr b[i] b[i + 1]
              · have HE := stop 150 i (rd_back hlt (by omega) hh1 hpt)
                obtain ⟨T, hT⟩ : ∃ T, ptr b[i] b[i + 1] = T := ⟨_, rfl⟩
                obtain ⟨cc, hcc⟩ : ∃ cc, b[i].toNat = cc := ⟨_, rfl⟩
                obtain ⟨yy, hyy⟩ : ∃ yy, b[i + 1].toNat = yy := ⟨_, rfl⟩
                rw [hcc] at hc tz t64 hx8 t192 hT0
                rw [hyy] at hc2 hy8 hT0
                rw [hT] at hpt hT0
                have hcl : 192 ≤ cc := by omega
                have tp : decide ((part : Int) ≤ T) = true := by simp; omega
                clear hcut stop HRR hz hlab hcc hyy hmid hT
                go_wp2_with fail
                obtain ⟨m0, m1⟩ := res_set (.int .i64 150) (.int .i64 i) k0 k1
                exact bodyPost_ret (v := .tuple #[.string ⟨#[]⟩, .int .i64 0, .agg #[.int .i64 150, .int .i64 i]]) (by simp [results, Try.results12, go_sem, m0, m1]) rfl ⟨by obtain ⟨rfl, rfl, rfl, rfl⟩ := HE.out; rfl, HB.out.end_ _ _⟩
              · have HN := (rd_go (a := a) (next := next) (n := n) hlt (by omega) hh1 hpt).symm.trans HRR.out
                obtain ⟨nx, hnx⟩ : ∃ nx, (if next = 0 then i + 2 else next) = nx := ⟨_, rfl⟩
                rw [hnx] at HN
                obtain ⟨T, hT⟩ : ∃ T, ptr b[i] b[i + 1] = T := ⟨_, rfl⟩
                rw [hT] at HN
                have HRN := Lib.hid HN
                obtain ⟨cc, hcc⟩ : ∃ cc, b[i].toNat = cc := ⟨_, rfl⟩
                obtain ⟨yy, hyy⟩ : ∃ yy, b[i + 1].toNat = yy := ⟨_, rfl⟩
                rw [hcc] at hc tz t64 hx8 t192 hT0
                rw [hyy] at hc2 hy8 hT0
                rw [hT] at hpt hT0
                have hcl : 192 ≤ cc := by omega
                have tp : decide ((part : Int) ≤ T) = false := by simp; omega
                have HM := Lib.hid (lex_lt (L := b.length) (p := part) (i := i) (T := T) (by omega) hi)
                by_cases h0 : next = 0
                · have HE1 := Lib.hid (show (i : Int) + 2 = nz nx by rw [← hnx, if_pos h0]; unfold nz; rw [if_neg (by omega)]; push_cast; rfl)
                  have e2 : nz next = -1 := by unfold nz; rw [if_pos h0]
                  rw [e2]
                  clear hcut stop HRR hz hlab hcc hyy hmid hT hnx HN e2
                  go_wp2_with fail
                  go_roundg (T * (b.length + 1) + (b.length - T))
                  case measure => rw [← HG.out]; exact HM.out
                  case rel => exact ⟨n, nx, T, T, rfl, by rw [← HE1.out], rfl, rfl, rfl, by omega, by omega, hn, HRN, rfl⟩
                · have HE1 := Lib.hid (show (next : Int) = nz nx by rw [← hnx, if_neg h0]; unfold nz; rw [if_neg h0])
                  have e2 : nz next = next := by unfold nz; rw [if_neg h0]
                  rw [e2]
                  clear hcut stop HRR hz hlab hcc hyy hmid hT hnx HN e2
                  go_wp2_with fail
                  go_roundg (T * (b.length + 1) + (b.length - T))
                  case measure => rw [← HG.out]; exact HM.out
                  case rel => exact ⟨n, nx, T, T, rfl, by rw [← HE1.out], rfl, rfl, rfl, by omega, by omega, hn, HRN, rfl⟩
            · have HE := stop 4 b.length (rd_half hlt (by omega) (by omega))
              have th : decide ((b.length : Int) ≤ i + 1) = true := by simp; omega
              obtain ⟨cc, hcc⟩ : ∃ cc, b[i].toNat = cc := ⟨_, rfl⟩
              rw [hcc] at hc tz t64 hx8 t192
              clear hcut stop HRR hz hlab hcc hmid
              go_wp2_with fail
              go_region
              go_wp2_with fail
              obtain ⟨m0, m1⟩ := res_set (.int .i64 4) (.int .i64 b.length) k0 k1
              exact bodyPost_ret (v := .tuple #[.string ⟨#[]⟩, .int .i64 0, .agg #[.int .i64 4, .int .i64 b.length]]) (by simp [results, Try.results12, go_sem, m0, m1]) rfl ⟨by obtain ⟨rfl, rfl, rfl, rfl⟩ := HE.out; rfl, below_drewN (HB.out.end_ _ _) 1⟩
    · have HE := stop 4 b.length (rd_end (by omega))
      have tl : decide ((b.length : Int) ≤ i) = true := by simp; omega
      clear stop HRR
      go_wp2_with fail
      go_region
      go_wp2_with fail
      obtain ⟨m0, m1⟩ := res_set (.int .i64 4) (.int .i64 b.length) k0 k1
      exact bodyPost_ret (v := .tuple #[.string ⟨#[]⟩, .int .i64 0, .agg #[.int .i64 4, .int .i64 b.length]]) (by simp [results, Try.results12, go_sem, m0, m1]) rfl ⟨by obtain ⟨rfl, rfl, rfl, rfl⟩ := HE.out; rfl, below_drewN (HB.out.end_ _ _) 1⟩

set_option maxRecDepth 100000 in
set_option maxHeartbeats 1000000 in
theorem rread_any {w : World} {lo hi : Nat} {v : Value} {b : List UInt8} (h : Sl w lo hi v (iz b)) (hhi : hi ≤ w.heap.size) (hl : b.length ≤ 1000000) (a : Int) :
    Calls Try.prog 12 #[v, .int .i64 a] w (Tells w (gotV (rda b a))) := by
  by_cases ha : a < 0 ∨ (b.length : Int) < a
  · have e : rda b a = ([], 0, 5, 0) := by unfold rda; rw [if_pos ha]
    rw [e]
    obtain ⟨ad, c, rfl, _⟩ := h
    rw [iz_len]
    go_enter Try.func12, Try.ntmps12
    go_wp2
    all_goals
      exact bodyPost_ret (v := .tuple #[.string ⟨#[]⟩, .int .i64 0, .agg #[.int .i64 5, .int .i64 0]]) (by simp [results, Try.results12, go_sem]) rfl ⟨rfl, (Below.refl _ _).alloc (Nat.le_refl _) _⟩
  · obtain ⟨p, rfl⟩ : ∃ p : Nat, a = p := ⟨a.toNat, by omega⟩
    have e : rda b p = rd b p p p 0 [] := by unfold rda; rw [if_neg ha, Int.toNat_natCast]
    rw [e]
    exact rread_core h hhi hl p (by omega) _ _ _ _ rfl
end Go.Proofs.Ythhfgbfipogppaa
