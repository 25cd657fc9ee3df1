/-
  The lines of fields are read.
-/
import Derived.Test.YtknfgcmidpgifaaGreatDoorZ05
import Derived.Laws.MakeOwn
import Derived.Deep.RegionHeld3
namespace Go.Proofs.YtknfgcmidpgifaaGreatDoor
open Go.RowKit Go.Shelf
set_option linter.unusedVariables false
set_option linter.unusedSimpArgs false
set_option maxRecDepth 100000

theorem cutc_any {w : World} (l : List UInt8) (hE : Env w) (hl : l.length ≤ 1000000) : Calls Tryz.prog 85 #[.string (bs l), .string ⟨#[58]⟩] w (Tells w (.tuple #[.string (bs (ahd l)), .string (bs (bhd l)), .bool (l.contains 58)])) := by
  obtain ⟨m, hm⟩ := hE.mx
  refine (Tryz.strings_Cut (bs l) ⟨#[58]⟩ m w (by rw [bs_size]; omega) hm).mono ?_
  rintro e w' ⟨rfl, n, rfl⟩
  have e : Lib.cut (bs l).data.toList (⟨#[58]⟩ : ByteArray).data.toList = (ahd l, bhd l, l.contains 58) := cut_colon l
  rw [e]
  exact ⟨rfl, below_drewN (Below.refl _ _) n⟩
theorem ahd_len (l : List UInt8) : (ahd l).length ≤ l.length := by unfold ahd; exact (List.takeWhile_sublist _).length_le
theorem bhd_len (l : List UInt8) : (bhd l).length ≤ l.length := by
  unfold bhd
  rw [List.length_drop]
  have := (List.dropWhile_sublist (l := l) (· != 58)).length_le
  omega
def FldPost (w : World) (L : List (List UInt8)) (e : Ending) (w' : World) : Prop := ∃ v, e = .returned (.tuple #[v, .int .i64 (fldsA [] L).2]) ∧ OwnF w' w.heap.size v (fldsA [] L).1 ∧ Below w.heap.size w w'
theorem OwnF.nil (w : World) (B : Nat) : OwnF w B (.slice none 0 0) [] := World.ownsRow_nil _ _ _ _
section
variable {w w' : World} {B k n : Nat} {e : TypeId} {v : Value} {xs : List Value}
theorem row_aside {G : Nat → Prop} (h : w.ownsRow B e k v n xs) (ha : Aside G w w') (hG : ∀ b, v.ownBlock = some b → ¬ G b) : w'.ownsRow B e k v n xs := by
  have hlt := World.ownsRow.lt h
  refine ⟨h.1, ?_⟩
  rcases h.2 with h2 | ⟨g, cap, cur, hv, hg, hh, r⟩
  · exact .inl h2
  · exact .inr ⟨g, cap, cur, hv, hg, (ha.block g (by subst hv; exact (hlt g rfl).2) (hG g (by rw [hv]; rfl))).trans hh, r⟩
theorem row_below (h : w.ownsRow B e k v n xs) (hb : Below w.heap.size w w') : w'.ownsRow B e k v n xs := row_aside (G := fun _ => False) h (Aside.of_all hb) fun _ _ h => h
theorem row_base {B' : Nat} (h : w.ownsRow B e k v n xs) (hB : B' ≤ B) : w.ownsRow B' e k v n xs := by
  refine ⟨h.1, ?_⟩
  rcases h.2 with h2 | ⟨g, cap, cur, h2⟩
  · exact .inl h2
  · exact .inr ⟨g, cap, cur, h2.1, Nat.le_trans hB h2.2.1, h2.2.2⟩
end
theorem OwnF.below {w w' : World} {B : Nat} {v : Value} {l : List Fd} (h : OwnF w B v l) (hb : Below w.heap.size w w') : OwnF w' B v l := row_below h hb
theorem OwnF.shape {w : World} {B : Nat} {v : Value} {l : List Fd} (h : OwnF w B v l) : ∃ a c, v = .slice a l.length c := row_shape h

theorem fldsA_stop {acc : List Fd} {l : List UInt8} {r : List (List UInt8)} (h : acc.length = 32) : fldsA acc (l :: r) = ([], 431) := by rw [fldsA, if_pos h]
theorem fldsA_bad {acc : List Fd} {l : List UInt8} {r : List (List UInt8)} (h : acc.length ≠ 32) (hb : badF l = true) : fldsA acc (l :: r) = ([], 400) := by rw [fldsA, if_neg h, if_pos hb]
theorem fldsA_go {acc : List Fd} {l : List UInt8} {r : List (List UInt8)} (h : acc.length ≠ 32) (hb : badF l = false) : fldsA acc (l :: r) = fldsA (acc ++ [(ahd l, trimB (bhd l))]) r := by rw [fldsA, if_neg h, if_neg (by rw [hb]; simp)]

set_option maxHeartbeats 8000000 in
theorem fields_any {w : World} {lo hi c : Nat} {a : Option Addr} (L : List (List UInt8)) (g : Nat) (hs : St w lo hi (.slice a L.length c) L) (hhi : hi ≤ w.heap.size) (hp : Pl w g) (hE : Env w) (hL : L.length ≤ 100000) (hl : ∀ x ∈ L, x.length ≤ 1000000) :
    Calls Tryz.prog 62 #[.pointer (some ⟨g, 0, none⟩), .slice a L.length c] w (FldPost w L) := by
  obtain ⟨R, hR⟩ : ∃ R, fldsA [] L = R := ⟨_, rfl⟩
  unfold FldPost
  rw [hR]
  have HR := Lib.hid hR
  have HE := Lib.hid hE
  have HP := Lib.hid hp
  have HS := Lib.hid (st_at hs)
  have HLL := Lib.hid hl
  have HH := Lib.hid hhi
  have HB := Lib.hid (Below.refl w.heap.size w)
  clear hR hE hp hs hl hhi
  go_enter Tryz.func62, Tryz.ntmps62
  go_wp2_with fail
  go_loopg [6, 15] L.length (fun n v6 v15 wr => ∃ (k : Nat) (acc : List Fd), k + n = L.length ∧ v15 = .int .i64 k ∧ acc.length ≤ 32 ∧ Hid (OwnF wr w.heap.size v6 acc) ∧ Hid (fldsA acc (L.drop k) = R) ∧ Hid (Below w.heap.size w wr))
  case atStart => exact ⟨0, [], by omega, rfl, by simp, OwnF.nil _ _, HR, HB⟩
  case round =>
    clear HR HB
    obtain ⟨k, acc, hk, rfl, hacc, HO, HF, HB⟩ := hrel
    obtain ⟨a6, c6, rfl⟩ := HO.out.shape
    by_cases hlt : k < L.length
    · obtain ⟨b, off, rfl, _, hb, hc⟩ := HS.out (by omega)
      have p0 := (HB.out.cell (p := ⟨b, off + k, none⟩) (by have := HH.out; show b < w.heap.size; omega)).trans (hc k hlt)
      have hdr : L.drop k = L[k] :: L.drop (k + 1) := List.drop_eq_getElem_cons hlt
      have hxl := HLL.out L[k] (List.getElem_mem hlt)
      have hF := HF.out
      rw [hdr] at hF
      obtain ⟨x, hx⟩ : ∃ x, L[k] = x := ⟨_, rfl⟩
      rw [hx] at p0 hF hxl
      replace HF := Lib.hid hF
      clear hc hx hdr hF
      by_cases h32 : acc.length = 32
      · have HRR := Lib.hid (show ([], 431) = R by rw [← HF.out, fldsA_stop h32])
        have t1 : ((acc.length : Int) == 32) = true := by rw [h32]; rfl
        clear HF
        go_wp2_with fail
        go_ret2
        exact ⟨.slice none 0 0, by rw [← HRR.out]; rfl, by rw [← HRR.out]; exact OwnF.nil _ _, HB.out⟩
      · have t1 : ((acc.length : Int) == 32) = false := by rw [beq_eq_false_iff_ne]; omega
        have H32 := Lib.hid h32
        have HC := Lib.hid (cutc_any x (HE.out.later HB.out) hxl)
        have HBA := Lib.hid (fun w => bare_any (bhd x) (by have := bhd_len x; omega) w)
        have HNA := Lib.hid (fun w hp => name_any (ahd x) g (by have := ahd_len x; omega) w hp)
        have HVA := Lib.hid (fun w hp => value_any (trimB (bhd x)) g (by have := bhd_len x; have := trimB_len (bhd x); omega) w hp)
        have HBF := Lib.hid (show badF x = (!(x.contains 58) || (!(wordL (ahd x) 64) || !(valL (trimB (bhd x))))) from rfl)
        obtain ⟨K1, hK1⟩ : ∃ K, x.contains 58 = K := ⟨_, rfl⟩
        obtain ⟨K2, hK2⟩ : ∃ K, wordL (ahd x) 64 = K := ⟨_, rfl⟩
        obtain ⟨K3, hK3⟩ : ∃ K, valL (trimB (bhd x)) = K := ⟨_, rfl⟩
        rw [hK1] at HC HBF
        rw [hK2] at HBF
        rw [hK3] at HBF
        simp only [hK2] at HNA
        simp only [hK3] at HVA
        clear hK1 hK2 hK3 h32 hxl
        go_wp2_with fail
        refine (HC.out).mono ?_; rintro e w2 ⟨rfl, hb2⟩
        have HB2 := Lib.hid (bel_call HB.out hb2)
        have HO2 := Lib.hid (HO.out.below hb2)
        clear hb2 HO
        go_wp2_with fail
        refine (HBA.out _).mono ?_; rintro e w3 ⟨rfl, hb3⟩
        have HB3 := Lib.hid (bel_call HB2.out hb3)
        have HO3 := Lib.hid (HO2.out.below hb3)
        clear hb3 HO2
        cases K1 with
        | false =>
          have HRR := Lib.hid (show ([], 400) = R by rw [← HF.out, fldsA_bad H32.out (by rw [HBF.out]; rfl)])
          clear HF
          go_wp2_with fail
          go_ret2
          exact ⟨.slice none 0 0, by rw [← HRR.out]; rfl, by rw [← HRR.out]; exact OwnF.nil _ _, HB3.out⟩
        | true =>
          cases K2 with
          | false =>
            have HRR := Lib.hid (show ([], 400) = R by rw [← HF.out, fldsA_bad H32.out (by rw [HBF.out]; rfl)])
            clear HF
            go_wp2_with fail
            refine (HNA.out _ (HP.out.later HB3.out)).mono ?_; rintro e w4 ⟨rfl, hb4⟩
            have HB4 := Lib.hid (bel_call HB3.out hb4)
            clear hb4
            go_wp2_with fail
            go_ret2
            exact ⟨.slice none 0 0, by rw [← HRR.out]; rfl, by rw [← HRR.out]; exact OwnF.nil _ _, HB4.out⟩
          | true =>
            cases K3 with
            | false =>
              have HRR := Lib.hid (show ([], 400) = R by rw [← HF.out, fldsA_bad H32.out (by rw [HBF.out]; rfl)])
              clear HF
              go_wp2_with fail
              refine (HNA.out _ (HP.out.later HB3.out)).mono ?_; rintro e w4 ⟨rfl, hb4⟩
              have HB4 := Lib.hid (bel_call HB3.out hb4)
              clear hb4
              go_wp2_with fail
              refine (HVA.out _ (HP.out.later HB4.out)).mono ?_; rintro e w5 ⟨rfl, hb5⟩
              have HB5 := Lib.hid (bel_call HB4.out hb5)
              clear hb5
              go_wp2_with fail
              go_ret2
              exact ⟨.slice none 0 0, by rw [← HRR.out]; rfl, by rw [← HRR.out]; exact OwnF.nil _ _, HB5.out⟩
            | true =>
              have HFF := Lib.hid (show fldsA (acc ++ [(ahd x, trimB (bhd x))]) (L.drop (k + 1)) = R by rw [← HF.out, fldsA_go H32.out (by rw [HBF.out]; rfl)])
              clear HF
              go_wp2_with fail
              refine (HNA.out _ (HP.out.later HB3.out)).mono ?_; rintro e w4 ⟨rfl, hb4⟩
              have HB4 := Lib.hid (bel_call HB3.out hb4)
              have HO4 := Lib.hid (HO3.out.below hb4)
              clear hb4
              go_wp2_with fail
              refine (HVA.out _ (HP.out.later HB4.out)).mono ?_; rintro e w5 ⟨rfl, hb5⟩
              have HB5 := Lib.hid (bel_call HB4.out hb5)
              have HO5 := Lib.hid (HO4.out.below hb5)
              clear hb5
              go_wp2_with (at_builtin; refine wpList_appF rfl (.tmp 44) (.tmp 48) rfl rfl w.heap.size ?h1 _ _ acc [(ahd x, trimB (bhd x))] rfl rfl ?a1 ?b1 ?c1 ?d1 ?_)
              case h1 => exact w5.heap.size + 1
              case a1 => exact HO5.out.below ((Below.refl _ _).alloc (Nat.le_refl _) _)
              case b1 => exact sf_one w5 (ahd x, trimB (bhd x))
              case c1 => simp; omega
              case d1 => have := HB5.out.size; simp; omega
              intro a' c' w' HO6 hb6
              have HB6 := Lib.hid ((HB5.out.alloc HB5.out.size _).trans hb6.out)
              have hac2 : (acc ++ [(ahd x, trimB (bhd x))]).length ≤ 32 := by have := H32.out; simp; omega
              clear hb6
              go_wp2_with fail
              go_roundg (L.length - (k + 1))
              case measure => omega
              case rel => exact ⟨k + 1, acc ++ [(ahd x, trimB (bhd x))], by omega, by go_num, hac2, HO6, HFF, HB6⟩
    · have t1 : ¬ ((k : Int) < L.length) := by omega
      have HRR := Lib.hid (show (acc, 200) = R by rw [← HF.out, List.drop_of_length_le (by omega)]; rfl)
      clear HF
      go_wp2_with fail
      go_ret2
      exact ⟨.slice a6 acc.length c6, by rw [← HRR.out]; rfl, by rw [← HRR.out]; exact HO.out, HB.out⟩
end Go.Proofs.YtknfgcmidpgifaaGreatDoor

/-
  Parse.
-/
namespace Go.Proofs.YtknfgcmidpgifaaGreatDoor
open Go.RowKit Go.Shelf
set_option linter.unusedVariables false
set_option linter.unusedSimpArgs false
set_option maxRecDepth 100000

theorem scan_len : ∀ (b : List UInt8) (cr : Bool) (l : List UInt8) (ls : List (List UInt8)), scan cr l b = some ls → ls.length ≤ b.length ∧ ∀ x ∈ ls, x.length ≤ l.length + b.length
  | [], false, _, _, h => by simp [scan] at h
  | [], true, _, _, h => by simp [scan] at h
  | c :: r, false, l, ls, h => by
    rw [scan] at h
    split at h
    · obtain ⟨h1, h2⟩ := scan_len r _ _ _ h
      exact ⟨by simp; omega, fun x hx => by have := h2 x hx; simp; omega⟩
    · split at h
      · cases h
      · obtain ⟨h1, h2⟩ := scan_len r _ _ _ h
        exact ⟨by simp; omega, fun x hx => by have := h2 x hx; simp at this ⊢; omega⟩
  | c :: r, true, l, ls, h => by
    rw [scan] at h
    split at h
    · split at h
      · split at h
        · injection h with h; subst h; simp
        · cases h
      · cases hs : scan false [] r with
        | none => rw [hs] at h; cases h
        | some m =>
          rw [hs] at h
          injection h with h
          subst h
          obtain ⟨h1, h2⟩ := scan_len r _ _ _ hs
          refine ⟨by simp; omega, fun x hx => ?_⟩
          rcases List.mem_cons.mp hx with rfl | hx
          · simp
          · have := h2 x hx; simp at this ⊢; omega
    · cases h
theorem lines_len (b : List UInt8) : (linesB b).length ≤ b.length ∧ ∀ x ∈ linesB b, x.length ≤ b.length := by
  unfold linesB
  cases h : scan false [] b with
  | none => simp
  | some ls => simpa using scan_len b _ _ _ h

/-- A head whose row of fields is the call's own. -/
def Ho (w : World) (B : Nat) (v : Value) (h : Hd) : Prop := ∃ sl, v = .agg #[.string (bs h.m), .string (bs h.t), .int .i64 h.v, sl] ∧ OwnF w B sl h.fs
theorem ho_zero (w : World) (B : Nat) : Ho w B (hdv z0) z0 := ⟨_, rfl, OwnF.nil _ _⟩
theorem Ho.below {w w' : World} {B : Nat} {v : Value} {h : Hd} (hh : Ho w B v h) (hb : Below w.heap.size w w') : Ho w' B v h := by
  obtain ⟨sl, rfl, h1⟩ := hh
  exact ⟨sl, rfl, h1.below hb⟩
theorem Ho.hv {w : World} {B : Nat} {v : Value} {h : Hd} (hh : Ho w B v h) (hl : h.fs.length ≤ 1000000) : Hv w w.heap.size v h := by
  obtain ⟨sl, rfl, h1⟩ := hh
  exact ⟨sl, rfl, h1.sf hl⟩
theorem Ho.base {w : World} {B B' : Nat} {v : Value} {h : Hd} (hh : Ho w B v h) (hB : B' ≤ B) : Ho w B' v h := by
  obtain ⟨sl, rfl, h1⟩ := hh
  exact ⟨sl, rfl, row_base h1 hB⟩

/-- What Parse tells. -/
def HedPost (w : World) (X : Hd × Int) (e : Ending) (w' : World) : Prop := ∃ v, e = .returned (.tuple #[v, .int .i64 X.2]) ∧ Ho w' w.heap.size v X.1 ∧ Below w.heap.size w w'

theorem flds_len : ∀ (ls : List (List UInt8)) (acc : List Fd), acc.length ≤ 32 → (fldsA acc ls).1.length ≤ 32 ∧ (fldsA acc ls).1.length ≤ acc.length + ls.length
  | [], acc, h => by simpa [fldsA] using h
  | l :: r, acc, h => by
    rw [fldsA]
    split
    · simp
    · split
      · simp
      · rename_i h32 _
        obtain ⟨h1, h2⟩ := flds_len r (acc ++ [(ahd l, trimB (bhd l))]) (by simp; omega)
        refine ⟨h1, ?_⟩
        simp at h2 ⊢; omega
theorem flds_fits (M : Nat) : ∀ (ls : List (List UInt8)) (acc : List Fd), (∀ x ∈ ls, x.length ≤ M) → (∀ x ∈ acc, x.1.length ≤ M ∧ x.2.length ≤ M) → ∀ x ∈ (fldsA acc ls).1, x.1.length ≤ M ∧ x.2.length ≤ M
  | [], acc, _, h => by simpa [fldsA] using h
  | l :: r, acc, hl, h => by
    rw [fldsA]
    split
    · simp
    · split
      · simp
      · refine flds_fits M r _ (fun x hx => hl x (by simp [hx])) fun x hx => ?_
        rcases List.mem_append.mp hx with hx | hx
        · exact h x hx
        · simp only [List.mem_singleton] at hx
          subst hx
          have := hl l (by simp)
          have h1 := ahd_len l
          have h2 := bhd_len l
          have h3 := trimB_len (bhd l)
          exact ⟨by simp only; omega, by simp only; omega⟩

set_option maxHeartbeats 8000000 in
theorem parse_any {w : World} {v : Value} (b : List UInt8) (hs : Sl w 0 w.heap.size v (iz b)) (hE : Env w) (hl : b.length ≤ 1000000) : Calls Tryz.prog 27 #[v] w (HedPost w (parH b)) := by
  obtain ⟨N, hN⟩ : ∃ N, w.heap.size = N := ⟨_, rfl⟩
  have hb0 : Below w.heap.size w (w.alloc (.cells #[.string ⟨#[]⟩, .string ⟨#[]⟩, .int .i64 0, .slice none 0 0] 24)) := (Below.refl _ _).alloc (Nat.le_refl _) _
  have hx := cel_new4 w (.string ⟨#[]⟩) (.string ⟨#[]⟩) (.int .i64 0) (.slice none 0 0) 24
  have hsz : (w.alloc (.cells #[.string ⟨#[]⟩, .string ⟨#[]⟩, .int .i64 0, .slice none 0 0] 24)).heap.size = N + 1 := by simp [hN]
  have hs1 : Sl (w.alloc (.cells #[.string ⟨#[]⟩, .string ⟨#[]⟩, .int .i64 0, .slice none 0 0] 24)) 0 (w.alloc (.cells #[.string ⟨#[]⟩, .string ⟨#[]⟩, .int .i64 0, .slice none 0 0] 24)).heap.size v (iz b) := (hs.below hb0 (Nat.le_refl _)).wide (Nat.le_refl _) hb0.size
  obtain ⟨va, vc, rfl⟩ := sl_shape hs rfl
  have hE1 := hE.later hb0
  rw [hN] at hx hb0
  have HB0 := Lib.hid hb0
  have HX0 := Lib.hid hx
  obtain ⟨W, hW⟩ : ∃ W, w.alloc (.cells #[.string ⟨#[]⟩, .string ⟨#[]⟩, .int .i64 0, .slice none 0 0] 24) = W := ⟨_, rfl⟩
  rw [hW] at HB0 HX0 hs1 hsz hE1
  have HSZ := Lib.hid hsz
  have HD0 := Lib.hid (Below.refl W.heap.size W)
  have HE := Lib.hid hE1
  have HS := Lib.hid hs1
  have HNN := Lib.hid hN
  obtain ⟨X, hX⟩ : ∃ X, parH b = X := ⟨_, rfl⟩
  rw [hX]
  unfold parH at hX
  clear hb0 hx hsz hE1 hE hs hs1
  by_cases h4 : 4096 < b.length
  · have HF := Lib.hid (show X = (z0, 431) by rw [← hX, if_pos h4])
    have t1 : (4096 : Int) < b.length := by omega
    obtain ⟨c0, c1, c2, c3⟩ := HX0.out.four
    have cf := HX0.out.fz
    clear hX h4
    go_enter Tryz.func27, Tryz.ntmps27
    go_wp2_with fail
    have HB0 := Lib.hid (HB0.out.trans (HD0.out.mono (by have := HSZ.out; omega)))
    have HK := Lib.hid (cel_put4 HX0.out (.string ⟨#[]⟩) (.string ⟨#[]⟩) (.int .i64 0) (.slice none 0 0))
    have HBf := Lib.hid (below_put4 HB0.out (Nat.le_refl _) (.string ⟨#[]⟩) (.string ⟨#[]⟩) (.int .i64 0) (.slice none 0 0))
    obtain ⟨m0, m1, m2, m3⟩ := HK.out.four
    unfold put4 at HBf m0 m1 m2 m3
    refine bodyPost_ret (v := .tuple #[hdv z0, .int .i64 431]) (by simp [results, Tryz.results27, go_sem, m0, m1, m2, m3]; rfl) rfl ⟨hdv z0, by rw [HF.out], by rw [HF.out]; exact ho_zero _ _, by rw [HNN.out]; exact HBf.out⟩
  · have t1 : ¬ ((4096 : Int) < b.length) := by omega
    have HQ2 := Lib.hid (show par1 (linesB b) = X by rw [← hX, if_neg h4])
    have HLN := Lib.hid (lines_any b HS.out HE.out (by omega))
    have HLB := Lib.hid (show (linesB b).length ≤ 4096 ∧ ∀ x ∈ linesB b, x.length ≤ 4096 from by
      obtain ⟨q1, q2⟩ := lines_len b
      exact ⟨by omega, fun x hx => by have := q2 x hx; omega⟩)
    obtain ⟨L, hL⟩ : ∃ L, linesB b = L := ⟨_, rfl⟩
    rw [hL] at HQ2 HLN HLB
    clear hX h4 hL
    go_enter Tryz.func27, Tryz.ntmps27
    go_wp2_with fail
    refine (HLN.out).mono ?_; rintro e w1 ⟨v1, rfl, ho1, hb1⟩
    have HD1 := Lib.hid (bel_call HD0.out hb1)
    have HX1 := Lib.hid (HX0.out.below (by simp) hb1)
    have HO1 := Lib.hid ho1
    clear hb1 ho1
    obtain ⟨a1, c1, rfl⟩ := HO1.out.shape
    cases L with
    | nil =>
      have HF := Lib.hid (show X = (z0, 400) from HQ2.out.symm)
      obtain ⟨c0, c1, c2, c3⟩ := HX1.out.four
      have cf := HX1.out.fz
      go_wp2_with fail
      have HB1 := Lib.hid (HB0.out.trans (HD1.out.mono (by have := HSZ.out; omega)))
      have HK := Lib.hid (cel_put4 HX1.out (.string ⟨#[]⟩) (.string ⟨#[]⟩) (.int .i64 0) (.slice none 0 0))
      have HBf := Lib.hid (below_put4 HB1.out (Nat.le_refl _) (.string ⟨#[]⟩) (.string ⟨#[]⟩) (.int .i64 0) (.slice none 0 0))
      obtain ⟨m0, m1, m2, m3⟩ := HK.out.four
      unfold put4 at HBf m0 m1 m2 m3
      refine bodyPost_ret (v := .tuple #[hdv z0, .int .i64 400]) (by simp [results, Tryz.results27, go_sem, m0, m1, m2, m3]; rfl) rfl ⟨hdv z0, by rw [HF.out], by rw [HF.out]; exact ho_zero _ _, by rw [HNN.out]; exact HBf.out⟩
    | cons l0 ls =>
      have t2 : ((((l0 :: ls).length : Nat) : Int) == 0) = false := by rw [beq_eq_false_iff_ne, List.length_cons]; omega
      go_wp2_with fail
      refine (allPlaces_any w1).mono ?_; rintro e w2 ⟨g, rfl, hg2, hp2, hb2⟩
      have HD2 := Lib.hid (bel_call HD1.out hb2)
      have HX2 := Lib.hid (HX1.out.below (by simp) hb2)
      have HO2 := Lib.hid (HO1.out.below hb2)
      have HP2 := Lib.hid hp2
      have HG := Lib.hid hg2
      clear hb2 hp2 hg2 HO1
      obtain ⟨g1, o1, rfl, _, _, hc⟩ := st_at HO2.out.st (by simp)
      have q0 := hc 0 (by simp)
      simp only [Nat.add_zero, List.getElem_cons_zero] at q0
      have HFI := Lib.hid (first_any l0 g (by have := HLB.out.2 l0 (by simp); omega) HP2.out (HE.out.later HD2.out))
      clear hc
      obtain ⟨F, hF⟩ : ∃ F, fstL l0 = F := ⟨_, rfl⟩
      obtain ⟨⟨fm, ft, fv, ff⟩, st⟩ := F
      have hff : ff = [] := by have := fst_fs l0; rw [hF] at this; exact this
      subst hff
      have HQ3 := Lib.hid (show (if st ≠ 200 then (z0, st) else par2 ⟨fm, ft, fv, []⟩ ls) = X by rw [← HQ2.out, par1, hF])
      unfold FstPost at HFI
      rw [hF] at HFI
      unfold hdv at HFI
      simp only at HFI
      clear hF HQ2
      go_wp2_with fail
      refine (HFI.out).mono ?_; rintro e w3 ⟨rfl, hb3⟩
      have HD3 := Lib.hid (bel_call HD2.out hb3)
      have HX3 := Lib.hid (HX2.out.below (by simp) hb3)
      have HO3 := Lib.hid (HO2.out.below hb3)
      have HP3 := Lib.hid (HP2.out.later hb3)
      obtain ⟨w3a, hw3⟩ : ∃ wx, w3.alloc (.cells #[.string (bs fm), .string (bs ft), .int .i64 fv, .slice none 0 0] 24) = wx := ⟨_, rfl⟩
      have hba : Below w3.heap.size w3 w3a := by rw [← hw3]; exact (Below.refl _ _).alloc (Nat.le_refl _) _
      have HXh := Lib.hid (show Cel w3a w3.heap.size [.string (bs fm), .string (bs ft), .int .i64 fv, .slice none 0 0] by rw [← hw3]; exact cel_new4 w3 _ _ _ _ _)
      have HD3a := Lib.hid (bel_call HD3.out hba)
      have HX3a := Lib.hid (HX3.out.below (by simp) hba)
      have HO3a := Lib.hid (HO3.out.below hba)
      have HP3a := Lib.hid (HP3.out.later hba)
      have HSa := Lib.hid (show w3a.heap.size = w3.heap.size + 1 by rw [← hw3, World.size_alloc])
      have HHN := Lib.hid (show N < w3.heap.size by have := HD3.out.size; have := HSZ.out; omega)
      clear hb3 HO2 HP2 HO3 HP3 hba
      by_cases hst : st = 200
      · subst hst
        have HQ4 := Lib.hid (show par2 ⟨fm, ft, fv, []⟩ ls = X by rw [← HQ3.out, if_neg (by simp)])
        obtain ⟨sv, hsv, hst1⟩ := st_from (p := 1) HO3a.out.st (by simp)
        have hsv : ∀ wx, (Instr.slice 54 (.slice (some ⟨g1, o1, none⟩) (ls.length + 1) c1) (some (.int .i64 1)) none none).run Tryz.prog wx = .ok sv wx := hsv
        have hst1 : St w3a _ _ sv ls := hst1
        obtain ⟨ads, cs, rfl⟩ : ∃ ads cs, sv = .slice ads ls.length cs := by obtain ⟨ads, cs, e, _⟩ := hst1; exact ⟨ads, cs, e⟩
        have HFL := Lib.hid (fields_any ls g hst1 (Nat.le_refl _) HP3a.out (HE.out.later HD3a.out) (by have := HLB.out.1; rw [List.length_cons] at this; omega) (fun x hx => by have := HLB.out.2 x (by simp [hx]); omega))
        obtain ⟨Z, hZ⟩ : ∃ Z, fldsA [] ls = Z := ⟨_, rfl⟩
        obtain ⟨fs, fst⟩ := Z
        have HQ5 := Lib.hid (show (if fst ≠ 200 then (z0, fst) else if hostL fs fv = false then (z0, 400) else (⟨fm, ft, fv, fs⟩, 200)) = X by rw [← HQ4.out, par2, hZ])
        have HFN := Lib.hid (show fs.length ≤ 32 ∧ ∀ x ∈ fs, x.1.length ≤ 4096 ∧ x.2.length ≤ 4096 from by
          have q1 := (flds_len ls [] (by simp)).1
          have q2 := flds_fits 4096 ls [] (fun x hx => HLB.out.2 x (by simp [hx])) (by simp)
          rw [hZ] at q1 q2
          exact ⟨q1, q2⟩)
        unfold FldPost at HFL
        rw [hZ] at HFL
        clear hZ HQ3 HQ4 hst1
        have HW3 := Lib.hid hw3
        clear hw3
        go_wp2_with fail
        rw [HW3.out]
        refine (HFL.out).mono ?_; rintro e w4 ⟨v4, rfl, ho4, hb4⟩
        obtain ⟨a4, c4, rfl⟩ := OwnF.shape ho4
        have HD4 := Lib.hid (bel_call HD3a.out hb4)
        have HX4 := Lib.hid (HX3a.out.below (by simp) hb4)
        have HXh4 := Lib.hid (HXh.out.below (by simp) hb4)
        obtain ⟨h0, h1, h2, h3⟩ := HXh4.out.four
        have hf := HXh4.out.fz
        have hset : Aside (fun k => k = w3.heap.size) w4 (w4.setCell ⟨w3.heap.size, 3, none⟩ (.slice a4 fs.length c4)) := Aside.setCell w4 (p := ⟨w3.heap.size, 3, none⟩) _ rfl
        have HXh5 := Lib.hid (show Cel (w4.setCell ⟨w3.heap.size, 3, none⟩ (.slice a4 fs.length c4)) w3.heap.size [.string (bs fm), .string (bs ft), .int .i64 fv, .slice a4 fs.length c4] from HXh4.out.set (o := 3) (by simp) (.slice a4 fs.length c4))
        have HX5b := Lib.hid (HX4.out.aside (by simp) hset (by have := HHN.out; omega))
        have ho5 := row_aside ho4 hset (fun k hk hg => by have := (World.ownsRow.lt ho4 k hk).1; have := HSa.out; omega)
        have HO5 := Lib.hid (show OwnF (w4.setCell ⟨w3.heap.size, 3, none⟩ (.slice a4 fs.length c4)) w3a.heap.size (.slice a4 fs.length c4) fs from ho5)
        have HD5 := Lib.hid (show Below W.heap.size W (w4.setCell ⟨w3.heap.size, 3, none⟩ (.slice a4 fs.length c4)) from HD4.out.setCell (p := ⟨w3.heap.size, 3, none⟩) (by have := HD3.out.size; show W.heap.size ≤ w3.heap.size; omega) (.slice a4 fs.length c4))
        have HHs := Lib.hid (hosted_any (w := w4.setCell ⟨w3.heap.size, 3, none⟩ (.slice a4 fs.length c4)) (h := ⟨fm, ft, fv, fs⟩) ⟨.slice a4 fs.length c4, rfl, HO5.out.sf (by have := HFN.out.1; omega)⟩ (Nat.le_refl _) ⟨by have := HFN.out.1; simp only; omega, fun x hx => by have := HFN.out.2 x hx; omega⟩)
        clear hb4 ho4 HXh HX3a HX4 HXh4 hset ho5
        by_cases hfs : fst = 200
        · subst hfs
          have t5 : ((200 : Int) != 200) = false := rfl
          have HQ6 := Lib.hid (show (if hostL fs fv = false then (z0, 400) else (⟨fm, ft, fv, fs⟩, 200)) = X from (if_neg (fun h => h rfl)).symm.trans HQ5.out)
          clear HQ5
          obtain ⟨KH, hKH⟩ : ∃ K, hostL fs fv = K := ⟨_, rfl⟩
          simp only [hKH] at HHs
          rw [hKH] at HQ6
          clear hKH
          go_wp2_with fail
          refine (HHs.out).mono ?_; rintro e w6 ⟨rfl, hb6⟩
          have HD6 := Lib.hid (bel_call HD5.out hb6)
          have HX6 := Lib.hid (HX5b.out.below (by simp) hb6)
          have HXh6 := Lib.hid (HXh5.out.below (by simp) hb6)
          have HO6 := Lib.hid (HO5.out.below hb6)
          clear hb6 h0 h1 h2 h3 hf
          obtain ⟨c0, c1', c2, c3⟩ := HX6.out.four
          have cf := HX6.out.fz
          cases KH with
          | false =>
            have HF := Lib.hid (show X = (z0, 400) by rw [← HQ6.out, if_pos rfl])
            clear HQ6
            go_wp2_with fail
            have HB6 := Lib.hid (HB0.out.trans (HD6.out.mono (by have := HSZ.out; omega)))
            have HK := Lib.hid (cel_put4 HX6.out (.string ⟨#[]⟩) (.string ⟨#[]⟩) (.int .i64 0) (.slice none 0 0))
            have HBf := Lib.hid (below_put4 HB6.out (Nat.le_refl _) (.string ⟨#[]⟩) (.string ⟨#[]⟩) (.int .i64 0) (.slice none 0 0))
            obtain ⟨m0, m1, m2, m3⟩ := HK.out.four
            unfold put4 at HBf m0 m1 m2 m3
            refine bodyPost_ret (v := .tuple #[hdv z0, .int .i64 400]) (by simp [results, Tryz.results27, go_sem, m0, m1, m2, m3]; rfl) rfl ⟨hdv z0, by rw [HF.out], by rw [HF.out]; exact ho_zero _ _, by rw [HNN.out]; exact HBf.out⟩
          | true =>
            have HF := Lib.hid (show X = (⟨fm, ft, fv, fs⟩, 200) by rw [← HQ6.out, if_neg (by simp)])
            clear HQ6
            obtain ⟨h0, h1, h2, h3⟩ := HXh6.out.four
            go_wp2_with fail
            have HB6 := Lib.hid (HB0.out.trans (HD6.out.mono (by have := HSZ.out; omega)))
            have HK := Lib.hid (cel_put4 HX6.out (.string (bs fm)) (.string (bs ft)) (.int .i64 fv) (.slice a4 fs.length c4))
            have HBf := Lib.hid (below_put4 HB6.out (Nat.le_refl _) (.string (bs fm)) (.string (bs ft)) (.int .i64 fv) (.slice a4 fs.length c4))
            have HOf := Lib.hid (show OwnF (put4 w6 N (.string (bs fm)) (.string (bs ft)) (.int .i64 fv) (.slice a4 fs.length c4)) w.heap.size (.slice a4 fs.length c4) fs from by
              have hlt := World.ownsRow.lt HO6.out
              have := HD3a.out.size
              have := HSZ.out
              refine row_base (row_aside HO6.out (aside_put4 w6 N _ _ _ _) (fun k hk hg => ?_)) (by rw [HNN.out]; omega)
              have := (hlt k hk).1
              omega)
            obtain ⟨m0, m1, m2, m3⟩ := HK.out.four
            unfold put4 at HBf HOf m0 m1 m2 m3
            clear c0 c1' c2 c3 h0 h1 h2 h3 cf
            refine bodyPost_ret (v := .tuple #[.agg #[.string (bs fm), .string (bs ft), .int .i64 fv, .slice a4 fs.length c4], .int .i64 200]) (by simp [results, Tryz.results27, go_sem, m0, m1, m2, m3]) rfl ⟨_, by rw [HF.out], by rw [HF.out]; exact ⟨_, rfl, HOf.out⟩, by rw [HNN.out]; exact HBf.out⟩
        · have t5 : (fst != 200) = true := by rw [bne_iff_ne]; exact hfs
          have HF := Lib.hid (show X = (z0, fst) by rw [← HQ5.out, if_pos hfs])
          clear hfs HQ5 HHs
          obtain ⟨w5, hw5⟩ : ∃ wx, w4.setCell ⟨w3.heap.size, 3, none⟩ (.slice a4 fs.length c4) = wx := ⟨_, rfl⟩
          rw [hw5] at HX5b HD5
          obtain ⟨c0, c1', c2, c3⟩ := HX5b.out.four
          have cf := HX5b.out.fz
          go_wp2_with fail
          have HB5 := Lib.hid (HB0.out.trans (HD5.out.mono (by have := HSZ.out; omega)))
          have HK := Lib.hid (cel_put4 HX5b.out (.string ⟨#[]⟩) (.string ⟨#[]⟩) (.int .i64 0) (.slice none 0 0))
          have HBf := Lib.hid (below_put4 HB5.out (Nat.le_refl _) (.string ⟨#[]⟩) (.string ⟨#[]⟩) (.int .i64 0) (.slice none 0 0))
          obtain ⟨m0, m1, m2, m3⟩ := HK.out.four
          unfold put4 at HBf m0 m1 m2 m3
          refine bodyPost_ret (v := .tuple #[hdv z0, .int .i64 fst]) (by simp [results, Tryz.results27, go_sem, m0, m1, m2, m3]; rfl) rfl ⟨hdv z0, by rw [HF.out], by rw [HF.out]; exact ho_zero _ _, by rw [HNN.out]; exact HBf.out⟩
      · have t4 : (st != 200) = true := by rw [bne_iff_ne]; exact hst
        have HF := Lib.hid (show X = (z0, st) by rw [← HQ3.out, if_pos hst])
        clear hst HQ3
        have HW3 := Lib.hid hw3
        clear hw3
        rw [← HW3.out] at HX3a HD3a
        obtain ⟨c0, c1', c2, c3⟩ := HX3a.out.four
        have cf := HX3a.out.fz
        go_wp2_with fail
        have HB3a := Lib.hid (HB0.out.trans (HD3a.out.mono (by have := HSZ.out; omega)))
        have HK := Lib.hid (cel_put4 HX3a.out (.string ⟨#[]⟩) (.string ⟨#[]⟩) (.int .i64 0) (.slice none 0 0))
        have HBf := Lib.hid (below_put4 HB3a.out (Nat.le_refl _) (.string ⟨#[]⟩) (.string ⟨#[]⟩) (.int .i64 0) (.slice none 0 0))
        obtain ⟨m0, m1, m2, m3⟩ := HK.out.four
        unfold put4 at HBf m0 m1 m2 m3
        refine bodyPost_ret (v := .tuple #[hdv z0, .int .i64 st]) (by simp [results, Tryz.results27, go_sem, m0, m1, m2, m3]; rfl) rfl ⟨hdv z0, by rw [HF.out], by rw [HF.out]; exact ho_zero _ _, by rw [HNN.out]; exact HBf.out⟩
  end Go.Proofs.YtknfgcmidpgifaaGreatDoor

/-
  Heads, as the statements compare, measure and copy them.
-/
namespace Go.Proofs.YtknfgcmidpgifaaGreatDoor
open Go.RowKit Go.Shelf
set_option linter.unusedVariables false
set_option linter.unusedSimpArgs false
set_option maxRecDepth 100000

theorem neqF (x : Fd) (w : World) : (binOp .neq 44 (.agg #[.string (bs x.1), .string (bs x.2)]) (.agg #[.string (bs x.1), .string (bs x.2)])).run Tryz.prog w = .ok (.bool false) w := by
  have hS : Tryz.prog.underlying 44 = some (.struct (Tryz.prog.fieldsOf 44)) := by kernel_rfl
  have hI : Tryz.prog.stoodInHeld 44 = false := by kernel_rfl
  have u9 := Tryz.underlying9
  have a9 := Tryz.isAgg9
  have z9 := Tryz.sizeOf9
  rw [run_neq_struct, run_equalIn_agg _ _ _ _ _ hS hI]
  simp only [Program.fieldsOf, Tryz.underlying44]
  go_simp

set_option maxHeartbeats 1000000 in
theorem sameF_yes {w : World} {hi hi' : Nat} {u v : Value} {l : List Fd} (h : SF w hi u l) (h' : SF w hi' v l) (h1 : hi ≤ w.heap.size) (h2 : hi' ≤ w.heap.size) :
    Calls Tryz.prog 48 #[u, v] w (Tells w (.bool true)) := by
  have HN := Lib.hid (Lst.len h)
  obtain ⟨a, c, rfl⟩ := Lst.shape h
  obtain ⟨a', c', rfl⟩ := Lst.shape h'
  have HS := Lib.hid h
  have HS' := Lib.hid h'
  have HH := Lib.hid (And.intro h1 h2)
  have HB := Lib.hid (Below.refl w.heap.size w)
  clear h h' h1 h2
  go_enter Tryz.func48, Tryz.ntmps48
  go_wp2_with fail
  go_loopg [5] l.length (fun g v5 wr => ∃ k : Nat, k + g = l.length ∧ v5 = .int .i64 k ∧ Hid (Below w.heap.size w wr))
  case atStart => exact ⟨0, by omega, rfl, HB⟩
  case round =>
    clear HB
    obtain ⟨k, hk, rfl, HB⟩ := hrel
    have hlen := HN.out
    by_cases hlt : k < l.length
    · obtain ⟨b, off, c2, he, hb, hc⟩ := HS.out.at_ k hlt
      obtain ⟨b', off', c2', he', hb', hc'⟩ := HS'.out.at_ k hlt
      injection he with he hn3 hc3
      injection he' with he' hn3' hc3'
      clear hn3 hc3 hn3' hc3'
      subst he; subst he'
      obtain ⟨p0, p1⟩ := hc.keep fun o => HB.out.cell (p := ⟨b, o, none⟩) (by have := HH.out.1; show b < w.heap.size; omega)
      obtain ⟨q0, q1⟩ := hc'.keep fun o => HB.out.cell (p := ⟨b', o, none⟩) (by have := HH.out.2; show b' < w.heap.size; omega)
      have HE := fun wx => neqF l[k] wx
      obtain ⟨x, hx⟩ : ∃ x, l[k] = x := ⟨_, rfl⟩
      rw [hx] at p0 p1 q0 q1 HE
      have HB2 := Lib.hid (fun n => below_drewN HB.out n)
      clear hc hc' hx HB
      go_wp2_with fail
      go_quiet (fail)
      go_wp2_with fail
      go_roundg (l.length - (k + 1))
      case measure => omega
      case rel => exact ⟨k + 1, by omega, by go_num, HB2.out _⟩
    · have t1 : ¬ ((k : Int) < l.length) := by omega
      go_wp2_with fail
      go_ret
      exact ⟨rfl, HB.out⟩

set_option maxHeartbeats 1000000 in
theorem sameH_yes {w : World} {hi hi' : Nat} {u v : Value} {h : Hd} (hu : Hv w hi u h) (hv : Hv w hi' v h) (h1 : hi ≤ w.heap.size) (h2 : hi' ≤ w.heap.size) :
    Calls Tryz.prog 18 #[u, v] w (Tells w (.bool true)) := by
  obtain ⟨m, t, n, l⟩ := h
  obtain ⟨s, rfl, hs⟩ := hu
  obtain ⟨s', rfl, hs'⟩ := hv
  simp only at hs hs' ⊢
  have hb1 : Below w.heap.size w (w.alloc (.cells #[.string (bs m), .string (bs t), .int .i64 n, s] 24)) := (Below.refl _ _).alloc (Nat.le_refl _) _
  have hb2 : Below w.heap.size w ((w.alloc (.cells #[.string (bs m), .string (bs t), .int .i64 n, s] 24)).alloc (.cells #[.string (bs m), .string (bs t), .int .i64 n, s'] 24)) := hb1.alloc hb1.size _
  have HF := Lib.hid (sameF_yes (show SF _ hi s l from Lst.below hs hb2 h1) (show SF _ hi' s' l from Lst.below hs' hb2 h2) (Nat.le_trans h1 hb2.size) (Nat.le_trans h2 hb2.size))
  have HB2 := Lib.hid hb2
  clear hs hs' hb1 hb2
  go_enter Tryz.func18, Tryz.ntmps18
  go_wp2_with fail
  refine (HF.out).mono ?_; rintro e w2 ⟨rfl, hb3⟩
  have HB3 := Lib.hid (HB2.out.trans (hb3.mono HB2.out.size))
  clear hb3
  go_wp2_with fail
  go_ret
  exact ⟨rfl, HB3.out⟩

/-! ### how much -/
def szF (l : List Fd) : Nat := (l.map fun x => x.1.length + x.2.length).sum
def longF (most : Nat) (l : List Fd) : Bool := decide (most < l.length) || decide (6000 < szF l)
def longH (h : Hd) : Bool := decide (6000 < h.m.length) || (decide (6000 < h.t.length) || longF 60 h.fs)
/-- Each text within what memory has. -/
def Mem (h : Hd) : Prop := ∀ x ∈ h.fs, x.1.length ≤ 140737488351232 ∧ x.2.length ≤ 140737488351232
theorem szF_app (a b : List Fd) : szF (a ++ b) = szF a + szF b := by unfold szF; rw [List.map_append, List.sum_append]
theorem szF_take (l : List Fd) (k : Nat) (hk : k < l.length) : szF (l.take (k + 1)) = szF (l.take k) + (l[k].1.length + l[k].2.length) := by
  rw [List.take_add_one, List.getElem?_eq_getElem hk, szF_app]
  simp [szF]
theorem szF_le (l : List Fd) (k : Nat) : szF (l.take k) ≤ szF l := by
  conv => rhs; rw [← List.take_append_drop k l, szF_app]
  omega
theorem szF_mem {l : List Fd} {x : Fd} (h : x ∈ l) : x.1.length + x.2.length ≤ szF l := by
  induction l with
  | nil => simp at h
  | cons y r ih =>
    have e : szF (y :: r) = (y.1.length + y.2.length) + szF r := by simp [szF]
    rcases List.mem_cons.mp h with rfl | h
    · omega
    · have := ih h; omega

set_option maxHeartbeats 1000000 in
theorem longF_any {w : World} {hi : Nat} {u : Value} {l : List Fd} (most : Nat) (hmo : most ≤ 1000000) (h : SF w hi u l) (h1 : hi ≤ w.heap.size) (hm : ∀ x ∈ l, x.1.length ≤ 140737488351232 ∧ x.2.length ≤ 140737488351232) :
    Calls Tryz.prog 31 #[u, .int .i64 most] w (Tells w (.bool (longF most l))) := by
  obtain ⟨R, hR⟩ : ∃ R, longF most l = R := ⟨_, rfl⟩
  rw [hR]
  unfold longF at hR
  have HR := Lib.hid hR
  have HN := Lib.hid (Lst.len h)
  obtain ⟨a, c, rfl⟩ := Lst.shape h
  have HS := Lib.hid h
  have HM := Lib.hid hm
  have HH := Lib.hid h1
  have HB := Lib.hid (Below.refl w.heap.size w)
  clear h h1 hR hm
  go_enter Tryz.func31, Tryz.ntmps31
  go_wp2_with fail
  go_loopg [5, 6] l.length (fun g v5 v6 wr => ∃ k n : Nat, k + g = l.length ∧ v6 = .int .i64 k ∧ v5 = .int .i64 n ∧ Hid (szF (l.take k) = n) ∧ n ≤ 400000000000000 ∧ Hid (Below w.heap.size w wr))
  case atStart => exact ⟨0, 0, by omega, rfl, rfl, rfl, by omega, HB⟩
  case round =>
    clear HB
    obtain ⟨k, n, hk, rfl, rfl, HZ, hn4, HB⟩ := hrel
    have hlen := HN.out
    by_cases hlt : k < l.length
    · by_cases hn : n ≤ 6000
      · obtain ⟨b, off, c2, he, hb, hc⟩ := HS.out.at_ k hlt
        injection he with he hn3 hc3
        clear hn3 hc3
        subst he
        obtain ⟨p0, p1⟩ := hc.keep fun o => HB.out.cell (p := ⟨b, o, none⟩) (by have := HH.out; show b < w.heap.size; omega)
        have hst := szF_take l k hlt
        rw [HZ.out] at hst
        have hmx := HM.out l[k] (List.getElem_mem hlt)
        obtain ⟨x, hx⟩ : ∃ x, l[k] = x := ⟨_, rfl⟩
        rw [hx] at p0 p1 hst hmx
        have t1 : (n : Int) ≤ 6000 := by omega
        have HB2 := Lib.hid (fun n => below_drewN HB.out n)
        have HST := Lib.hid hst
        clear hc hx HB hst
        go_wp2_with fail
        go_quiet (fail)
        go_wp2_with fail
        go_roundg (l.length - (k + 1))
        case measure => omega
        case rel => exact ⟨k + 1, n + (x.1.length + x.2.length), by omega, by go_num, by go_num, HST, by omega, HB2.out _⟩
      · have t1 : ¬ ((n : Int) ≤ 6000) := by omega
        have t2 : (6000 : Int) < n := by omega
        have HE := Lib.hid (show R = true by
          rw [← HR.out]
          have := szF_le l k
          rw [HZ.out] at this
          simp; omega)
        by_cases hm2 : most < l.length
        · have t3 : (most : Int) < l.length := by omega
          go_wp2_with fail
          go_ret
          exact ⟨by rw [HE.out]; rfl, HB.out⟩
        · have t3 : ¬ ((most : Int) < l.length) := by omega
          go_wp2_with fail
          go_ret
          exact ⟨by rw [HE.out]; rfl, HB.out⟩
    · have t1 : ¬ ((k : Int) < l.length) := by omega
      have hz : szF l = n := by rw [← HZ.out, List.take_of_length_le (by omega)]
      by_cases hm2 : most < l.length
      · have t3 : (most : Int) < l.length := by omega
        have HE := Lib.hid (show R = true by rw [← HR.out]; simp [hm2])
        clear hz
        go_wp2_with fail
        go_ret
        exact ⟨by rw [HE.out]; rfl, HB.out⟩
      · have t3 : ¬ ((most : Int) < l.length) := by omega
        by_cases hn : 6000 < n
        · have t2 : (6000 : Int) < n := by omega
          have HE := Lib.hid (show R = true by rw [← HR.out, hz]; simp [hn])
          clear hz
          go_wp2_with fail
          go_ret
          exact ⟨by rw [HE.out]; rfl, HB.out⟩
        · have t2 : ¬ ((6000 : Int) < n) := by omega
          have HE := Lib.hid (show R = false by rw [← HR.out, hz]; simp [hn, hm2])
          clear hz
          go_wp2_with fail
          go_ret
          exact ⟨by rw [HE.out]; rfl, HB.out⟩

set_option maxHeartbeats 1000000 in
theorem longH_any {w : World} {hi : Nat} {u : Value} {h : Hd} (hh : Hv w hi u h) (h1 : hi ≤ w.heap.size) (hm : Mem h) :
    Calls Tryz.prog 9 #[u] w (Tells w (.bool (longH h))) := by
  obtain ⟨m, t, n, l⟩ := h
  obtain ⟨s, rfl, hs⟩ := hh
  unfold Mem at hm
  unfold longH
  simp only at hs hm ⊢
  have hb1 : Below w.heap.size w (w.alloc (.cells #[.string (bs m), .string (bs t), .int .i64 n, s] 24)) := (Below.refl _ _).alloc (Nat.le_refl _) _
  have HF := Lib.hid (longF_any 60 (by omega) (show SF _ hi s l from Lst.below hs hb1 h1) (Nat.le_trans h1 hb1.size) hm)
  have HB1 := Lib.hid hb1
  clear hs hb1 hm
  by_cases g1 : 6000 < m.length
  · have t1 : (6000 : Int) < m.length := by omega
    rw [decide_eq_true g1]
    clear g1
    go_enter Tryz.func9, Tryz.ntmps9
    go_wp2_with fail
    go_ret
    exact ⟨rfl, HB1.out⟩
  · have t1 : ¬ ((6000 : Int) < m.length) := by omega
    rw [decide_eq_false g1]
    clear g1
    by_cases g2 : 6000 < t.length
    · have t2 : (6000 : Int) < t.length := by omega
      rw [decide_eq_true g2]
      clear g2
      go_enter Tryz.func9, Tryz.ntmps9
      go_wp2_with fail
      go_ret
      exact ⟨rfl, HB1.out⟩
    · have t2 : ¬ ((6000 : Int) < t.length) := by omega
      rw [decide_eq_false g2]
      clear g2
      obtain ⟨R, hR⟩ : ∃ R, longF 60 l = R := ⟨_, rfl⟩
      rw [hR] at HF ⊢
      clear hR
      go_enter Tryz.func9, Tryz.ntmps9
      go_wp2_with fail
      refine (HF.out).mono ?_; rintro e w2 ⟨rfl, hb3⟩
      have HB3 := Lib.hid (HB1.out.trans (hb3.mono HB1.out.size))
      clear hb3
      cases R with
      | true =>
        go_wp2_with fail
        go_ret
        exact ⟨rfl, HB3.out⟩
      | false =>
        go_wp2_with fail
        go_ret
        exact ⟨rfl, HB3.out⟩
end Go.Proofs.YtknfgcmidpgifaaGreatDoor

/-
  A head is copied.
-/
namespace Go.Proofs.YtknfgcmidpgifaaGreatDoor
open Go.RowKit Go.Shelf
set_option linter.unusedVariables false
set_option linter.unusedSimpArgs false
set_option maxRecDepth 100000

set_option maxHeartbeats 1000000 in
theorem copyH_any {w : World} {hi : Nat} {u : Value} {h : Hd} (hh : Hv w hi u h) (h1 : hi ≤ w.heap.size) (hl : h.fs.length ≤ 900000) :
    Calls Tryz.prog 11 #[u] w (fun x w' => ∃ v, x = .returned v ∧ Ho w' w.heap.size v h ∧ Below w.heap.size w w') := by
  obtain ⟨m, t, n, l⟩ := h
  obtain ⟨o, rfl, hs⟩ := hh
  unfold Ho
  simp only at hs hl ⊢
  obtain ⟨a, c, rfl⟩ := Lst.shape hs
  obtain ⟨N, hN⟩ : ∃ N, w.heap.size = N := ⟨_, rfl⟩
  have hl2 : l.length ≤ 140737488351232 := by omega
  have sX : (((w.alloc (.cells #[.string (bs m), .string (bs t), .int .i64 n, .slice a l.length c] 24)).alloc (.cells #[.string ⟨#[]⟩, .string ⟨#[]⟩, .int .i64 0, .slice none 0 0] 24)).heap.size = N + 2) := by simp [hN]
  have hb1 : Below w.heap.size w ((w.alloc (.cells #[.string (bs m), .string (bs t), .int .i64 n, .slice a l.length c] 24)).alloc (.cells #[.string ⟨#[]⟩, .string ⟨#[]⟩, .int .i64 0, .slice none 0 0] 24)) := ((Below.refl _ _).alloc (Nat.le_refl _) _).alloc (by simp) _
  have hx := (cel_new4 w (.string (bs m)) (.string (bs t)) (.int .i64 n) (.slice a l.length c) 24).below (by simp) ((Below.refl _ _).alloc (Nat.le_refl _) (.cells #[.string ⟨#[]⟩, .string ⟨#[]⟩, .int .i64 0, .slice none 0 0] 24))
  have hz := cel_new4 (w.alloc (.cells #[.string (bs m), .string (bs t), .int .i64 n, .slice a l.length c] 24)) (.string ⟨#[]⟩) (.string ⟨#[]⟩) (.int .i64 0) (.slice none 0 0) 24
  rw [World.size_alloc] at hz
  rw [hN] at hx hz hb1 h1
  obtain ⟨WX, hWX⟩ : ∃ X, (w.alloc (.cells #[.string (bs m), .string (bs t), .int .i64 n, .slice a l.length c] 24)).alloc (.cells #[.string ⟨#[]⟩, .string ⟨#[]⟩, .int .i64 0, .slice none 0 0] 24) = X := ⟨_, rfl⟩
  rw [hWX] at hx hz hb1 sX
  have ho := World.ownsRow_made (e := 44) (size := 2) (base := N + 2) WX #[] 0 (by rw [sX]; exact Nat.le_refl _) (by decide) (by simp)
  rw [sX] at ho
  have hb2 : Below WX.heap.size WX (WX.alloc (.cells #[] 44)) := (Below.refl _ _).alloc (Nat.le_refl _) _
  have hs2 : SF (WX.alloc (.cells #[] 44)) hi (.slice a l.length c) l := Lst.below (Lst.below hs hb1 h1) hb2 (by omega)
  have hx2 := hx.below (by simp) hb2
  have hz2 := hz.below (by simp) hb2
  have hb3 : Below N w (WX.alloc (.cells #[] 44)) := hb1.alloc (by omega) _
  have sY : (WX.alloc (.cells #[] 44)).heap.size = N + 3 := by rw [World.size_alloc, sX]
  obtain ⟨a4, c4, w4, hr, ho4, ha4, _⟩ := run_appF (l := []) (by exact ho) hs2 (by simp; omega) (by rw [sY]; omega)
  simp only [List.length_nil, Nat.zero_add, List.nil_append] at hr ho4
  have hbl : ∀ k, (Value.slice (some ⟨N + 2, 0, none⟩) 0 0).ownBlock = some k → k = N + 2 := fun k hk => by simpa [Value.ownBlock] using hk.symm
  have hx4 := hx2.aside (by simp) ha4 (fun h => by have := hbl _ h; omega)
  have hz4 := hz2.aside (by simp) ha4 (fun h => by have := hbl _ h; omega)
  have hb4 : Below N w w4 := below_aside hb3 ha4 (fun k hk => ⟨by omega, fun h => by have := hbl _ h; omega⟩)
  have s4 := ha4.size
  rw [sY] at s4
  have hst : Aside (fun k => k = N) w4 (w4.setCell ⟨N, 3, none⟩ (.slice a4 l.length c4)) := Aside.setCell w4 (p := ⟨N, 3, none⟩) _ rfl
  have hx5 := hx4.set (o := 3) (by simp) (.slice a4 l.length c4)
  simp only [List.set_cons_zero, List.set_cons_succ] at hx5
  have hz5 := hz4.aside (by simp) hst (by omega)
  have hk := cel_put4 hz5 (.string (bs m)) (.string (bs t)) (.int .i64 n) (.slice a4 l.length c4)
  have hst2 := aside_put4 (w4.setCell ⟨N, 3, none⟩ (.slice a4 l.length c4)) (N + 1) (.string (bs m)) (.string (bs t)) (.int .i64 n) (.slice a4 l.length c4)
  have hlo := World.ownsRow.lt ho4
  have ho5 : OwnF _ _ _ _ := row_aside (row_aside ho4 hst fun k hk hg => by have := (hlo k hk).1; omega) hst2 fun k hk hg => by have := (hlo k hk).1; omega
  have hb5 : Below N w (put4 (w4.setCell ⟨N, 3, none⟩ (.slice a4 l.length c4)) (N + 1) (.string (bs m)) (.string (bs t)) (.int .i64 n) (.slice a4 l.length c4)) :=
    below_aside (below_aside hb4 hst (fun k hk => ⟨by omega, by omega⟩)) hst2 (fun k hk => ⟨by simp [World.setCell]; omega, by omega⟩)
  have HF := Lib.hid (And.intro (show OwnF _ N _ _ from row_base ho5 (by omega)) hb5)
  have HK := Lib.hid hk
  obtain ⟨x0, x1, x2, x3⟩ := hx4.four
  obtain ⟨z0, z1, z2, z3⟩ := hz4.four
  have fx := hx4.fz
  have fz := hz4.fz
  obtain ⟨i0, i1, i2, i3⟩ := hx.four
  obtain ⟨j0, j1, j2, j3⟩ := hx2.four
  have HR := Lib.hid hr
  clear hs ho hb1 hb2 hs2 hx hz hx2 hz2 hb3 hr ho4 ha4 hbl hx4 hz4 hb4 hst hx5 hz5 hk hst2 hlo ho5 hb5 s4 h1
  go_enter Tryz.func11, Tryz.ntmps11
  go_wp2_with (at_builtin; refine wpList_append_run (.tmp 3) (.tmp 5) 22 22 rfl rfl rfl rfl HR.out ?_)
  obtain ⟨m0, m1, m2, m3⟩ := HK.out.four
  unfold put4 at HF m0 m1 m2 m3
  refine bodyPost_ret (by simp [results, Tryz.results11, go_sem, m0, m1, m2, m3]) rfl ⟨_, rfl, ⟨.slice a4 l.length c4, rfl, by rw [hN]; exact HF.out.1⟩, by rw [hN]; exact HF.out.2⟩
end Go.Proofs.YtknfgcmidpgifaaGreatDoor

/-
  The statements' own helpers: of, status; awake.
-/
namespace Go.Proofs.YtknfgcmidpgifaaGreatDoor
open Go.RowKit Go.Shelf
set_option linter.unusedVariables false
set_option linter.unusedSimpArgs false
set_option maxRecDepth 100000

def mGet : List UInt8 := [71, 69, 84]
def tA : List UInt8 := [47, 97]
def hof (n : Int) (name value : List UInt8) : Hd := ⟨mGet, tA, n, [(name, value)]⟩

theorem own_one (w : World) (B : Nat) (x : Fd) (hB : B ≤ w.heap.size) : OwnF (w.alloc (.cells #[.string (bs x.1), .string (bs x.2)] 44)) B (.slice (some ⟨w.heap.size, 0, none⟩) 1 1) [x] :=
  ⟨rfl, .inr ⟨w.heap.size, 1, _, rfl, hB, World.alloc_heap_new _ _, Nat.le_refl _, by unfold maxLen; omega, rfl, rfl⟩⟩

set_option maxHeartbeats 1000000 in
theorem of_any (n : Int) (name value : List UInt8) (w : World) : Calls Tryz.prog 26 #[.int .i64 n, .string (bs name), .string (bs value)] w fun e w' => ∃ a, e = .returned (.agg #[.string (bs mGet), .string (bs tA), .int .i64 n, .slice a 1 1]) ∧ OwnF w' w.heap.size (.slice a 1 1) [(name, value)] ∧ Below w.heap.size w w' := by
  obtain ⟨N, hN⟩ : ∃ N, w.heap.size = N := ⟨_, rfl⟩
  obtain ⟨W1, hW1⟩ : ∃ W, w.alloc (.cells #[.string ⟨#[]⟩, .string ⟨#[]⟩, .int .i64 0, .slice none 0 0] 24) = W := ⟨_, rfl⟩
  obtain ⟨W2, hW2⟩ : ∃ W, W1.alloc (.cells #[.string (bs name), .string (bs value)] 44) = W := ⟨_, rfl⟩
  have s1 : W1.heap.size = N + 1 := by rw [← hW1]; simp [hN]
  have b1 : Below w.heap.size w W1 := by rw [← hW1]; exact (Below.refl _ _).alloc (Nat.le_refl _) _
  have b12 : Below W1.heap.size W1 W2 := by rw [← hW2]; exact (Below.refl _ _).alloc (Nat.le_refl _) _
  have b2 : Below N w W2 := by rw [← hN]; exact bel_call b1 b12
  have x1 : Cel W1 N [.string ⟨#[]⟩, .string ⟨#[]⟩, .int .i64 0, .slice none 0 0] := by rw [← hW1, ← hN]; exact cel_new4 _ _ _ _ _ _
  have x2 := x1.below (by simp) b12
  have o2 : OwnF W2 (N + 1) (.slice (some ⟨N + 1, 0, none⟩) 1 1) [(name, value)] := by
    rw [← hW2]
    have := own_one W1 (N + 1) (name, value) (by omega)
    rw [s1] at this
    exact this
  have HK := Lib.hid (cel_put4 x2 (.string (bs mGet)) (.string (bs tA)) (.int .i64 n) (.slice (some ⟨N + 1, 0, none⟩) 1 1))
  have HBf := Lib.hid (below_put4 b2 (Nat.le_refl _) (.string (bs mGet)) (.string (bs tA)) (.int .i64 n) (.slice (some ⟨N + 1, 0, none⟩) 1 1))
  have HOf := Lib.hid (show OwnF (put4 W2 N (.string (bs mGet)) (.string (bs tA)) (.int .i64 n) (.slice (some ⟨N + 1, 0, none⟩) 1 1)) N (.slice (some ⟨N + 1, 0, none⟩) 1 1) [(name, value)] from
    row_base (row_aside o2 (aside_put4 W2 N _ _ _ _) (fun k hk hg => by have := (World.ownsRow.lt o2 k hk).1; omega)) (by omega))
  obtain ⟨c0, c1, c2, c3⟩ := x2.four
  have cf := x2.fz
  obtain ⟨m0, m1, m2, m3⟩ := HK.out.four
  have e1 : bs mGet = ⟨#[71, 69, 84]⟩ := rfl
  have e2 : bs tA = ⟨#[47, 97]⟩ := rfl
  rw [e1, e2] at HBf HOf m0 m1 m2 m3
  rw [e1, e2]
  unfold put4 at HBf HOf m0 m1 m2 m3
  clear x1 x2 o2 b1 b12 b2 HK e1 e2
  go_enter Tryz.func26, Tryz.ntmps26
  go_wp2_with fail
  refine bodyPost_ret (by simp [results, Tryz.results26, go_sem, m0, m1, m2, m3]) rfl ⟨some ⟨N + 1, 0, none⟩, rfl, by rw [hN]; exact HOf.out, by rw [hN]; exact HBf.out⟩

set_option maxHeartbeats 1000000 in
theorem status_any {w : World} (s : List UInt8) (hs : s.length ≤ 1000000) (hE : Env w) : Calls Tryz.prog 25 #[.string (bs s)] w (Tells w (.int .i64 (parH s).2)) := by
  obtain ⟨cap, W, hcv, ho, hb, _⟩ := conv_B w s hs
  have HP := Lib.hid (parse_any s ((ho.sl).wide (Nat.zero_le _) (Nat.le_refl _)) (hE.later hb) hs)
  have HB := Lib.hid hb
  obtain ⟨R, hR⟩ : ∃ R, parH s = R := ⟨_, rfl⟩
  obtain ⟨hd, st⟩ := R
  unfold HedPost at HP
  rw [hR] at HP ⊢
  clear ho hb hR hE
  go_enter Tryz.func25, Tryz.ntmps25
  go_wp2_with fail
  refine (HP.out).mono ?_; rintro e w2 ⟨v, rfl, ⟨sl, rfl, ho⟩, hb2⟩
  obtain ⟨a2, c2, rfl⟩ := OwnF.shape ho
  have HB2 := Lib.hid (bel_call HB.out hb2)
  clear ho hb2
  go_wp2_with fail
  go_ret
  exact ⟨rfl, bel_alloc HB2.out _⟩
end Go.Proofs.YtknfgcmidpgifaaGreatDoor

/-
  The statements' awake.
-/
namespace Go.Proofs.YtknfgcmidpgifaaGreatDoor
open Go.RowKit Go.Shelf
set_option linter.unusedVariables false
set_option linter.unusedSimpArgs false
set_option maxRecDepth 100000

/-- Bytes that were just laid. -/
theorem sl_const (w : World) (l : List UInt8) (fz : Nat × Nat) (cs : Array Value) (h : cs = (l.map fun c => Value.int .u8 (c.toNat : Nat)).toArray) :
    Sl (w.alloc (.cells cs 5 fz)) w.heap.size (w.heap.size + 1) (.slice (some ⟨w.heap.size, 0, none⟩) l.length l.length) (iz l) := by
  subst h
  refine ⟨_, l.length, by rw [iz_len], by rw [iz_len]; exact Nat.le_refl _, fun h => by simp at h, fun _ => ⟨_, _, rfl, Nat.le_refl _, by omega, fun j hj => ?_⟩⟩
  rw [iz_len] at hj
  rw [World.cell?, heap_alloc_new, Nat.zero_add]
  simp only [List.getElem?_toArray, List.getElem?_map, List.getElem?_eq_getElem hj, Option.map_some]
  rw [iz_get l j hj]
  rfl

def ex1 : List UInt8 := [71, 69, 84, 32, 47, 97, 32, 72, 84, 84, 80, 47, 49, 46, 49, 13, 10, 72, 111, 115, 116, 58, 32, 120, 13, 10, 13, 10]
def ex2 : List UInt8 := [71, 69, 84, 32, 47, 97, 32, 72, 84, 84, 80, 47, 49, 46, 49, 13, 10, 13, 10]
def ex3 : List UInt8 := [71, 69, 84, 32, 47, 97, 32, 72, 84, 84, 80, 47, 50, 46, 48, 13, 10, 13, 10]
def nH : List UInt8 := [72, 111, 115, 116]
theorem par_ex1 : parH ex1 = (hof 1 nH [120], 200) := by rfl
theorem par_ex2 : (parH ex2).2 = 400 := by rfl
theorem par_ex3 : (parH ex3).2 = 505 := by rfl

theorem Calls.at_world {P : Program} {f : Nat} {args : Array Value} {w w' : World} {R : Ending → World → Prop} (h : w = w') (hc : Calls P f args w' R) : Calls P f args w R := h ▸ hc

set_option maxHeartbeats 8000000 in
theorem awake_any {w : World} (hE : Env w) : Calls Tryz.prog 10 #[] w (Tells w (.bool true)) := by
  have hcv := fun (w : World) (C : Array Value) (n c : Nat) => Lib.run_convert_bytes_const (P := Tryz.prog) w 28 5 C n c Tryz.underlying28 Tryz.underlying5
  obtain ⟨X0, hX0⟩ : ∃ X, w.alloc (.cells (ex1.map fun c => Value.int .u8 (c.toNat : Nat)).toArray 5 (28, 29)) = X := ⟨_, rfl⟩
  have hs0 : Sl X0 w.heap.size (w.heap.size + 1) (.slice (some ⟨w.heap.size, 0, none⟩) 28 28) (iz ex1) := by rw [← hX0]; exact sl_const w ex1 (28, 29) _ rfl
  have hb0 : Below w.heap.size w X0 := by rw [← hX0]; exact (Below.refl _ _).alloc (Nat.le_refl _) _
  have hz0 : X0.heap.size = w.heap.size + 1 := by rw [← hX0]; simp
  have HP := Lib.hid (parse_any ex1 (hs0.wide (Nat.zero_le _) (by rw [hz0]; exact Nat.le_refl _)) (hE.later hb0) (by decide))
  unfold HedPost at HP
  rw [par_ex1] at HP
  have HB0 := Lib.hid hb0
  have HE := Lib.hid hE
  have HX0 := Lib.hid hX0
  clear hs0 hb0 hz0 hE hX0
  go_enter Tryz.func10, Tryz.ntmps10
  go_wp2_with fail
  refine Calls.at_world (show _ = X0 from HX0.out) ?_
  refine (HP.out).mono ?_; rintro e w1 ⟨v1, rfl, ⟨sl, hv1, ho⟩, hb1⟩
  have hv1 : v1 = .agg #[.string (bs mGet), .string (bs tA), .int .i64 1, sl] := hv1
  subst hv1
  obtain ⟨a1, c1, hsl⟩ := OwnF.shape ho
  have hsl : sl = .slice a1 1 c1 := hsl
  subst hsl
  have HB1 := Lib.hid (bel_call HB0.out hb1)
  have hh1 : Hv w1 w1.heap.size (.agg #[.string (bs mGet), .string (bs tA), .int .i64 1, .slice a1 1 c1]) (hof 1 nH [120]) := ⟨_, rfl, OwnF.sf ho (by decide)⟩
  obtain ⟨W, hW⟩ : ∃ W, w1.alloc (.cells #[.string (bs mGet), .string (bs tA), .int .i64 1, .slice a1 1 c1] 24) = W := ⟨_, rfl⟩
  have hbW : Below w1.heap.size w1 W := by rw [← hW]; exact (Below.refl _ _).alloc (Nat.le_refl _) _
  have hxW : Cel W w1.heap.size [.string (bs mGet), .string (bs tA), .int .i64 1, .slice a1 1 c1] := by rw [← hW]; exact cel_new4 _ _ _ _ _ _
  have HXW := Lib.hid hxW
  have HBW := Lib.hid (bel_call HB1.out hbW)
  have HHW := Lib.hid (hh1.later hbW)
  have HW := Lib.hid hW
  clear ho hb1 hh1 hbW hW hxW
  go_wp2_with fail
  rw [HW.out]
  have hq : ∀ w2, Below W.heap.size W w2 → w2.cell? ⟨w1.heap.size, 0, none⟩ = some (.string (bs mGet)) ∧ w2.cell? ⟨w1.heap.size, 1, none⟩ = some (.string (bs tA)) ∧ w2.cell? ⟨w1.heap.size, 2, none⟩ = some (.int .i64 1) ∧ w2.cell? ⟨w1.heap.size, 3, none⟩ = some (.slice a1 1 c1) := fun w2 hb => (HXW.out.below (by simp) hb).four
  have HQ := Lib.hid hq
  have HOF := Lib.hid (fun w => of_any 1 nH [120] w)
  have HS2 := Lib.hid (fun (w2 : World) (hb : Below W.heap.size W w2) => status_any ex2 (by decide) (HE.out.later (bel_call HBW.out hb)))
  have HS3 := Lib.hid (fun (w2 : World) (hb : Below W.heap.size W w2) => status_any ex3 (by decide) (HE.out.later (bel_call HBW.out hb)))
  rw [par_ex2] at HS2
  rw [par_ex3] at HS3
  clear hq hcv HP HX0 HW
  go_region_held3 (fun wx => wx.cell? ⟨w1.heap.size, 0, none⟩ = some (.string (bs mGet)) ∧ wx.cell? ⟨w1.heap.size, 1, none⟩ = some (.string (bs tA)) ∧ wx.cell? ⟨w1.heap.size, 2, none⟩ = some (.int .i64 1) ∧ wx.cell? ⟨w1.heap.size, 3, none⟩ = some (.slice a1 1 c1)) (first | exact HQ.out _ (Below.refl _ W).drew | exact HQ.out _ HB2.out | exact HQ.out _ HB3.out | exact HQ.out _ HB4.out | exact HQ.out _ HB5.out) (first
    | (go_at_call 26; refine (HOF.out W.drew).mono ?_; rintro e w2 ⟨a2, rfl, ho2, hb2⟩; have HB2 : Hid (Below W.heap.size W w2) := bel_call (Below.refl _ W).drew hb2; have HO2 : Hid (SF w2 w2.heap.size (.slice a2 1 1) [(nH, [120])]) := OwnF.sf ho2 (by decide); clear ho2 hb2)
    | (go_at_call 18; refine (sameH_yes (HHW.out.later HB2.out) (h := hof 1 nH [120]) ⟨_, rfl, HO2.out⟩ (Nat.le_refl _) (Nat.le_refl _)).mono ?_; rintro e w3 ⟨rfl, hb3⟩; have HB3 : Hid (Below W.heap.size W w3) := bel_call HB2.out hb3; clear hb3)
    | (go_at_call 25; refine (HS3.out _ HB4.out).mono ?_; rintro e w5 ⟨rfl, hb5⟩; have HB5 : Hid (Below W.heap.size W w5) := bel_call HB4.out hb5; clear hb5)
    | (go_at_call 25; refine (HS2.out _ HB3.out).mono ?_; rintro e w4 ⟨rfl, hb4⟩; have HB4 : Hid (Below W.heap.size W w4) := bel_call HB3.out hb4; clear hb4))
  all_goals
    go_wp2_with fail
    go_ret
    exact ⟨rfl, bel_call HBW.out HB5.out⟩
end Go.Proofs.YtknfgcmidpgifaaGreatDoor
