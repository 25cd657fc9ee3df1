/-
  How many bytes of a name are ahead of what is known; its rest; what is learnt.
-/
import Derived.Test.YtaikpgcmcmkdcaaKl
import Derived.Deep.LoopGhost
import Derived.BigQuiet
import Derived.Outline
namespace Go.Proofs.Ytaikpgcmcmkdcaa
open Go.RowKit Go.Shelf
set_option linter.unusedVariables false
set_option maxRecDepth 100000

set_option maxRecDepth 100000 in
set_option maxHeartbeats 1000000 in
theorem ahead_any {w : World} {p bm e : Nat} {K : List (List UInt8 × Nat)} (h : Pk w p bm K e) {ls : List (List UInt8)} (hs : Shorts ls) :
    Calls Try.prog 60 #[.pointer (some ⟨p, 0, none⟩), .string (bs (nm ls))] w (Tells w (.int .i64 (pos ls (hdn K ls)))) := by
  have HP := Lib.hid h
  have hnl : (nm ls).length ≤ 255 := by rw [nm_len]; have := hs.2; omega
  clear h
  go_enter Try.func60, Try.ntmps60
  go_wp2
  go_loopg [5] ls.length (fun g v5 wr => ∃ k : Nat, k + g = ls.length ∧ v5 = .int .i64 (pos ls k) ∧ Hid (hdn K ls = k + hdn K (ls.drop k)) ∧ Hid (Below w.heap.size w wr))
  case atStart => exact ⟨0, by omega, by rw [pos_zero]; rfl, by rw [List.drop_zero, Nat.zero_add]; exact Lib.hid rfl, Below.refl _ _⟩
  case round =>
    obtain ⟨k, hk, rfl, HH, HB⟩ := hrel
    have hPk := HP.out.later HB.out
    by_cases hlt : k < ls.length
    · obtain ⟨hp, hat⟩ := nm_at hlt hs.1
      have hix := ix_run (nm ls) (pos ls k) hp
      have hfr := from_run (nm ls) (pos ls k) (by omega)
      rw [hat] at hix
      rw [nm_drop] at hfr
      have hlk := fun n => (hPk.map.aside (Aside.drewN (G := fun _ => False) wr n) (fun h => h)).look (nm (ls.drop k)) (by rw [← nm_drop, List.length_drop]; omega)
      have hc63 := hs.1 ls[k] (List.getElem_mem hlt)
      have hps := pos_succ hlt
      have hple := pos_le ls (k + 1)
      rw [nm_len] at hnl hp
      obtain ⟨hst1, hst2⟩ := hdn_step K ls k hlt HH.out
      have c1 := hPk.tails
      obtain ⟨c, hc⟩ : ∃ c, ls[k].length = c := ⟨_, rfl⟩
      obtain ⟨q, hq⟩ : ∃ q, pos ls k = q := ⟨_, rfl⟩
      obtain ⟨T, hT⟩ : ∃ T, nm (ls.drop k) = T := ⟨_, rfl⟩
      rw [hc] at hix hc63 hps
      rw [hq] at hix hfr hps hp ⊢
      rw [hT] at hfr hlk hst1 hst2
      have tc : ((c : Int) != 0) = true := by simp; omega
      rcases hpl : plc K T with _ | x
      · have HH2 := Lib.hid (hst2 hpl)
        rw [hpl] at hlk
        simp only [Option.isSome_none, Option.getD_none] at hlk
        have HQ := Lib.hid (show (q : Int) + (1 + c) = (pos ls (k + 1) : Nat) by rw [hps]; push_cast; rfl)
        have hqb : q ≤ 255 := by omega
        clear hst1 hst2 hpl hc hT hps hple hPk hq
        go_wp2_with fail
        go_quiet (fail)
        go_wp2_with fail
        go_roundg (ls.length - (k + 1))
        case measure => omega
        case rel => exact ⟨k + 1, by omega, by rw [← HQ.out], HH2, below_drewN HB.out _⟩
      · have hst := hst1 x hpl
        rw [hpl] at hlk
        simp only [Option.isSome_some, Option.getD_some] at hlk
        have HE := Lib.hid (show pos ls (hdn K ls) = q by rw [hst, hq])
        clear hst1 hst2 hpl hc hT hst hps hple hPk hq
        go_wp2_with fail
        go_quiet (fail)
        go_wp2_with fail
        go_ret
        exact ⟨by rw [HE.out]; rfl, below_drewN HB.out _⟩
    · have hke : k = ls.length := by omega
      subst hke
      obtain ⟨hp, hat⟩ := nm_end ls
      have hix := ix_run (nm ls) (pos ls ls.length) hp
      rw [hat] at hix
      have HE := Lib.hid (show pos ls (hdn K ls) = pos ls ls.length by rw [HH.out, List.drop_length]; rfl)
      obtain ⟨q, hq⟩ : ∃ q, pos ls ls.length = q := ⟨_, rfl⟩
      rw [hq] at hix HE ⊢
      clear hPk hq
      go_wp2_with fail
      go_ret
      exact ⟨by rw [HE.out]; rfl, HB.out⟩
end Go.Proofs.Ytaikpgcmcmkdcaa
