/-
  RecSames: for every input the law's Go text returns true, and the input reads as it did before. No condition.
-/
import Derived.Test.YtaikpgcmcmkdcaaRows
import Derived.WalkKit
import Derived.ProofKit
import Derived.OpenShut
import Derived.Test.YtaikpgcmcmkdcaaZOv
import Derived.ChangeOld
import Derived.Below
namespace Go.Proofs.Ytaikpgcmcmkdcaa.recSames
open Go.ChangeShapes Go.WideShapes Go.ChangeAt Go.RowKit
set_option linter.unusedVariables false

theorem own : ownKnob Try.prog.godebug = none := by kernel_rfl
theorem laidOut : laidOutB Try.prog = true := by kernel_rfl

/-! ### The walk -/
theorem walk (s0 : ByteArray) (t0 c0 l0 : Int) (u0 : ByteArray) (s1 : ByteArray) (t1 c1 l1 : Int) (u1 : ByteArray) (s2 : ByteArray) (t2 c2 l2 : Int) (u2 : ByteArray) (a3 : Int) (w : World)  :
    Calls Try.prog 7 #[.agg #[.string s0, .int .i64 t0, .int .i64 c0, .int .i64 l0, .string u0], .agg #[.string s1, .int .i64 t1, .int .i64 c1, .int .i64 l1, .string u1], .agg #[.string s2, .int .i64 t2, .int .i64 c2, .int .i64 l2, .string u2], .int .i64 a3] w fun e w' => e = .returned (.bool true) ∧ Below w.heap.size w w' := by
  rw [bs_eta s0, bs_eta u0, bs_eta s1, bs_eta u1, bs_eta s2, bs_eta u2]
  exact samesC_any _ t0 c0 l0 _ _ t1 c1 l1 _ _ t2 c2 l2 _ a3 w

/-! ### The row's step -/
set_option maxRecDepth 100000 in
theorem lifted (os : Os) (started : os.Started) (H : Type) (enc : TypeId × Value → H) :
    ReturnsInHanded {} Try.checked os 7 .any (Rows.recSamesSpec.pre6 enc Try.prog Try.f7 Rows.recSamesRow.domain false) (Rows.recSamesSpec.post enc Try.prog Try.f7 false true false false) := by
  refine returnsInHanded_of_change (C := Try.checked) own started (by kernel_rfl) Try.func7
    (ChangeSpec.witness6 (enc := enc) (C := Try.checked) false ⟨#[], #[.agg #[.string ⟨#[]⟩, .int .i64 0, .int .i64 0, .int .i64 0, .string ⟨#[]⟩], .agg #[.string ⟨#[]⟩, .int .i64 0, .int .i64 0, .int .i64 0, .string ⟨#[]⟩], .agg #[.string ⟨#[]⟩, .int .i64 0, .int .i64 0, .int .i64 0, .string ⟨#[]⟩], .int .i64 0], []⟩ 8 (by kernel_rfl) (by kernel_rfl) (by kernel_rfl) (by kernel_rfl)) ?_
  intro W base args ds gs before hval0 hW hcnd _
  have hval : ∀ (j : Nat) t v, Try.f7.params[j]? = some t → args[j]? = some v → Value.okWide Try.prog W .any base t v := hval0
  have hW' := hW
  obtain ⟨p, q, hA0, hV, rfl, hfz, hnd⟩ := hW
  have hA : DataW.TrodAll enc Try.prog W 0 (fun _ => true) true Try.f7.params.toList args.toList ds p := hA0
  rw [Try.params7] at hA hval
  obtain ⟨v0, vs0, d0, ds0, p0, q0, hargs, rfl, rfl, h0, r0⟩ := trodAll_cons hA
  obtain ⟨v1, vs1, d1, ds1, p1, q1, rfl, rfl, rfl, h1, r1⟩ := trodAll_cons r0
  obtain ⟨v2, vs2, d2, ds2, p2, q2, rfl, rfl, rfl, h2, r2⟩ := trodAll_cons r1
  obtain ⟨v3, vs3, d3, ds3, p3, q3, rfl, rfl, rfl, h3, r3⟩ := trodAll_cons r2
  obtain ⟨rfl, rfl, rfl⟩ := trodAll_nil r3
  obtain rfl : args = #[v0, v1, v2, v3] := by cases args; simp_all
  obtain ⟨rfl, rfl⟩ := trodVars_none hV
  obtain ⟨cs0, rfl, hsz0⟩ := okWide_struct Try.underlying23 (hval 0 23 v0 rfl rfl)
  have k0 := h0
  have lt0 : ∀ x ∈ p0, x.block < W.heap.size := by obtain ⟨m, hm⟩ := k0; exact DataW.trod_lt m _ _ _ hm
  obtain ⟨s0, t0, c0, l0, u0, w0⟩ : ∃ (s : ByteArray) (t c l : Int) (d : ByteArray), cs0.toList = [.string s, .int .i64 t, .int .i64 c, .int .i64 l, .string d] := by
    obtain ⟨fuel, hf⟩ := h0
    exact open_rec hf (by rw [Array.length_toList, hsz0]; exact cells_rec)
  obtain rfl : cs0 = #[.string s0, .int .i64 t0, .int .i64 c0, .int .i64 l0, .string u0] := Array.toList_inj.mp w0
  obtain ⟨cs1, rfl, hsz1⟩ := okWide_struct Try.underlying23 (hval 1 23 v1 rfl rfl)
  have k1 := h1
  have lt1 : ∀ x ∈ p1, x.block < W.heap.size := by obtain ⟨m, hm⟩ := k1; exact DataW.trod_lt m _ _ _ hm
  obtain ⟨s1, t1, c1, l1, u1, w1⟩ : ∃ (s : ByteArray) (t c l : Int) (d : ByteArray), cs1.toList = [.string s, .int .i64 t, .int .i64 c, .int .i64 l, .string d] := by
    obtain ⟨fuel, hf⟩ := h1
    exact open_rec hf (by rw [Array.length_toList, hsz1]; exact cells_rec)
  obtain rfl : cs1 = #[.string s1, .int .i64 t1, .int .i64 c1, .int .i64 l1, .string u1] := Array.toList_inj.mp w1
  obtain ⟨cs2, rfl, hsz2⟩ := okWide_struct Try.underlying23 (hval 2 23 v2 rfl rfl)
  have k2 := h2
  have lt2 : ∀ x ∈ p2, x.block < W.heap.size := by obtain ⟨m, hm⟩ := k2; exact DataW.trod_lt m _ _ _ hm
  obtain ⟨s2, t2, c2, l2, u2, w2⟩ : ∃ (s : ByteArray) (t c l : Int) (d : ByteArray), cs2.toList = [.string s, .int .i64 t, .int .i64 c, .int .i64 l, .string d] := by
    obtain ⟨fuel, hf⟩ := h2
    exact open_rec hf (by rw [Array.length_toList, hsz2]; exact cells_rec)
  obtain rfl : cs2 = #[.string s2, .int .i64 t2, .int .i64 c2, .int .i64 l2, .string u2] := Array.toList_inj.mp w2
  obtain ⟨a3, rfl, rfl, rfl, w3⟩ := open_int Try.underlying3 (hval 3 3 v3 rfl rfl) h3
  clear hA0 hval0
  refine (walk s0 t0 c0 l0 u0 s1 t1 c1 l1 u1 s2 t2 c2 l2 u2 a3 W).mono fun e W' ⟨he, bel⟩ => ?_
  subst he
  exact ⟨_, rfl, _, _, _, [], _, [], hW', trodAll_mk1 (shut_bool Try.underlying4 _), (trodAll_cons_mk (Below.trod laidOut (by kernel_rfl) (of_decide_eq_true (by kernel_rfl)) k0 bel lt0) (trodAll_cons_mk (Below.trod laidOut (by kernel_rfl) (of_decide_eq_true (by kernel_rfl)) k1 bel lt1) (trodAll_cons_mk (Below.trod laidOut (by kernel_rfl) (of_decide_eq_true (by kernel_rfl)) k2 bel lt2) (trodAll_cons_mk (shut_int Try.underlying3 w3) trodAll_mk0)))), rfl, bel.frame _, fun h => by cases h⟩

theorem over : Rows.recSamesRow.holds Try.pinned (OpenSpec.ofChange Rows.recSamesSpec) :=
  OpenClaim.holds_of_wide 7 Try.f7 rfl rfl rfl rfl rfl rfl rfl ⟨rfl, rfl, rfl, rfl, rfl⟩ rfl rfl rfl rfl rfl (by kernel_rfl) Try.func7 (by kernel_rfl)
    (of_decide_eq_true (by kernel_rfl)) (by unfold Func.isWrapper; first | (rw [if_pos (by decide +kernel)]; kernel_rfl) | (rw [if_neg (by decide +kernel)]; exact ⟨rfl, rfl⟩))
    (fun os started H enc _ => lifted os started H enc)

/-- The statement. -/
theorem proved : Rows.RecSamesSaid := over
end Go.Proofs.Ytaikpgcmcmkdcaa.recSames
