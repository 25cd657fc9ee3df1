/-
  No cell of these rows narrows 'for every input' (looked for: loops, veiled, ifaces, maps, wideKeys, modest, calm, conditions, laid).
  DERIVED. THE GIVEN ROWS OF THIS SEAT. 5 by the template 'for every input the law returns true; each argument reads behind the call as it read before'; 0 by the template 'total and deterministic' (their statements: YteegekpanadmkaaGreatTotals.lean).
  GIVEN WITH THE SEED: the statements are not yours to turn. If you find one false, say at which input.
  Laid BY PROGRAM, IN A SANDBOX (cutbox-rows.mjs): the forced cells as the released guide's own fill.sh prints them over the translation cc473784b04aee3b… (all of the seat's roots in one cut). By AI agents, Wed Nov 11 2026. No macro, syntax, notation, axiom, sorry.
-/
import Derived.Test.YteegekpanadmkaaGreatChecked
import GoSem.Claim
import GoSem.ClaimJoined
import GoSem.ClaimMapViews
import Derived.JoinedTies
import Derived.KernelRfl
namespace Go.Proofs.YteegekpanadmkaaGreat
/- THE CELL 'sum', in the pinned program and in every row, IS THE sha256 OF THE DUMP (.gsa) THAT YteegekpanadmkaaGreatProg.lean LOADS. Nothing in Lean hashes anything: it is a label: what it is worth is what the hold of that sum in a sandbox is worth. -/
noncomputable def Tryz.pinned : Pinned := { name := "yteegekpanadmkaagreat", sum := "cc473784b04aee3b6b85faf9ea57fe0bd6df85d75e0474a47c39aebf4385c15c", checked := Tryz.checked }
namespace Rows
def none {H : Type} : Left H := { results := [], args := [] }

/-- 'ostiarylaw10.TrimFits': WHATEVER THE INPUT: true; the input reads as it did. -/
def trimFitsSpec : ChangeSpec := { name := "trimFits", fn := fun _ => fun
  | [d1, d2] => { results := [.lit (.bool true)], args := [d1, d2] }
  | _ => none }
def trimFitsRow : OpenClaim := { program := "yteegekpanadmkaagreat", sum := "cc473784b04aee3b6b85faf9ea57fe0bd6df85d75e0474a47c39aebf4385c15c", func := "ostiary/ostiarylaw10.TrimFits", spec := "trimFits", unfollowed := true, recurses := true, apart := false }
def TrimFitsSaid : Prop := trimFitsRow.holds Tryz.pinned (OpenSpec.ofChange trimFitsSpec)

/-- ITS FALSE NEIGHBOUR: 'it returns false'. Refute it at one input. -/
def trimFitsWrong : ChangeSpec := { name := "trimFits", fn := fun _ => fun
  | [d1, d2] => { results := [.lit (.bool false)], args := [d1, d2] }
  | _ => none }
def TrimFitsWrongFalsely : Prop := trimFitsRow.holds Tryz.pinned (OpenSpec.ofChange trimFitsWrong)

/-- 'ostiarylaw10.TrimKeeps': WHATEVER THE INPUT: true; the input reads as it did. -/
def trimKeepsSpec : ChangeSpec := { name := "trimKeeps", fn := fun _ => fun
  | [d1, d2] => { results := [.lit (.bool true)], args := [d1, d2] }
  | _ => none }
def trimKeepsRow : OpenClaim := { program := "yteegekpanadmkaagreat", sum := "cc473784b04aee3b6b85faf9ea57fe0bd6df85d75e0474a47c39aebf4385c15c", func := "ostiary/ostiarylaw10.TrimKeeps", spec := "trimKeeps", unfollowed := true, recurses := true, apart := false }
def TrimKeepsSaid : Prop := trimKeepsRow.holds Tryz.pinned (OpenSpec.ofChange trimKeepsSpec)

/-- ITS FALSE NEIGHBOUR: 'it returns false'. Refute it at one input. -/
def trimKeepsWrong : ChangeSpec := { name := "trimKeeps", fn := fun _ => fun
  | [d1, d2] => { results := [.lit (.bool false)], args := [d1, d2] }
  | _ => none }
def TrimKeepsWrongFalsely : Prop := trimKeepsRow.holds Tryz.pinned (OpenSpec.ofChange trimKeepsWrong)

/-- 'ostiarylaw10.TrimMore': WHATEVER THE INPUT: true; the input reads as it did. -/
def trimMoreSpec : ChangeSpec := { name := "trimMore", fn := fun _ => fun
  | [d1, d2, d3] => { results := [.lit (.bool true)], args := [d1, d2, d3] }
  | _ => none }
def trimMoreRow : OpenClaim := { program := "yteegekpanadmkaagreat", sum := "cc473784b04aee3b6b85faf9ea57fe0bd6df85d75e0474a47c39aebf4385c15c", func := "ostiary/ostiarylaw10.TrimMore", spec := "trimMore", unfollowed := true, recurses := true, apart := false }
def TrimMoreSaid : Prop := trimMoreRow.holds Tryz.pinned (OpenSpec.ofChange trimMoreSpec)

/-- ITS FALSE NEIGHBOUR: 'it returns false'. Refute it at one input. -/
def trimMoreWrong : ChangeSpec := { name := "trimMore", fn := fun _ => fun
  | [d1, d2, d3] => { results := [.lit (.bool false)], args := [d1, d2, d3] }
  | _ => none }
def TrimMoreWrongFalsely : Prop := trimMoreRow.holds Tryz.pinned (OpenSpec.ofChange trimMoreWrong)

/-- 'ostiarylaw10.TrimLeast': WHATEVER THE INPUT: true; the input reads as it did. -/
def trimLeastSpec : ChangeSpec := { name := "trimLeast", fn := fun _ => fun
  | [d] => { results := [.lit (.bool true)], args := [d] }
  | _ => none }
def trimLeastRow : OpenClaim := { program := "yteegekpanadmkaagreat", sum := "cc473784b04aee3b6b85faf9ea57fe0bd6df85d75e0474a47c39aebf4385c15c", func := "ostiary/ostiarylaw10.TrimLeast", spec := "trimLeast", unfollowed := true, recurses := true, apart := false }
def TrimLeastSaid : Prop := trimLeastRow.holds Tryz.pinned (OpenSpec.ofChange trimLeastSpec)

/-- ITS FALSE NEIGHBOUR: 'it returns false'. Refute it at one input. -/
def trimLeastWrong : ChangeSpec := { name := "trimLeast", fn := fun _ => fun
  | [d] => { results := [.lit (.bool false)], args := [d] }
  | _ => none }
def TrimLeastWrongFalsely : Prop := trimLeastRow.holds Tryz.pinned (OpenSpec.ofChange trimLeastWrong)

/-- 'ostiarylaw10.TrimKnown': WHATEVER THE INPUT: true; the input reads as it did. -/
def trimKnownSpec : ChangeSpec := { name := "trimKnown", fn := fun _ => fun
  | [] => { results := [.lit (.bool true)], args := [] }
  | _ => none }
def trimKnownRow : OpenClaim := { program := "yteegekpanadmkaagreat", sum := "cc473784b04aee3b6b85faf9ea57fe0bd6df85d75e0474a47c39aebf4385c15c", func := "ostiary/ostiarylaw10.TrimKnown", spec := "trimKnown", unfollowed := true, recurses := true, apart := false }
def TrimKnownSaid : Prop := trimKnownRow.holds Tryz.pinned (OpenSpec.ofChange trimKnownSpec)

/-- ITS FALSE NEIGHBOUR: 'it returns false'. Refute it at one input. -/
def trimKnownWrong : ChangeSpec := { name := "trimKnown", fn := fun _ => fun
  | [] => { results := [.lit (.bool false)], args := [] }
  | _ => none }
def TrimKnownWrongFalsely : Prop := trimKnownRow.holds Tryz.pinned (OpenSpec.ofChange trimKnownWrong)

/- THE SECOND FORM. 'bulk': how many values and letters a reading holds, each counted each time it is reached (what is shared counts as often as it is met; a slice's spare places count too). A statement '..UptoSaid' is the law's where the arguments, and the package variables that the reading takes, are together of bulk at most 1048576: NARROWER than '..Said'. Prove '..Said' where nothing that the law and all that it calls make is longer than what came in: it says more and counts as full. Else prove '..UptoSaid'. A law counts once. -/
mutual
def uptoBulk {H : Type} : DataW H → Nat
  | .lit (.string bytes) => bytes.length + 1
  | .lit _ => 1
  | .nil => 1
  | .ptr d => uptoBulk d + 1
  | .slice elems spare => uptoBulkAll elems + uptoBulkAll spare + 1
  | .agg parts => uptoBulkAll parts + 1
  | .iface _ d => uptoBulk d + 1
  | .map entries => uptoBulkEntries entries + 1
  | .held _ => 1
def uptoBulkAll {H : Type} : List (DataW H) → Nat
  | [] => 0
  | d :: r => uptoBulk d + uptoBulkAll r
def uptoBulkEntries {H : Type} : List (Lit × DataW H) → Nat
  | [] => 0
  | x :: r => uptoBulkEntry x + uptoBulkEntries r
def uptoBulkEntry {H : Type} : Lit × DataW H → Nat
  | (.string bytes, d) => bytes.length + uptoBulk d + 1
  | (_, d) => uptoBulk d + 1
 end
def uptoSmall : (H : Type) → List (DataW H) → Bool := fun _ ds => decide (uptoBulkAll ds ≤ 1048576)
def OpenSpec.upto (s : _root_.Go.ChangeSpec) : _root_.Go.OpenSpec := { _root_.Go.OpenSpec.ofChange s with cond := some uptoSmall }

/-- 'ostiarylaw10.TrimFits', WHERE WHAT IT READS IS OF BULK AT MOST 1048576: true; the input reads as it did. -/
def trimFitsUptoRow : OpenClaim := { program := "yteegekpanadmkaagreat", sum := "cc473784b04aee3b6b85faf9ea57fe0bd6df85d75e0474a47c39aebf4385c15c", func := "ostiary/ostiarylaw10.TrimFits", spec := "trimFits", unfollowed := true, recurses := true, apart := false, narrowed := true }
def TrimFitsUptoSaid : Prop := trimFitsUptoRow.holds Tryz.pinned (OpenSpec.upto trimFitsSpec)

/-- 'ostiarylaw10.TrimKeeps', WHERE WHAT IT READS IS OF BULK AT MOST 1048576: true; the input reads as it did. -/
def trimKeepsUptoRow : OpenClaim := { program := "yteegekpanadmkaagreat", sum := "cc473784b04aee3b6b85faf9ea57fe0bd6df85d75e0474a47c39aebf4385c15c", func := "ostiary/ostiarylaw10.TrimKeeps", spec := "trimKeeps", unfollowed := true, recurses := true, apart := false, narrowed := true }
def TrimKeepsUptoSaid : Prop := trimKeepsUptoRow.holds Tryz.pinned (OpenSpec.upto trimKeepsSpec)

/-- 'ostiarylaw10.TrimMore', WHERE WHAT IT READS IS OF BULK AT MOST 1048576: true; the input reads as it did. -/
def trimMoreUptoRow : OpenClaim := { program := "yteegekpanadmkaagreat", sum := "cc473784b04aee3b6b85faf9ea57fe0bd6df85d75e0474a47c39aebf4385c15c", func := "ostiary/ostiarylaw10.TrimMore", spec := "trimMore", unfollowed := true, recurses := true, apart := false, narrowed := true }
def TrimMoreUptoSaid : Prop := trimMoreUptoRow.holds Tryz.pinned (OpenSpec.upto trimMoreSpec)

/-- 'ostiarylaw10.TrimLeast', WHERE WHAT IT READS IS OF BULK AT MOST 1048576: true; the input reads as it did. -/
def trimLeastUptoRow : OpenClaim := { program := "yteegekpanadmkaagreat", sum := "cc473784b04aee3b6b85faf9ea57fe0bd6df85d75e0474a47c39aebf4385c15c", func := "ostiary/ostiarylaw10.TrimLeast", spec := "trimLeast", unfollowed := true, recurses := true, apart := false, narrowed := true }
def TrimLeastUptoSaid : Prop := trimLeastUptoRow.holds Tryz.pinned (OpenSpec.upto trimLeastSpec)

/-- 'ostiarylaw10.TrimKnown', WHERE WHAT IT READS IS OF BULK AT MOST 1048576: true; the input reads as it did. -/
def trimKnownUptoRow : OpenClaim := { program := "yteegekpanadmkaagreat", sum := "cc473784b04aee3b6b85faf9ea57fe0bd6df85d75e0474a47c39aebf4385c15c", func := "ostiary/ostiarylaw10.TrimKnown", spec := "trimKnown", unfollowed := true, recurses := true, apart := false, narrowed := true }
def TrimKnownUptoSaid : Prop := trimKnownUptoRow.holds Tryz.pinned (OpenSpec.upto trimKnownSpec)

end Rows
end Go.Proofs.YteegekpanadmkaaGreat
