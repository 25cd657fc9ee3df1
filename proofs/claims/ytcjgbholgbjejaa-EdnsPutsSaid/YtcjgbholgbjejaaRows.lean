/-
  No cell of these rows narrows 'for every input' (looked for: loops, veiled, ifaces, maps, wideKeys, modest, calm, conditions, laid).
  DERIVED. THE GIVEN ROWS OF THIS SEAT. 4 by the template 'for every input the law returns true; each argument reads behind the call as it read before'; 0 by the template 'total and deterministic' (their statements: YtcjgbholgbjejaaTotals.lean).
  GIVEN WITH THE SEED: the statements are not yours to turn. If you find one false, say at which input.
  Laid BY PROGRAM, IN A SANDBOX (cutbox-rows.mjs): the forced cells as the released guide's own fill.sh prints them over the translation b87789ebce0b7351… (all of the seat's roots in one cut). By AI agents, Wed Nov 11 2026. No macro, syntax, notation, axiom, sorry.
-/
import Derived.Test.YtcjgbholgbjejaaChecked
import GoSem.Claim
import GoSem.ClaimJoined
import GoSem.ClaimMapViews
import Derived.JoinedTies
import Derived.KernelRfl
namespace Go.Proofs.Ytcjgbholgbjejaa
/- THE CELL 'sum', in the pinned program and in every row, IS THE sha256 OF THE DUMP (.gsa) THAT YtcjgbholgbjejaaProg.lean LOADS. Nothing in Lean hashes anything: it is a label: what it is worth is what the hold of that sum in a sandbox is worth. -/
noncomputable def Try.pinned : Pinned := { name := "ytcjgbholgbjejaa", sum := "b87789ebce0b73512f881583471ddfb1c1bcef5826a6b5be25cb83e52476cd89", checked := Try.checked }
namespace Rows
def none {H : Type} : Left H := { results := [], args := [] }

/-- 'ostiarylaw09.EdnsTells': WHATEVER THE INPUT: true; the input reads as it did. -/
def ednsTellsSpec : ChangeSpec := { name := "ednsTells", fn := fun _ => fun
  | [d] => { results := [.lit (.bool true)], args := [d] }
  | _ => none }
def ednsTellsRow : OpenClaim := { program := "ytcjgbholgbjejaa", sum := "b87789ebce0b73512f881583471ddfb1c1bcef5826a6b5be25cb83e52476cd89", func := "ostiary/ostiarylaw09.EdnsTells", spec := "ednsTells", unfollowed := true, recurses := true, apart := false }
def EdnsTellsSaid : Prop := ednsTellsRow.holds Try.pinned (OpenSpec.ofChange ednsTellsSpec)

/-- ITS FALSE NEIGHBOUR: 'it returns false'. Refute it at one input. -/
def ednsTellsWrong : ChangeSpec := { name := "ednsTells", fn := fun _ => fun
  | [d] => { results := [.lit (.bool false)], args := [d] }
  | _ => none }
def EdnsTellsWrongFalsely : Prop := ednsTellsRow.holds Try.pinned (OpenSpec.ofChange ednsTellsWrong)

/-- 'ostiarylaw09.EdnsPuts': WHATEVER THE INPUT: true; the input reads as it did. -/
def ednsPutsSpec : ChangeSpec := { name := "ednsPuts", fn := fun _ => fun
  | [d1, d2] => { results := [.lit (.bool true)], args := [d1, d2] }
  | _ => none }
def ednsPutsRow : OpenClaim := { program := "ytcjgbholgbjejaa", sum := "b87789ebce0b73512f881583471ddfb1c1bcef5826a6b5be25cb83e52476cd89", func := "ostiary/ostiarylaw09.EdnsPuts", spec := "ednsPuts", unfollowed := true, recurses := true, apart := false }
def EdnsPutsSaid : Prop := ednsPutsRow.holds Try.pinned (OpenSpec.ofChange ednsPutsSpec)

/-- ITS FALSE NEIGHBOUR: 'it returns false'. Refute it at one input. -/
def ednsPutsWrong : ChangeSpec := { name := "ednsPuts", fn := fun _ => fun
  | [d1, d2] => { results := [.lit (.bool false)], args := [d1, d2] }
  | _ => none }
def EdnsPutsWrongFalsely : Prop := ednsPutsRow.holds Try.pinned (OpenSpec.ofChange ednsPutsWrong)

/-- 'ostiarylaw09.EdnsStrips': WHATEVER THE INPUT: true; the input reads as it did. -/
def ednsStripsSpec : ChangeSpec := { name := "ednsStrips", fn := fun _ => fun
  | [d] => { results := [.lit (.bool true)], args := [d] }
  | _ => none }
def ednsStripsRow : OpenClaim := { program := "ytcjgbholgbjejaa", sum := "b87789ebce0b73512f881583471ddfb1c1bcef5826a6b5be25cb83e52476cd89", func := "ostiary/ostiarylaw09.EdnsStrips", spec := "ednsStrips", unfollowed := true, recurses := true, apart := false }
def EdnsStripsSaid : Prop := ednsStripsRow.holds Try.pinned (OpenSpec.ofChange ednsStripsSpec)

/-- ITS FALSE NEIGHBOUR: 'it returns false'. Refute it at one input. -/
def ednsStripsWrong : ChangeSpec := { name := "ednsStrips", fn := fun _ => fun
  | [d] => { results := [.lit (.bool false)], args := [d] }
  | _ => none }
def EdnsStripsWrongFalsely : Prop := ednsStripsRow.holds Try.pinned (OpenSpec.ofChange ednsStripsWrong)

/-- 'ostiarylaw09.EdnsKnown': WHATEVER THE INPUT: true; the input reads as it did. -/
def ednsKnownSpec : ChangeSpec := { name := "ednsKnown", fn := fun _ => fun
  | [] => { results := [.lit (.bool true)], args := [] }
  | _ => none }
def ednsKnownRow : OpenClaim := { program := "ytcjgbholgbjejaa", sum := "b87789ebce0b73512f881583471ddfb1c1bcef5826a6b5be25cb83e52476cd89", func := "ostiary/ostiarylaw09.EdnsKnown", spec := "ednsKnown", unfollowed := true, recurses := true, apart := false }
def EdnsKnownSaid : Prop := ednsKnownRow.holds Try.pinned (OpenSpec.ofChange ednsKnownSpec)

/-- ITS FALSE NEIGHBOUR: 'it returns false'. Refute it at one input. -/
def ednsKnownWrong : ChangeSpec := { name := "ednsKnown", fn := fun _ => fun
  | [] => { results := [.lit (.bool false)], args := [] }
  | _ => none }
def EdnsKnownWrongFalsely : Prop := ednsKnownRow.holds Try.pinned (OpenSpec.ofChange ednsKnownWrong)

/- THE SECOND FORM. 'bulk': how many values and letters a reading holds, each counted each time it is reached (what is shared counts as often as it is met; a slice's spare places count too). A statement '..UptoSaid' is the law's where the arguments, and the package variables that the reading takes, are together of bulk at most 1048576: NARROWER than '..Said'. Prove '..Said' where nothing that the law and all that it calls make is longer than what came in: it says more and counts as full. Else prove '..UptoSaid'. A law counts once. -/
mutual
def uptoBulk {H : Type} : DataW H → Nat
  | .lit (.string bytes) => bytes.length + 1
  | .lit _ => 1
  | .nil => 1
  | .ptr d => uptoBulk d + 1
  | .slice elems spare => uptoBulkAll elems + uptoBulkAll spare + 1
  | .agg parts => uptoBulkAll parts + 1
  | .iface _ d => uptoBulk d + 1
  | .map entries => uptoBulkEntries entries + 1
  | .held _ => 1
def uptoBulkAll {H : Type} : List (DataW H) → Nat
  | [] => 0
  | d :: r => uptoBulk d + uptoBulkAll r
def uptoBulkEntries {H : Type} : List (Lit × DataW H) → Nat
  | [] => 0
  | x :: r => uptoBulkEntry x + uptoBulkEntries r
def uptoBulkEntry {H : Type} : Lit × DataW H → Nat
  | (.string bytes, d) => bytes.length + uptoBulk d + 1
  | (_, d) => uptoBulk d + 1
 end
def uptoSmall : (H : Type) → List (DataW H) → Bool := fun _ ds => decide (uptoBulkAll ds ≤ 1048576)
def OpenSpec.upto (s : _root_.Go.ChangeSpec) : _root_.Go.OpenSpec := { _root_.Go.OpenSpec.ofChange s with cond := some uptoSmall }

/-- 'ostiarylaw09.EdnsTells', WHERE WHAT IT READS IS OF BULK AT MOST 1048576: true; the input reads as it did. -/
def ednsTellsUptoRow : OpenClaim := { program := "ytcjgbholgbjejaa", sum := "b87789ebce0b73512f881583471ddfb1c1bcef5826a6b5be25cb83e52476cd89", func := "ostiary/ostiarylaw09.EdnsTells", spec := "ednsTells", unfollowed := true, recurses := true, apart := false, narrowed := true }
def EdnsTellsUptoSaid : Prop := ednsTellsUptoRow.holds Try.pinned (OpenSpec.upto ednsTellsSpec)

/-- 'ostiarylaw09.EdnsPuts', WHERE WHAT IT READS IS OF BULK AT MOST 1048576: true; the input reads as it did. -/
def ednsPutsUptoRow : OpenClaim := { program := "ytcjgbholgbjejaa", sum := "b87789ebce0b73512f881583471ddfb1c1bcef5826a6b5be25cb83e52476cd89", func := "ostiary/ostiarylaw09.EdnsPuts", spec := "ednsPuts", unfollowed := true, recurses := true, apart := false, narrowed := true }
def EdnsPutsUptoSaid : Prop := ednsPutsUptoRow.holds Try.pinned (OpenSpec.upto ednsPutsSpec)

/-- 'ostiarylaw09.EdnsStrips', WHERE WHAT IT READS IS OF BULK AT MOST 1048576: true; the input reads as it did. -/
def ednsStripsUptoRow : OpenClaim := { program := "ytcjgbholgbjejaa", sum := "b87789ebce0b73512f881583471ddfb1c1bcef5826a6b5be25cb83e52476cd89", func := "ostiary/ostiarylaw09.EdnsStrips", spec := "ednsStrips", unfollowed := true, recurses := true, apart := false, narrowed := true }
def EdnsStripsUptoSaid : Prop := ednsStripsUptoRow.holds Try.pinned (OpenSpec.upto ednsStripsSpec)

/-- 'ostiarylaw09.EdnsKnown', WHERE WHAT IT READS IS OF BULK AT MOST 1048576: true; the input reads as it did. -/
def ednsKnownUptoRow : OpenClaim := { program := "ytcjgbholgbjejaa", sum := "b87789ebce0b73512f881583471ddfb1c1bcef5826a6b5be25cb83e52476cd89", func := "ostiary/ostiarylaw09.EdnsKnown", spec := "ednsKnown", unfollowed := true, recurses := true, apart := false, narrowed := true }
def EdnsKnownUptoSaid : Prop := ednsKnownUptoRow.holds Try.pinned (OpenSpec.upto ednsKnownSpec)

end Rows
end Go.Proofs.Ytcjgbholgbjejaa
