/-
  DERIVED. GIVEN WITH THE SEED: THE CARDS: each row of YtkoohdacneflfaaGreatDoorRows.lean that lists a variable, with what it lists TIED to the program's text (the seventh form; the later family's looks); each row that meets fmt, with fmt's text TOLD by the authors' own Lean function (tested against real Go, not proved from fmt's source: count such statements apart). THE CARD IS WHAT COUNTS. Prove the row's statement (the work); the ties are given (YtkoohdacneflfaaGreatDoorTie.lean); close each card by the builder's one call (the guide's Derived/Test/ToyasCard.lean, 'card_holds'). Laid BY PROGRAM, IN A SANDBOX (cutbox-door.mjs). By AI agents, Wed Nov 11 2026. No macro, syntax, notation, axiom, sorry.
-/
import Derived.Test.YtkoohdacneflfaaGreatDoorRows
import GoSem.ClaimSeven
namespace Go.Proofs.YtkoohdacneflfaaGreatDoor
namespace Rows

/-- THE TIED CARD OF 'ostiarylaw14.HttpScript'. -/
def httpScriptCard : Claim7 := { stood := { row := httpScriptRow, standIns := [], harness := (true, "616290e1119e06ef84912e12e5ed91d60fec70e8b0d19858a36caee25bc243a1"), looks := true }, kinds := [], alts := [], laidByText := true, laidKinds := [.data, .data, .data, .data, .sentinel, .sentinel, .pinned], laidTests := true, laidLooks := .later }
def HttpScriptCardSaid : Prop := Claim7.holds Tryz.pinned (.plain (OpenSpec.ofChange httpScriptSpec)) httpScriptCard

/-- THE TIED CARD OF 'ostiarylaw14.HttpNone'. -/
def httpNoneCard : Claim7 := { stood := { row := httpNoneRow, standIns := [], harness := (true, "616290e1119e06ef84912e12e5ed91d60fec70e8b0d19858a36caee25bc243a1"), looks := true }, kinds := [], alts := [], laidByText := true, laidKinds := [.data, .data, .data, .data, .sentinel, .sentinel, .pinned], laidTests := true, laidLooks := .later }
def HttpNoneCardSaid : Prop := Claim7.holds Tryz.pinned (.plain (OpenSpec.ofChange httpNoneSpec)) httpNoneCard

/-- THE TIED CARD OF 'ostiarylaw14.HttpKnown'. -/
def httpKnownCard : Claim7 := { stood := { row := httpKnownRow, standIns := [], harness := (true, "616290e1119e06ef84912e12e5ed91d60fec70e8b0d19858a36caee25bc243a1"), looks := true }, kinds := [], alts := [], laidByText := true, laidKinds := [.data, .data, .data, .data, .sentinel, .sentinel, .pinned], laidTests := true, laidLooks := .later }
def HttpKnownCardSaid : Prop := Claim7.holds Tryz.pinned (.plain (OpenSpec.ofChange httpKnownSpec)) httpKnownCard

/-- THE TIED CARD OF 'ostiarylaw14.HttpCuts'. -/
def httpCutsCard : Claim7 := { stood := { row := httpCutsRow, standIns := [], harness := (true, "616290e1119e06ef84912e12e5ed91d60fec70e8b0d19858a36caee25bc243a1"), looks := true }, kinds := [], alts := [], laidByText := true, laidKinds := [.data, .data, .data, .data, .sentinel, .sentinel, .pinned], laidTests := true, laidLooks := .later }
def HttpCutsCardSaid : Prop := Claim7.holds Tryz.pinned (.plain (OpenSpec.ofChange httpCutsSpec)) httpCutsCard

/-- THE TIED CARD OF 'ostiarylaw14.HttpBack'. -/
def httpBackCard : Claim7 := { stood := { row := httpBackRow, standIns := [], harness := (true, "616290e1119e06ef84912e12e5ed91d60fec70e8b0d19858a36caee25bc243a1"), looks := true }, kinds := [], alts := [], laidByText := true, laidKinds := [.data, .data, .data, .data, .sentinel, .sentinel, .pinned], laidTests := true, laidLooks := .later }
def HttpBackCardSaid : Prop := Claim7.holds Tryz.pinned (.plain (OpenSpec.ofChange httpBackSpec)) httpBackCard

/-- THE TIED CARD OF 'ostiarylaw14.HttpOver'. -/
def httpOverCard : Claim7 := { stood := { row := httpOverRow, standIns := [], harness := (true, "616290e1119e06ef84912e12e5ed91d60fec70e8b0d19858a36caee25bc243a1"), looks := true }, kinds := [], alts := [], laidByText := true, laidKinds := [.data, .data, .data, .data, .sentinel, .sentinel, .pinned], laidTests := true, laidLooks := .later }
def HttpOverCardSaid : Prop := Claim7.holds Tryz.pinned (.plain (OpenSpec.ofChange httpOverSpec)) httpOverCard

/-- THE SECOND FORM's CARD OF 'ostiarylaw14.HttpScript'. -/
def httpScriptUptoCard : Claim7 := { stood := { row := httpScriptUptoRow, standIns := [], harness := (true, "616290e1119e06ef84912e12e5ed91d60fec70e8b0d19858a36caee25bc243a1"), looks := true }, kinds := [], alts := [], laidByText := true, laidKinds := [.data, .data, .data, .data, .sentinel, .sentinel, .pinned], laidTests := true, laidLooks := .later }
def HttpScriptUptoCardSaid : Prop := Claim7.holds Tryz.pinned (.plain (OpenSpec.upto httpScriptSpec)) httpScriptUptoCard

/-- THE SECOND FORM's CARD OF 'ostiarylaw14.HttpNone'. -/
def httpNoneUptoCard : Claim7 := { stood := { row := httpNoneUptoRow, standIns := [], harness := (true, "616290e1119e06ef84912e12e5ed91d60fec70e8b0d19858a36caee25bc243a1"), looks := true }, kinds := [], alts := [], laidByText := true, laidKinds := [.data, .data, .data, .data, .sentinel, .sentinel, .pinned], laidTests := true, laidLooks := .later }
def HttpNoneUptoCardSaid : Prop := Claim7.holds Tryz.pinned (.plain (OpenSpec.upto httpNoneSpec)) httpNoneUptoCard

/-- THE SECOND FORM's CARD OF 'ostiarylaw14.HttpKnown'. -/
def httpKnownUptoCard : Claim7 := { stood := { row := httpKnownUptoRow, standIns := [], harness := (true, "616290e1119e06ef84912e12e5ed91d60fec70e8b0d19858a36caee25bc243a1"), looks := true }, kinds := [], alts := [], laidByText := true, laidKinds := [.data, .data, .data, .data, .sentinel, .sentinel, .pinned], laidTests := true, laidLooks := .later }
def HttpKnownUptoCardSaid : Prop := Claim7.holds Tryz.pinned (.plain (OpenSpec.upto httpKnownSpec)) httpKnownUptoCard

/-- THE SECOND FORM's CARD OF 'ostiarylaw14.HttpCuts'. -/
def httpCutsUptoCard : Claim7 := { stood := { row := httpCutsUptoRow, standIns := [], harness := (true, "616290e1119e06ef84912e12e5ed91d60fec70e8b0d19858a36caee25bc243a1"), looks := true }, kinds := [], alts := [], laidByText := true, laidKinds := [.data, .data, .data, .data, .sentinel, .sentinel, .pinned], laidTests := true, laidLooks := .later }
def HttpCutsUptoCardSaid : Prop := Claim7.holds Tryz.pinned (.plain (OpenSpec.upto httpCutsSpec)) httpCutsUptoCard

/-- THE SECOND FORM's CARD OF 'ostiarylaw14.HttpBack'. -/
def httpBackUptoCard : Claim7 := { stood := { row := httpBackUptoRow, standIns := [], harness := (true, "616290e1119e06ef84912e12e5ed91d60fec70e8b0d19858a36caee25bc243a1"), looks := true }, kinds := [], alts := [], laidByText := true, laidKinds := [.data, .data, .data, .data, .sentinel, .sentinel, .pinned], laidTests := true, laidLooks := .later }
def HttpBackUptoCardSaid : Prop := Claim7.holds Tryz.pinned (.plain (OpenSpec.upto httpBackSpec)) httpBackUptoCard

/-- THE SECOND FORM's CARD OF 'ostiarylaw14.HttpOver'. -/
def httpOverUptoCard : Claim7 := { stood := { row := httpOverUptoRow, standIns := [], harness := (true, "616290e1119e06ef84912e12e5ed91d60fec70e8b0d19858a36caee25bc243a1"), looks := true }, kinds := [], alts := [], laidByText := true, laidKinds := [.data, .data, .data, .data, .sentinel, .sentinel, .pinned], laidTests := true, laidLooks := .later }
def HttpOverUptoCardSaid : Prop := Claim7.holds Tryz.pinned (.plain (OpenSpec.upto httpOverSpec)) httpOverUptoCard
end Rows
end Go.Proofs.YtkoohdacneflfaaGreatDoor
