/-
  DERIVED. GIVEN WITH THE SEED: THE CARDS: each row of YtklimomeendajaaGreatDoorRows.lean that lists a variable, with what it lists TIED to the program's text (the seventh form; the later family's looks); each row that meets fmt, with fmt's text TOLD by the authors' own Lean function (tested against real Go, not proved from fmt's source: count such statements apart). THE CARD IS WHAT COUNTS. Prove the row's statement (the work); the ties are given (YtklimomeendajaaGreatDoorTie.lean); close each card by the builder's one call (the guide's Derived/Test/ToyasCard.lean, 'card_holds'). Laid BY PROGRAM, IN A SANDBOX (cutbox-door.mjs). By AI agents, Wed Nov 11 2026. No macro, syntax, notation, axiom, sorry.
-/
import Derived.Test.YtklimomeendajaaGreatDoorRows
import GoSem.ClaimSeven
namespace Go.Proofs.YtklimomeendajaaGreatDoor
namespace Rows

/-- THE TIED CARD OF 'resumelaw.Reads'. -/
def readsCard : Claim7 := { stood := { row := readsRow, standIns := [], harness := (true, "7b884d6824bb93c19c0ba717ff2088219c0cbc64abd14a98736aa6e1f88a732e"), looks := false }, kinds := [], alts := [], laidByText := true, laidKinds := [.data, .data], laidTests := true, laidLooks := .later }
def ReadsCardSaid : Prop := Claim7.holds Tryz.pinned (.plain (OpenSpec.ofChange readsSpec)) readsCard

/-- THE TIED CARD OF 'resumelaw.Types'. -/
def typesCard : Claim7 := { stood := { row := typesRow, standIns := [], harness := (true, "7b884d6824bb93c19c0ba717ff2088219c0cbc64abd14a98736aa6e1f88a732e"), looks := false }, kinds := [], alts := [], laidByText := true, laidKinds := [.data, .data], laidTests := true, laidLooks := .later }
def TypesCardSaid : Prop := Claim7.holds Tryz.pinned (.plain (OpenSpec.ofChange typesSpec)) typesCard

/-- THE TIED CARD OF 'resumelaw.Plainly'. -/
def plainlyCard : Claim7 := { stood := { row := plainlyRow, standIns := [], harness := (true, "7b884d6824bb93c19c0ba717ff2088219c0cbc64abd14a98736aa6e1f88a732e"), looks := false }, kinds := [], alts := [], laidByText := true, laidKinds := [.data, .data, .data, .data, .data], laidTests := true, laidLooks := .later }
def PlainlyCardSaid : Prop := Claim7.holds Tryz.pinned (.plain (OpenSpec.ofChange plainlySpec)) plainlyCard

/-- THE TIED CARD OF 'resumelaw.Runs'. -/
def runsCard : Claim7 := { stood := { row := runsRow, standIns := [], harness := (true, "7b884d6824bb93c19c0ba717ff2088219c0cbc64abd14a98736aa6e1f88a732e"), looks := false }, kinds := [], alts := [], laidByText := true, laidKinds := [.data, .data, .data, .data, .data], laidTests := true, laidLooks := .later }
def RunsCardSaid : Prop := Claim7.holds Tryz.pinned (.plain (OpenSpec.ofChange runsSpec)) runsCard

/-- THE TIED CARD OF 'resumekeep.Sliced'. -/
def slicedCard : Claim7 := { stood := { row := slicedRow, standIns := [], harness := (true, "7b884d6824bb93c19c0ba717ff2088219c0cbc64abd14a98736aa6e1f88a732e"), looks := false }, kinds := [], alts := [], laidByText := true, laidKinds := [.data, .data, .data, .data, .data], laidTests := true, laidLooks := .later }
def SlicedCardSaid : Prop := Claim7.holds Tryz.pinned (.plain (OpenSpec.ofChange slicedSpec)) slicedCard

/-- THE TIED CARD OF 'resumekeep.Roomy'. -/
def roomyCard : Claim7 := { stood := { row := roomyRow, standIns := [], harness := (true, "7b884d6824bb93c19c0ba717ff2088219c0cbc64abd14a98736aa6e1f88a732e"), looks := false }, kinds := [], alts := [], laidByText := true, laidKinds := [.data, .data, .data, .data, .data], laidTests := true, laidLooks := .later }
def RoomyCardSaid : Prop := Claim7.holds Tryz.pinned (.plain (OpenSpec.ofChange roomySpec)) roomyCard

/-- THE TIED CARD OF 'resumekeep.Sound'. -/
def soundCard : Claim7 := { stood := { row := soundRow, standIns := [], harness := (true, "7b884d6824bb93c19c0ba717ff2088219c0cbc64abd14a98736aa6e1f88a732e"), looks := false }, kinds := [], alts := [], laidByText := true, laidKinds := [.data, .data, .data, .data, .data], laidTests := true, laidLooks := .later }
def SoundCardSaid : Prop := Claim7.holds Tryz.pinned (.plain (OpenSpec.ofChange soundSpec)) soundCard

/-- THE TIED CARD OF 'resumekeep.Wrapped'. -/
def wrappedCard : Claim7 := { stood := { row := wrappedRow, standIns := [], harness := (true, "7b884d6824bb93c19c0ba717ff2088219c0cbc64abd14a98736aa6e1f88a732e"), looks := false }, kinds := [], alts := [], laidByText := true, laidKinds := [.data, .data, .data, .data, .data], laidTests := true, laidLooks := .later }
def WrappedCardSaid : Prop := Claim7.holds Tryz.pinned (.plain (OpenSpec.ofChange wrappedSpec)) wrappedCard

/-- THE TIED CARD OF 'resumekeep.Known'. -/
def knownCard : Claim7 := { stood := { row := knownRow, standIns := [], harness := (true, "7b884d6824bb93c19c0ba717ff2088219c0cbc64abd14a98736aa6e1f88a732e"), looks := false }, kinds := [], alts := [], laidByText := true, laidKinds := [.data, .data, .data, .data, .data], laidTests := true, laidLooks := .later }
def KnownCardSaid : Prop := Claim7.holds Tryz.pinned (.plain (OpenSpec.ofChange knownSpec)) knownCard

/-- THE TIED CARD OF 'resumelaw.All'. -/
def allCard : Claim7 := { stood := { row := allRow, standIns := [], harness := (true, "7b884d6824bb93c19c0ba717ff2088219c0cbc64abd14a98736aa6e1f88a732e"), looks := false }, kinds := [], alts := [], laidByText := true, laidKinds := [.data, .data, .data, .data, .data], laidTests := true, laidLooks := .later }
def AllCardSaid : Prop := Claim7.holds Tryz.pinned (.plain (OpenSpec.ofChange allSpec)) allCard

/-- THE SECOND FORM's CARD OF 'resumelaw.Reads'. -/
def readsUptoCard : Claim7 := { stood := { row := readsUptoRow, standIns := [], harness := (true, "7b884d6824bb93c19c0ba717ff2088219c0cbc64abd14a98736aa6e1f88a732e"), looks := false }, kinds := [], alts := [], laidByText := true, laidKinds := [.data, .data], laidTests := true, laidLooks := .later }
def ReadsUptoCardSaid : Prop := Claim7.holds Tryz.pinned (.plain (OpenSpec.upto readsSpec)) readsUptoCard

/-- THE SECOND FORM's CARD OF 'resumelaw.Types'. -/
def typesUptoCard : Claim7 := { stood := { row := typesUptoRow, standIns := [], harness := (true, "7b884d6824bb93c19c0ba717ff2088219c0cbc64abd14a98736aa6e1f88a732e"), looks := false }, kinds := [], alts := [], laidByText := true, laidKinds := [.data, .data], laidTests := true, laidLooks := .later }
def TypesUptoCardSaid : Prop := Claim7.holds Tryz.pinned (.plain (OpenSpec.upto typesSpec)) typesUptoCard

/-- THE SECOND FORM's CARD OF 'resumelaw.Plainly'. -/
def plainlyUptoCard : Claim7 := { stood := { row := plainlyUptoRow, standIns := [], harness := (true, "7b884d6824bb93c19c0ba717ff2088219c0cbc64abd14a98736aa6e1f88a732e"), looks := false }, kinds := [], alts := [], laidByText := true, laidKinds := [.data, .data, .data, .data, .data], laidTests := true, laidLooks := .later }
def PlainlyUptoCardSaid : Prop := Claim7.holds Tryz.pinned (.plain (OpenSpec.upto plainlySpec)) plainlyUptoCard

/-- THE SECOND FORM's CARD OF 'resumelaw.Runs'. -/
def runsUptoCard : Claim7 := { stood := { row := runsUptoRow, standIns := [], harness := (true, "7b884d6824bb93c19c0ba717ff2088219c0cbc64abd14a98736aa6e1f88a732e"), looks := false }, kinds := [], alts := [], laidByText := true, laidKinds := [.data, .data, .data, .data, .data], laidTests := true, laidLooks := .later }
def RunsUptoCardSaid : Prop := Claim7.holds Tryz.pinned (.plain (OpenSpec.upto runsSpec)) runsUptoCard

/-- THE SECOND FORM's CARD OF 'resumekeep.Sliced'. -/
def slicedUptoCard : Claim7 := { stood := { row := slicedUptoRow, standIns := [], harness := (true, "7b884d6824bb93c19c0ba717ff2088219c0cbc64abd14a98736aa6e1f88a732e"), looks := false }, kinds := [], alts := [], laidByText := true, laidKinds := [.data, .data, .data, .data, .data], laidTests := true, laidLooks := .later }
def SlicedUptoCardSaid : Prop := Claim7.holds Tryz.pinned (.plain (OpenSpec.upto slicedSpec)) slicedUptoCard

/-- THE SECOND FORM's CARD OF 'resumekeep.Roomy'. -/
def roomyUptoCard : Claim7 := { stood := { row := roomyUptoRow, standIns := [], harness := (true, "7b884d6824bb93c19c0ba717ff2088219c0cbc64abd14a98736aa6e1f88a732e"), looks := false }, kinds := [], alts := [], laidByText := true, laidKinds := [.data, .data, .data, .data, .data], laidTests := true, laidLooks := .later }
def RoomyUptoCardSaid : Prop := Claim7.holds Tryz.pinned (.plain (OpenSpec.upto roomySpec)) roomyUptoCard

/-- THE SECOND FORM's CARD OF 'resumekeep.Sound'. -/
def soundUptoCard : Claim7 := { stood := { row := soundUptoRow, standIns := [], harness := (true, "7b884d6824bb93c19c0ba717ff2088219c0cbc64abd14a98736aa6e1f88a732e"), looks := false }, kinds := [], alts := [], laidByText := true, laidKinds := [.data, .data, .data, .data, .data], laidTests := true, laidLooks := .later }
def SoundUptoCardSaid : Prop := Claim7.holds Tryz.pinned (.plain (OpenSpec.upto soundSpec)) soundUptoCard

/-- THE SECOND FORM's CARD OF 'resumekeep.Wrapped'. -/
def wrappedUptoCard : Claim7 := { stood := { row := wrappedUptoRow, standIns := [], harness := (true, "7b884d6824bb93c19c0ba717ff2088219c0cbc64abd14a98736aa6e1f88a732e"), looks := false }, kinds := [], alts := [], laidByText := true, laidKinds := [.data, .data, .data, .data, .data], laidTests := true, laidLooks := .later }
def WrappedUptoCardSaid : Prop := Claim7.holds Tryz.pinned (.plain (OpenSpec.upto wrappedSpec)) wrappedUptoCard

/-- THE SECOND FORM's CARD OF 'resumekeep.Known'. -/
def knownUptoCard : Claim7 := { stood := { row := knownUptoRow, standIns := [], harness := (true, "7b884d6824bb93c19c0ba717ff2088219c0cbc64abd14a98736aa6e1f88a732e"), looks := false }, kinds := [], alts := [], laidByText := true, laidKinds := [.data, .data, .data, .data, .data], laidTests := true, laidLooks := .later }
def KnownUptoCardSaid : Prop := Claim7.holds Tryz.pinned (.plain (OpenSpec.upto knownSpec)) knownUptoCard

/-- THE SECOND FORM's CARD OF 'resumelaw.All'. -/
def allUptoCard : Claim7 := { stood := { row := allUptoRow, standIns := [], harness := (true, "7b884d6824bb93c19c0ba717ff2088219c0cbc64abd14a98736aa6e1f88a732e"), looks := false }, kinds := [], alts := [], laidByText := true, laidKinds := [.data, .data, .data, .data, .data], laidTests := true, laidLooks := .later }
def AllUptoCardSaid : Prop := Claim7.holds Tryz.pinned (.plain (OpenSpec.upto allSpec)) allUptoCard
end Rows
end Go.Proofs.YtklimomeendajaaGreatDoor
