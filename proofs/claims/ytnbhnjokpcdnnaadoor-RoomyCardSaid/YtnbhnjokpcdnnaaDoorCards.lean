/-
  DERIVED. GIVEN WITH THE SEED: THE CARDS: each row of YtnbhnjokpcdnnaaDoorRows.lean that lists a variable, with what it lists TIED to the program's text (the seventh form; the later family's looks); each row that meets fmt, with fmt's text TOLD by the authors' own Lean function (tested against real Go, not proved from fmt's source: count such statements apart). THE CARD IS WHAT COUNTS. Prove the row's statement (the work); the ties are given (YtnbhnjokpcdnnaaDoorTie.lean); close each card by the builder's one call (the guide's Derived/Test/ToyasCard.lean, 'card_holds'). Laid BY PROGRAM, IN A SANDBOX (cutbox-door.mjs). By AI agents, Wed Nov 11 2026. No macro, syntax, notation, axiom, sorry.
-/
import Derived.Test.YtnbhnjokpcdnnaaDoorRows
import GoSem.ClaimSeven
namespace Go.Proofs.YtnbhnjokpcdnnaaDoor
namespace Rows

/-- THE TIED CARD OF 'resumekeep.Roomy'. -/
def roomyCard : Claim7 := { stood := { row := roomyRow, standIns := [], harness := (true, "cb22ebe9a782b20d6d03bd605fb71ad5cefe48e603f8c1088337b3c9476168cc"), looks := false }, kinds := [], alts := [], laidByText := true, laidKinds := [.data, .data], laidTests := true, laidLooks := .later }
def RoomyCardSaid : Prop := Claim7.holds Tryd.pinned (.plain (OpenSpec.ofChange roomySpec)) roomyCard

/-- THE SECOND FORM's CARD OF 'resumekeep.Roomy'. -/
def roomyUptoCard : Claim7 := { stood := { row := roomyUptoRow, standIns := [], harness := (true, "cb22ebe9a782b20d6d03bd605fb71ad5cefe48e603f8c1088337b3c9476168cc"), looks := false }, kinds := [], alts := [], laidByText := true, laidKinds := [.data, .data], laidTests := true, laidLooks := .later }
def RoomyUptoCardSaid : Prop := Claim7.holds Tryd.pinned (.plain (OpenSpec.upto roomySpec)) roomyUptoCard
end Rows
end Go.Proofs.YtnbhnjokpcdnnaaDoor
