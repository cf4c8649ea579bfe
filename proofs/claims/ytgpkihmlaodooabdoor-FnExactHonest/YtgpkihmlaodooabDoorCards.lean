/-
  DERIVED. GIVEN WITH THE SEED: THE CARDS: each row of YtgpkihmlaodooabDoorRows.lean that lists a variable, with what it lists TIED to the program's text (the seventh form; the later family's looks); each row that meets fmt, with fmt's text TOLD by the authors' own Lean function (tested against real Go, not proved from fmt's source: count such statements apart). THE CARD IS WHAT COUNTS. Prove the row's statement (the work); the ties are given (YtgpkihmlaodooabDoorTie.lean); close each card by the builder's one call (the guide's Derived/Test/ToyasCard.lean, 'card_holds'). Laid BY PROGRAM, IN A SANDBOX (cutbox-door.mjs). By AI agents, Wed Nov 11 2026. No macro, syntax, notation, axiom, sorry.
-/
import Derived.Test.YtgpkihmlaodooabDoorRows
import GoSem.ClaimSeven
namespace Go.Proofs.YtgpkihmlaodooabDoor
namespace Rows

/-- THE TIED CARD OF 'laws.FnExactHonest'. -/
def fnExactHonestCard : Claim7 := { stood := { row := fnExactHonestRow, standIns := [], harness := (true, "6b05c8b14a2cf84d179fa48bfe0445fb87724dc9a6ca2d63c1a4cc5058c38cba"), looks := true }, kinds := [], alts := [], laidByText := true, laidKinds := [.sentinel, .sentinel, .sentinel, .sentinel], laidTests := true, laidLooks := .later }
def FnExactHonestCardSaid : Prop := Claim7.holds Tryd.pinned (.plain (OpenSpec.ofChange fnExactHonestSpec)) fnExactHonestCard

/-- THE SECOND FORM's CARD OF 'laws.FnExactHonest'. -/
def fnExactHonestUptoCard : Claim7 := { stood := { row := fnExactHonestUptoRow, standIns := [], harness := (true, "6b05c8b14a2cf84d179fa48bfe0445fb87724dc9a6ca2d63c1a4cc5058c38cba"), looks := true }, kinds := [], alts := [], laidByText := true, laidKinds := [.sentinel, .sentinel, .sentinel, .sentinel], laidTests := true, laidLooks := .later }
def FnExactHonestUptoCardSaid : Prop := Claim7.holds Tryd.pinned (.plain (OpenSpec.upto fnExactHonestSpec)) fnExactHonestUptoCard
end Rows
end Go.Proofs.YtgpkihmlaodooabDoor
