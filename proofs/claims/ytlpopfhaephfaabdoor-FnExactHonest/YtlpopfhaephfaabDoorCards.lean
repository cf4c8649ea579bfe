/-
  DERIVED. GIVEN WITH THE SEED: THE CARDS: each row of YtlpopfhaephfaabDoorRows.lean that lists a variable, with what it lists TIED to the program's text (the seventh form; the later family's looks); each row that meets fmt, with fmt's text TOLD by the authors' own Lean function (tested against real Go, not proved from fmt's source: count such statements apart). THE CARD IS WHAT COUNTS. Prove the row's statement (the work); the ties are given (YtlpopfhaephfaabDoorTie.lean); close each card by the builder's one call (the guide's Derived/Test/ToyasCard.lean, 'card_holds'). Laid BY PROGRAM, IN A SANDBOX (cutbox-door.mjs). By AI agents, Wed Nov 11 2026. No macro, syntax, notation, axiom, sorry.
-/
import Derived.Test.YtlpopfhaephfaabDoorRows
import GoSem.ClaimSeven
namespace Go.Proofs.YtlpopfhaephfaabDoor
namespace Rows

/-- THE TIED CARD OF 'laws.FnExactHonest'. -/
def fnExactHonestCard : Claim7 := { stood := { row := fnExactHonestRow, standIns := [], harness := (true, "63445a523dcad1b86ad655c32deafe18bd45c1614bc0c2229d9e27a68d4877f7"), looks := true }, kinds := [], alts := [], laidByText := true, laidKinds := [.sentinel, .sentinel, .sentinel, .sentinel], laidTests := true, laidLooks := .later }
def FnExactHonestCardSaid : Prop := Claim7.holds Tryd.pinned (.plain (OpenSpec.ofChange fnExactHonestSpec)) fnExactHonestCard

/-- THE TIED CARD OF 'laws.FnExactWriteEvents'. -/
def fnExactWriteEventsCard : Claim7 := { stood := { row := fnExactWriteEventsRow, standIns := [], harness := (true, "63445a523dcad1b86ad655c32deafe18bd45c1614bc0c2229d9e27a68d4877f7"), looks := true }, kinds := [], alts := [], laidByText := true, laidKinds := [.data, .data, .data, .data], laidTests := true, laidLooks := .later }
def FnExactWriteEventsCardSaid : Prop := Claim7.holds Tryd.pinned (.plain (OpenSpec.ofChange fnExactWriteEventsSpec)) fnExactWriteEventsCard

/-- THE TIED CARD OF 'laws.FnExactReadEvents'. -/
def fnExactReadEventsCard : Claim7 := { stood := { row := fnExactReadEventsRow, standIns := [], harness := (true, "63445a523dcad1b86ad655c32deafe18bd45c1614bc0c2229d9e27a68d4877f7"), looks := true }, kinds := [], alts := [], laidByText := true, laidKinds := [.data, .data, .data, .data, .sentinel, .sentinel, .data, .pinned], laidTests := true, laidLooks := .later }
def FnExactReadEventsCardSaid : Prop := Claim7.holds Tryd.pinned (.plain (OpenSpec.ofChange fnExactReadEventsSpec)) fnExactReadEventsCard

/-- THE SECOND FORM's CARD OF 'laws.FnExactHonest'. -/
def fnExactHonestUptoCard : Claim7 := { stood := { row := fnExactHonestUptoRow, standIns := [], harness := (true, "63445a523dcad1b86ad655c32deafe18bd45c1614bc0c2229d9e27a68d4877f7"), looks := true }, kinds := [], alts := [], laidByText := true, laidKinds := [.sentinel, .sentinel, .sentinel, .sentinel], laidTests := true, laidLooks := .later }
def FnExactHonestUptoCardSaid : Prop := Claim7.holds Tryd.pinned (.plain (OpenSpec.upto fnExactHonestSpec)) fnExactHonestUptoCard

/-- THE SECOND FORM's CARD OF 'laws.FnExactWriteEvents'. -/
def fnExactWriteEventsUptoCard : Claim7 := { stood := { row := fnExactWriteEventsUptoRow, standIns := [], harness := (true, "63445a523dcad1b86ad655c32deafe18bd45c1614bc0c2229d9e27a68d4877f7"), looks := true }, kinds := [], alts := [], laidByText := true, laidKinds := [.data, .data, .data, .data], laidTests := true, laidLooks := .later }
def FnExactWriteEventsUptoCardSaid : Prop := Claim7.holds Tryd.pinned (.plain (OpenSpec.upto fnExactWriteEventsSpec)) fnExactWriteEventsUptoCard

/-- THE SECOND FORM's CARD OF 'laws.FnExactReadEvents'. -/
def fnExactReadEventsUptoCard : Claim7 := { stood := { row := fnExactReadEventsUptoRow, standIns := [], harness := (true, "63445a523dcad1b86ad655c32deafe18bd45c1614bc0c2229d9e27a68d4877f7"), looks := true }, kinds := [], alts := [], laidByText := true, laidKinds := [.data, .data, .data, .data, .sentinel, .sentinel, .data, .pinned], laidTests := true, laidLooks := .later }
def FnExactReadEventsUptoCardSaid : Prop := Claim7.holds Tryd.pinned (.plain (OpenSpec.upto fnExactReadEventsSpec)) fnExactReadEventsUptoCard
end Rows
end Go.Proofs.YtlpopfhaephfaabDoor
