/-
  DERIVED. GIVEN WITH THE SEED: THE CARDS: each row of YtcemefojpaicoaaDoorRows.lean that lists a variable, with what it lists TIED to the program's text (the seventh form; the later family's looks); each row that meets fmt, with fmt's text TOLD by the authors' own Lean function (tested against real Go, not proved from fmt's source: count such statements apart). THE CARD IS WHAT COUNTS. Prove the row's statement (the work); the ties are given (YtcemefojpaicoaaDoorTie.lean); close each card by the builder's one call (the guide's Derived/Test/ToyasCard.lean, 'card_holds'). Laid BY PROGRAM, IN A SANDBOX (cutbox-door.mjs). By AI agents, Wed Nov 11 2026. No macro, syntax, notation, axiom, sorry.
-/
import Derived.Test.YtcemefojpaicoaaDoorRows
import GoSem.ClaimSeven
namespace Go.Proofs.YtcemefojpaicoaaDoor
namespace Rows

/-- THE TIED CARD OF 'cippuslaw01.SightKnown'. -/
def sightKnownCard : Claim7 := { stood := { row := sightKnownRow, standIns := [], harness := (true, "a8be8a4c816a8249dcea9c55b89b9cce38476cce61cdf615ba039b9c98b62858"), looks := false }, kinds := [], alts := [], laidByText := true, laidKinds := [.data, .data, .data], laidTests := true, laidLooks := .later }
def SightKnownCardSaid : Prop := Claim7.holds Tryd.pinned (.plain (OpenSpec.ofChange sightKnownSpec)) sightKnownCard

/-- THE SECOND FORM's CARD OF 'cippuslaw01.SightKnown'. -/
def sightKnownUptoCard : Claim7 := { stood := { row := sightKnownUptoRow, standIns := [], harness := (true, "a8be8a4c816a8249dcea9c55b89b9cce38476cce61cdf615ba039b9c98b62858"), looks := false }, kinds := [], alts := [], laidByText := true, laidKinds := [.data, .data, .data], laidTests := true, laidLooks := .later }
def SightKnownUptoCardSaid : Prop := Claim7.holds Tryd.pinned (.plain (OpenSpec.upto sightKnownSpec)) sightKnownUptoCard
end Rows
end Go.Proofs.YtcemefojpaicoaaDoor
