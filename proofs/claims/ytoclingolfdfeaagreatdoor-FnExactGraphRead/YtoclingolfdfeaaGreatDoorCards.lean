/-
  DERIVED. GIVEN WITH THE SEED: THE CARDS: each row of YtoclingolfdfeaaGreatDoorRows.lean that lists a variable, with what it lists TIED to the program's text (the seventh form; the later family's looks); each row that meets fmt, with fmt's text TOLD by the authors' own Lean function (tested against real Go, not proved from fmt's source: count such statements apart). THE CARD IS WHAT COUNTS. Prove the row's statement (the work); the ties are given (YtoclingolfdfeaaGreatDoorTie.lean); close each card by the builder's one call (the guide's Derived/Test/ToyasCard.lean, 'card_holds'). Laid BY PROGRAM, IN A SANDBOX (cutbox-door.mjs). By AI agents, Wed Nov 11 2026. No macro, syntax, notation, axiom, sorry.
-/
import Derived.Test.YtoclingolfdfeaaGreatDoorRows
import GoSem.ClaimSeven
namespace Go.Proofs.YtoclingolfdfeaaGreatDoor
namespace Rows

/-- THE TIED CARD OF 'laws.FnShows'. -/
def fnShowsCard : Claim7 := { stood := { row := fnShowsRow, standIns := [], harness := (true, "fee4cf31801637d9c0fb27ff9fb8ec01dc635f6a24b8d17adacbadfd517e35ad"), looks := true }, kinds := [], alts := [], laidByText := true, laidKinds := [.data, .data, .data, .sentinel, .sentinel], laidTests := true, laidLooks := .later }
def FnShowsCardSaid : Prop := Claim7.holds Tryz.pinned (.plain (OpenSpec.ofChange fnShowsSpec)) fnShowsCard

/-- THE TIED CARD OF 'laws.FnGraphs'. -/
def fnGraphsCard : Claim7 := { stood := { row := fnGraphsRow, standIns := [], harness := (true, "fee4cf31801637d9c0fb27ff9fb8ec01dc635f6a24b8d17adacbadfd517e35ad"), looks := true }, kinds := [], alts := [], laidByText := true, laidKinds := [.data, .data, .data, .sentinel, .sentinel], laidTests := true, laidLooks := .later }
def FnGraphsCardSaid : Prop := Claim7.holds Tryz.pinned (.plain (OpenSpec.ofChange fnGraphsSpec)) fnGraphsCard

/-- THE TIED CARD OF 'laws.FnExactGraphRead'. -/
def fnExactGraphReadCard : Claim7 := { stood := { row := fnExactGraphReadRow, standIns := [], harness := (true, "fee4cf31801637d9c0fb27ff9fb8ec01dc635f6a24b8d17adacbadfd517e35ad"), looks := true }, kinds := [], alts := [], laidByText := true, laidKinds := [.data, .data, .data, .sentinel, .sentinel], laidTests := true, laidLooks := .later }
def FnExactGraphReadCardSaid : Prop := Claim7.holds Tryz.pinned (.plain (OpenSpec.ofChange fnExactGraphReadSpec)) fnExactGraphReadCard

/-- THE SECOND FORM's CARD OF 'laws.FnShows'. -/
def fnShowsUptoCard : Claim7 := { stood := { row := fnShowsUptoRow, standIns := [], harness := (true, "fee4cf31801637d9c0fb27ff9fb8ec01dc635f6a24b8d17adacbadfd517e35ad"), looks := true }, kinds := [], alts := [], laidByText := true, laidKinds := [.data, .data, .data, .sentinel, .sentinel], laidTests := true, laidLooks := .later }
def FnShowsUptoCardSaid : Prop := Claim7.holds Tryz.pinned (.plain (OpenSpec.upto fnShowsSpec)) fnShowsUptoCard

/-- THE SECOND FORM's CARD OF 'laws.FnGraphs'. -/
def fnGraphsUptoCard : Claim7 := { stood := { row := fnGraphsUptoRow, standIns := [], harness := (true, "fee4cf31801637d9c0fb27ff9fb8ec01dc635f6a24b8d17adacbadfd517e35ad"), looks := true }, kinds := [], alts := [], laidByText := true, laidKinds := [.data, .data, .data, .sentinel, .sentinel], laidTests := true, laidLooks := .later }
def FnGraphsUptoCardSaid : Prop := Claim7.holds Tryz.pinned (.plain (OpenSpec.upto fnGraphsSpec)) fnGraphsUptoCard

/-- THE SECOND FORM's CARD OF 'laws.FnExactGraphRead'. -/
def fnExactGraphReadUptoCard : Claim7 := { stood := { row := fnExactGraphReadUptoRow, standIns := [], harness := (true, "fee4cf31801637d9c0fb27ff9fb8ec01dc635f6a24b8d17adacbadfd517e35ad"), looks := true }, kinds := [], alts := [], laidByText := true, laidKinds := [.data, .data, .data, .sentinel, .sentinel], laidTests := true, laidLooks := .later }
def FnExactGraphReadUptoCardSaid : Prop := Claim7.holds Tryz.pinned (.plain (OpenSpec.upto fnExactGraphReadSpec)) fnExactGraphReadUptoCard
end Rows
end Go.Proofs.YtoclingolfdfeaaGreatDoor
