/-
  DERIVED. GIVEN WITH THE SEED: THE CARDS: each row of YtjjkobbajbbgdaaGreatDoorRows.lean that lists a variable, with what it lists TIED to the program's text (the seventh form; the later family's looks); each row that meets fmt, with fmt's text TOLD by the authors' own Lean function (tested against real Go, not proved from fmt's source: count such statements apart). THE CARD IS WHAT COUNTS. Prove the row's statement (the work); the ties are given (YtjjkobbajbbgdaaGreatDoorTie.lean); close each card by the builder's one call (the guide's Derived/Test/ToyasCard.lean, 'card_holds'). Laid BY PROGRAM, IN A SANDBOX (cutbox-door.mjs). By AI agents, Wed Nov 11 2026. No macro, syntax, notation, axiom, sorry.
-/
import Derived.Test.YtjjkobbajbbgdaaGreatDoorRows
import GoSem.ClaimSeven
namespace Go.Proofs.YtjjkobbajbbgdaaGreatDoor
namespace Rows

/-- THE TIED CARD OF 'coxswainlaw17.FinalTables'. -/
def finalTablesCard : Claim7 := { stood := { row := finalTablesRow, standIns := [], harness := (true, "057ad23b9ca6eab9d278d9ec390d55aff9d4eba3c8e96a566fc178f5d602d897"), looks := false }, kinds := [], alts := [], laidByText := true, laidKinds := [.data], laidTests := true, laidLooks := .later }
def FinalTablesCardSaid : Prop := Claim7.holds Tryz.pinned (.plain (OpenSpec.ofChange finalTablesSpec)) finalTablesCard

/-- THE SECOND FORM's CARD OF 'coxswainlaw17.FinalTables'. -/
def finalTablesUptoCard : Claim7 := { stood := { row := finalTablesUptoRow, standIns := [], harness := (true, "057ad23b9ca6eab9d278d9ec390d55aff9d4eba3c8e96a566fc178f5d602d897"), looks := false }, kinds := [], alts := [], laidByText := true, laidKinds := [.data], laidTests := true, laidLooks := .later }
def FinalTablesUptoCardSaid : Prop := Claim7.holds Tryz.pinned (.plain (OpenSpec.upto finalTablesSpec)) finalTablesUptoCard
end Rows
end Go.Proofs.YtjjkobbajbbgdaaGreatDoor
