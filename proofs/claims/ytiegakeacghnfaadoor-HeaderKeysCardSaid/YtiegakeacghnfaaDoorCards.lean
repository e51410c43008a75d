/-
  DERIVED. GIVEN WITH THE SEED: THE CARDS: each row of YtiegakeacghnfaaDoorRows.lean that lists a variable, with what it lists TIED to the program's text (the seventh form; the later family's looks); each row that meets fmt, with fmt's text TOLD by the authors' own Lean function (tested against real Go, not proved from fmt's source: count such statements apart). THE CARD IS WHAT COUNTS. Prove the row's statement (the work); the ties are given (YtiegakeacghnfaaDoorTie.lean); close each card by the builder's one call (the guide's Derived/Test/ToyasCard.lean, 'card_holds'). Laid BY PROGRAM, IN A SANDBOX (cutbox-door.mjs). By AI agents, Wed Nov 11 2026. No macro, syntax, notation, axiom, sorry.
-/
import Derived.Test.YtiegakeacghnfaaDoorRows
import GoSem.ClaimSeven
namespace Go.Proofs.YtiegakeacghnfaaDoor
namespace Rows

/-- THE TIED CARD OF 'coxswainlaw05.HeaderBack'. -/
def headerBackCard : Claim7 := { stood := { row := headerBackRow, standIns := [], harness := (true, "672859548533d8e0457ee79354cb284a2d460a99e45bfccd573d24c638a7aa49"), looks := false }, kinds := [], alts := [], laidByText := true, laidKinds := [.data], laidTests := true, laidLooks := .later }
def HeaderBackCardSaid : Prop := Claim7.holds Tryd.pinned (.plain (OpenSpec.ofChange headerBackSpec)) headerBackCard

/-- THE TIED CARD OF 'coxswainlaw05.HeaderKeys'. -/
def headerKeysCard : Claim7 := { stood := { row := headerKeysRow, standIns := [], harness := (true, "672859548533d8e0457ee79354cb284a2d460a99e45bfccd573d24c638a7aa49"), looks := false }, kinds := [], alts := [], laidByText := true, laidKinds := [.data], laidTests := true, laidLooks := .later }
def HeaderKeysCardSaid : Prop := Claim7.holds Tryd.pinned (.plain (OpenSpec.ofChange headerKeysSpec)) headerKeysCard

/-- THE TIED CARD OF 'coxswainlaw05.HeaderShares'. -/
def headerSharesCard : Claim7 := { stood := { row := headerSharesRow, standIns := [], harness := (true, "672859548533d8e0457ee79354cb284a2d460a99e45bfccd573d24c638a7aa49"), looks := false }, kinds := [], alts := [], laidByText := true, laidKinds := [.data], laidTests := true, laidLooks := .later }
def HeaderSharesCardSaid : Prop := Claim7.holds Tryd.pinned (.plain (OpenSpec.ofChange headerSharesSpec)) headerSharesCard

/-- THE SECOND FORM's CARD OF 'coxswainlaw05.HeaderBack'. -/
def headerBackUptoCard : Claim7 := { stood := { row := headerBackUptoRow, standIns := [], harness := (true, "672859548533d8e0457ee79354cb284a2d460a99e45bfccd573d24c638a7aa49"), looks := false }, kinds := [], alts := [], laidByText := true, laidKinds := [.data], laidTests := true, laidLooks := .later }
def HeaderBackUptoCardSaid : Prop := Claim7.holds Tryd.pinned (.plain (OpenSpec.upto headerBackSpec)) headerBackUptoCard

/-- THE SECOND FORM's CARD OF 'coxswainlaw05.HeaderKeys'. -/
def headerKeysUptoCard : Claim7 := { stood := { row := headerKeysUptoRow, standIns := [], harness := (true, "672859548533d8e0457ee79354cb284a2d460a99e45bfccd573d24c638a7aa49"), looks := false }, kinds := [], alts := [], laidByText := true, laidKinds := [.data], laidTests := true, laidLooks := .later }
def HeaderKeysUptoCardSaid : Prop := Claim7.holds Tryd.pinned (.plain (OpenSpec.upto headerKeysSpec)) headerKeysUptoCard

/-- THE SECOND FORM's CARD OF 'coxswainlaw05.HeaderShares'. -/
def headerSharesUptoCard : Claim7 := { stood := { row := headerSharesUptoRow, standIns := [], harness := (true, "672859548533d8e0457ee79354cb284a2d460a99e45bfccd573d24c638a7aa49"), looks := false }, kinds := [], alts := [], laidByText := true, laidKinds := [.data], laidTests := true, laidLooks := .later }
def HeaderSharesUptoCardSaid : Prop := Claim7.holds Tryd.pinned (.plain (OpenSpec.upto headerSharesSpec)) headerSharesUptoCard
end Rows
end Go.Proofs.YtiegakeacghnfaaDoor
