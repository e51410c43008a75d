/-
  DERIVED. GIVEN WITH THE SEED: THE CARDS: each row of YtlhndibfdccohaaDoorRows.lean that lists a variable, with what it lists TIED to the program's text (the seventh form; the later family's looks); each row that meets fmt, with fmt's text TOLD by the authors' own Lean function (tested against real Go, not proved from fmt's source: count such statements apart). THE CARD IS WHAT COUNTS. Prove the row's statement (the work); the ties are given (YtlhndibfdccohaaDoorTie.lean); close each card by the builder's one call (the guide's Derived/Test/ToyasCard.lean, 'card_holds'). Laid BY PROGRAM, IN A SANDBOX (cutbox-door.mjs). By AI agents, Wed Nov 11 2026. No macro, syntax, notation, axiom, sorry.
-/
import Derived.Test.YtlhndibfdccohaaDoorRows
import GoSem.ClaimSeven
namespace Go.Proofs.YtlhndibfdccohaaDoor
namespace Rows

/-- THE TIED CARD OF 'coxswainlaw08.TipsetOrder'. -/
def tipsetOrderCard : Claim7 := { stood := { row := tipsetOrderRow, standIns := [], harness := (true, "09158aaa950303431e6a399c45b198c554a69958da9b2f320dae4c4ccb35935a"), looks := false }, kinds := [], alts := [], laidByText := true, laidKinds := [.data], laidTests := true, laidLooks := .later }
def TipsetOrderCardSaid : Prop := Claim7.holds Tryd.pinned (.plain (OpenSpec.ofChange tipsetOrderSpec)) tipsetOrderCard

/-- THE TIED CARD OF 'coxswainlaw08.TipsetParts'. -/
def tipsetPartsCard : Claim7 := { stood := { row := tipsetPartsRow, standIns := [], harness := (true, "09158aaa950303431e6a399c45b198c554a69958da9b2f320dae4c4ccb35935a"), looks := false }, kinds := [], alts := [], laidByText := true, laidKinds := [.data], laidTests := true, laidLooks := .later }
def TipsetPartsCardSaid : Prop := Claim7.holds Tryd.pinned (.plain (OpenSpec.ofChange tipsetPartsSpec)) tipsetPartsCard

/-- THE TIED CARD OF 'coxswaintop.CoxswainKeys'. -/
def coxswainKeysCard : Claim7 := { stood := { row := coxswainKeysRow, standIns := [], harness := (true, "09158aaa950303431e6a399c45b198c554a69958da9b2f320dae4c4ccb35935a"), looks := false }, kinds := [], alts := [], laidByText := true, laidKinds := [.data], laidTests := true, laidLooks := .later }
def CoxswainKeysCardSaid : Prop := Claim7.holds Tryd.pinned (.plain (OpenSpec.ofChange coxswainKeysSpec)) coxswainKeysCard

/-- THE SECOND FORM's CARD OF 'coxswainlaw08.TipsetOrder'. -/
def tipsetOrderUptoCard : Claim7 := { stood := { row := tipsetOrderUptoRow, standIns := [], harness := (true, "09158aaa950303431e6a399c45b198c554a69958da9b2f320dae4c4ccb35935a"), looks := false }, kinds := [], alts := [], laidByText := true, laidKinds := [.data], laidTests := true, laidLooks := .later }
def TipsetOrderUptoCardSaid : Prop := Claim7.holds Tryd.pinned (.plain (OpenSpec.upto tipsetOrderSpec)) tipsetOrderUptoCard

/-- THE SECOND FORM's CARD OF 'coxswainlaw08.TipsetParts'. -/
def tipsetPartsUptoCard : Claim7 := { stood := { row := tipsetPartsUptoRow, standIns := [], harness := (true, "09158aaa950303431e6a399c45b198c554a69958da9b2f320dae4c4ccb35935a"), looks := false }, kinds := [], alts := [], laidByText := true, laidKinds := [.data], laidTests := true, laidLooks := .later }
def TipsetPartsUptoCardSaid : Prop := Claim7.holds Tryd.pinned (.plain (OpenSpec.upto tipsetPartsSpec)) tipsetPartsUptoCard

/-- THE SECOND FORM's CARD OF 'coxswaintop.CoxswainKeys'. -/
def coxswainKeysUptoCard : Claim7 := { stood := { row := coxswainKeysUptoRow, standIns := [], harness := (true, "09158aaa950303431e6a399c45b198c554a69958da9b2f320dae4c4ccb35935a"), looks := false }, kinds := [], alts := [], laidByText := true, laidKinds := [.data], laidTests := true, laidLooks := .later }
def CoxswainKeysUptoCardSaid : Prop := Claim7.holds Tryd.pinned (.plain (OpenSpec.upto coxswainKeysSpec)) coxswainKeysUptoCard
end Rows
end Go.Proofs.YtlhndibfdccohaaDoor
