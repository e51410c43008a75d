/-
  DERIVED. GIVEN WITH THE SEED: THE CARDS: each row of YtdahkemeoefndaaDoorRows.lean that lists a variable, with what it lists TIED to the program's text (the seventh form; the later family's looks); each row that meets fmt, with fmt's text TOLD by the authors' own Lean function (tested against real Go, not proved from fmt's source: count such statements apart). THE CARD IS WHAT COUNTS. Prove the row's statement (the work); the ties are given (YtdahkemeoefndaaDoorTie.lean); close each card by the builder's one call (the guide's Derived/Test/ToyasCard.lean, 'card_holds'). Laid BY PROGRAM, IN A SANDBOX (cutbox-door.mjs). By AI agents, Wed Nov 11 2026. No macro, syntax, notation, axiom, sorry.
-/
import Derived.Test.YtdahkemeoefndaaDoorRows
import GoSem.ClaimSeven
namespace Go.Proofs.YtdahkemeoefndaaDoor
namespace Rows

/-- THE TIED CARD OF 'coxswaintop.CoxswainWeights'. -/
def coxswainWeightsCard : Claim7 := { stood := { row := coxswainWeightsRow, standIns := [], harness := (true, "d232180a53e0b088ee54f0d7f1fc0c13f2971c538d9866caf422c9e0098897cb"), looks := false }, kinds := [], alts := [], laidByText := true, laidKinds := [.data, .pinned], laidTests := true, laidLooks := .later }
def CoxswainWeightsCardSaid : Prop := Claim7.holds Tryd.pinned (.plain (OpenSpec.ofChange coxswainWeightsSpec)) coxswainWeightsCard

/-- THE TIED CARD OF 'coxswaintop.CoxswainFields'. -/
def coxswainFieldsCard : Claim7 := { stood := { row := coxswainFieldsRow, standIns := [], harness := (true, "d232180a53e0b088ee54f0d7f1fc0c13f2971c538d9866caf422c9e0098897cb"), looks := false }, kinds := [], alts := [], laidByText := true, laidKinds := [.data, .data, .pinned], laidTests := true, laidLooks := .later }
def CoxswainFieldsCardSaid : Prop := Claim7.holds Tryd.pinned (.plain (OpenSpec.ofChange coxswainFieldsSpec)) coxswainFieldsCard

/-- THE SECOND FORM's CARD OF 'coxswaintop.CoxswainWeights'. -/
def coxswainWeightsUptoCard : Claim7 := { stood := { row := coxswainWeightsUptoRow, standIns := [], harness := (true, "d232180a53e0b088ee54f0d7f1fc0c13f2971c538d9866caf422c9e0098897cb"), looks := false }, kinds := [], alts := [], laidByText := true, laidKinds := [.data, .pinned], laidTests := true, laidLooks := .later }
def CoxswainWeightsUptoCardSaid : Prop := Claim7.holds Tryd.pinned (.plain (OpenSpec.upto coxswainWeightsSpec)) coxswainWeightsUptoCard

/-- THE SECOND FORM's CARD OF 'coxswaintop.CoxswainFields'. -/
def coxswainFieldsUptoCard : Claim7 := { stood := { row := coxswainFieldsUptoRow, standIns := [], harness := (true, "d232180a53e0b088ee54f0d7f1fc0c13f2971c538d9866caf422c9e0098897cb"), looks := false }, kinds := [], alts := [], laidByText := true, laidKinds := [.data, .data, .pinned], laidTests := true, laidLooks := .later }
def CoxswainFieldsUptoCardSaid : Prop := Claim7.holds Tryd.pinned (.plain (OpenSpec.upto coxswainFieldsSpec)) coxswainFieldsUptoCard
end Rows
end Go.Proofs.YtdahkemeoefndaaDoor
