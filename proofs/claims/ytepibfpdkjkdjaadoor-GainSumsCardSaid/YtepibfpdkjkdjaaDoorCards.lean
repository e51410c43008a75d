/-
  DERIVED. GIVEN WITH THE SEED: THE CARDS: each row of YtepibfpdkjkdjaaDoorRows.lean that lists a variable, with what it lists TIED to the program's text (the seventh form; the later family's looks); each row that meets fmt, with fmt's text TOLD by the authors' own Lean function (tested against real Go, not proved from fmt's source: count such statements apart). THE CARD IS WHAT COUNTS. Prove the row's statement (the work); the ties are given (YtepibfpdkjkdjaaDoorTie.lean); close each card by the builder's one call (the guide's Derived/Test/ToyasCard.lean, 'card_holds'). Laid BY PROGRAM, IN A SANDBOX (cutbox-door.mjs). By AI agents, Wed Nov 11 2026. No macro, syntax, notation, axiom, sorry.
-/
import Derived.Test.YtepibfpdkjkdjaaDoorRows
import GoSem.ClaimSeven
namespace Go.Proofs.YtepibfpdkjkdjaaDoor
namespace Rows

/-- THE TIED CARD OF 'coxswainlaw03.NatTwo'. -/
def natTwoCard : Claim7 := { stood := { row := natTwoRow, standIns := [], harness := (true, "4f11a64dbd2334008727b083f89ef98cc1f990f33bed3b0efe3f85315c56eb51"), looks := false }, kinds := [], alts := [], laidByText := true, laidKinds := [.data, .pinned], laidTests := true, laidLooks := .later }
def NatTwoCardSaid : Prop := Claim7.holds Tryd.pinned (.plain (OpenSpec.ofChange natTwoSpec)) natTwoCard

/-- THE TIED CARD OF 'coxswainlaw03.NatOne'. -/
def natOneCard : Claim7 := { stood := { row := natOneRow, standIns := [], harness := (true, "4f11a64dbd2334008727b083f89ef98cc1f990f33bed3b0efe3f85315c56eb51"), looks := false }, kinds := [], alts := [], laidByText := true, laidKinds := [.data, .pinned], laidTests := true, laidLooks := .later }
def NatOneCardSaid : Prop := Claim7.holds Tryd.pinned (.plain (OpenSpec.ofChange natOneSpec)) natOneCard

/-- THE TIED CARD OF 'coxswainlaw03.NatRules'. -/
def natRulesCard : Claim7 := { stood := { row := natRulesRow, standIns := [], harness := (true, "4f11a64dbd2334008727b083f89ef98cc1f990f33bed3b0efe3f85315c56eb51"), looks := false }, kinds := [], alts := [], laidByText := true, laidKinds := [.data, .pinned], laidTests := true, laidLooks := .later }
def NatRulesCardSaid : Prop := Claim7.holds Tryd.pinned (.plain (OpenSpec.ofChange natRulesSpec)) natRulesCard

/-- THE TIED CARD OF 'coxswainlaw03.NatTexts'. -/
def natTextsCard : Claim7 := { stood := { row := natTextsRow, standIns := [], harness := (true, "4f11a64dbd2334008727b083f89ef98cc1f990f33bed3b0efe3f85315c56eb51"), looks := false }, kinds := [], alts := [], laidByText := true, laidKinds := [.data, .pinned], laidTests := true, laidLooks := .later }
def NatTextsCardSaid : Prop := Claim7.holds Tryd.pinned (.plain (OpenSpec.ofChange natTextsSpec)) natTextsCard

/-- THE TIED CARD OF 'coxswainlaw03.NatDivides'. -/
def natDividesCard : Claim7 := { stood := { row := natDividesRow, standIns := [], harness := (true, "4f11a64dbd2334008727b083f89ef98cc1f990f33bed3b0efe3f85315c56eb51"), looks := false }, kinds := [], alts := [], laidByText := true, laidKinds := [.data, .pinned], laidTests := true, laidLooks := .later }
def NatDividesCardSaid : Prop := Claim7.holds Tryd.pinned (.plain (OpenSpec.ofChange natDividesSpec)) natDividesCard

/-- THE TIED CARD OF 'coxswainlaw03.NatBits'. -/
def natBitsCard : Claim7 := { stood := { row := natBitsRow, standIns := [], harness := (true, "4f11a64dbd2334008727b083f89ef98cc1f990f33bed3b0efe3f85315c56eb51"), looks := false }, kinds := [], alts := [], laidByText := true, laidKinds := [.data, .pinned], laidTests := true, laidLooks := .later }
def NatBitsCardSaid : Prop := Claim7.holds Tryd.pinned (.plain (OpenSpec.ofChange natBitsSpec)) natBitsCard

/-- THE TIED CARD OF 'coxswainlaw03.NatSmall'. -/
def natSmallCard : Claim7 := { stood := { row := natSmallRow, standIns := [], harness := (true, "4f11a64dbd2334008727b083f89ef98cc1f990f33bed3b0efe3f85315c56eb51"), looks := false }, kinds := [], alts := [], laidByText := true, laidKinds := [.data, .pinned], laidTests := true, laidLooks := .later }
def NatSmallCardSaid : Prop := Claim7.holds Tryd.pinned (.plain (OpenSpec.ofChange natSmallSpec)) natSmallCard

/-- THE TIED CARD OF 'coxswainlaw04.GainLogs'. -/
def gainLogsCard : Claim7 := { stood := { row := gainLogsRow, standIns := [], harness := (true, "4f11a64dbd2334008727b083f89ef98cc1f990f33bed3b0efe3f85315c56eb51"), looks := false }, kinds := [], alts := [], laidByText := true, laidKinds := [.data, .pinned], laidTests := true, laidLooks := .later }
def GainLogsCardSaid : Prop := Claim7.holds Tryd.pinned (.plain (OpenSpec.ofChange gainLogsSpec)) gainLogsCard

/-- THE TIED CARD OF 'coxswainlaw04.GainBounds'. -/
def gainBoundsCard : Claim7 := { stood := { row := gainBoundsRow, standIns := [], harness := (true, "4f11a64dbd2334008727b083f89ef98cc1f990f33bed3b0efe3f85315c56eb51"), looks := false }, kinds := [], alts := [], laidByText := true, laidKinds := [.data, .pinned], laidTests := true, laidLooks := .later }
def GainBoundsCardSaid : Prop := Claim7.holds Tryd.pinned (.plain (OpenSpec.ofChange gainBoundsSpec)) gainBoundsCard

/-- THE TIED CARD OF 'coxswainlaw04.GainOf'. -/
def gainOfCard : Claim7 := { stood := { row := gainOfRow, standIns := [], harness := (true, "4f11a64dbd2334008727b083f89ef98cc1f990f33bed3b0efe3f85315c56eb51"), looks := false }, kinds := [], alts := [], laidByText := true, laidKinds := [.data, .pinned], laidTests := true, laidLooks := .later }
def GainOfCardSaid : Prop := Claim7.holds Tryd.pinned (.plain (OpenSpec.ofChange gainOfSpec)) gainOfCard

/-- THE TIED CARD OF 'coxswainlaw04.GainSums'. -/
def gainSumsCard : Claim7 := { stood := { row := gainSumsRow, standIns := [], harness := (true, "4f11a64dbd2334008727b083f89ef98cc1f990f33bed3b0efe3f85315c56eb51"), looks := false }, kinds := [], alts := [], laidByText := true, laidKinds := [.data, .pinned], laidTests := true, laidLooks := .later }
def GainSumsCardSaid : Prop := Claim7.holds Tryd.pinned (.plain (OpenSpec.ofChange gainSumsSpec)) gainSumsCard

/-- THE TIED CARD OF 'coxswainlaw04.GainProducts'. -/
def gainProductsCard : Claim7 := { stood := { row := gainProductsRow, standIns := [], harness := (true, "4f11a64dbd2334008727b083f89ef98cc1f990f33bed3b0efe3f85315c56eb51"), looks := false }, kinds := [], alts := [], laidByText := true, laidKinds := [.data, .pinned], laidTests := true, laidLooks := .later }
def GainProductsCardSaid : Prop := Claim7.holds Tryd.pinned (.plain (OpenSpec.ofChange gainProductsSpec)) gainProductsCard

/-- THE TIED CARD OF 'coxswaintop.CoxswainWeights'. -/
def coxswainWeightsCard : Claim7 := { stood := { row := coxswainWeightsRow, standIns := [], harness := (true, "4f11a64dbd2334008727b083f89ef98cc1f990f33bed3b0efe3f85315c56eb51"), looks := false }, kinds := [], alts := [], laidByText := true, laidKinds := [.data, .pinned], laidTests := true, laidLooks := .later }
def CoxswainWeightsCardSaid : Prop := Claim7.holds Tryd.pinned (.plain (OpenSpec.ofChange coxswainWeightsSpec)) coxswainWeightsCard

/-- THE SECOND FORM's CARD OF 'coxswainlaw03.NatTwo'. -/
def natTwoUptoCard : Claim7 := { stood := { row := natTwoUptoRow, standIns := [], harness := (true, "4f11a64dbd2334008727b083f89ef98cc1f990f33bed3b0efe3f85315c56eb51"), looks := false }, kinds := [], alts := [], laidByText := true, laidKinds := [.data, .pinned], laidTests := true, laidLooks := .later }
def NatTwoUptoCardSaid : Prop := Claim7.holds Tryd.pinned (.plain (OpenSpec.upto natTwoSpec)) natTwoUptoCard

/-- THE SECOND FORM's CARD OF 'coxswainlaw03.NatOne'. -/
def natOneUptoCard : Claim7 := { stood := { row := natOneUptoRow, standIns := [], harness := (true, "4f11a64dbd2334008727b083f89ef98cc1f990f33bed3b0efe3f85315c56eb51"), looks := false }, kinds := [], alts := [], laidByText := true, laidKinds := [.data, .pinned], laidTests := true, laidLooks := .later }
def NatOneUptoCardSaid : Prop := Claim7.holds Tryd.pinned (.plain (OpenSpec.upto natOneSpec)) natOneUptoCard

/-- THE SECOND FORM's CARD OF 'coxswainlaw03.NatRules'. -/
def natRulesUptoCard : Claim7 := { stood := { row := natRulesUptoRow, standIns := [], harness := (true, "4f11a64dbd2334008727b083f89ef98cc1f990f33bed3b0efe3f85315c56eb51"), looks := false }, kinds := [], alts := [], laidByText := true, laidKinds := [.data, .pinned], laidTests := true, laidLooks := .later }
def NatRulesUptoCardSaid : Prop := Claim7.holds Tryd.pinned (.plain (OpenSpec.upto natRulesSpec)) natRulesUptoCard

/-- THE SECOND FORM's CARD OF 'coxswainlaw03.NatTexts'. -/
def natTextsUptoCard : Claim7 := { stood := { row := natTextsUptoRow, standIns := [], harness := (true, "4f11a64dbd2334008727b083f89ef98cc1f990f33bed3b0efe3f85315c56eb51"), looks := false }, kinds := [], alts := [], laidByText := true, laidKinds := [.data, .pinned], laidTests := true, laidLooks := .later }
def NatTextsUptoCardSaid : Prop := Claim7.holds Tryd.pinned (.plain (OpenSpec.upto natTextsSpec)) natTextsUptoCard

/-- THE SECOND FORM's CARD OF 'coxswainlaw03.NatDivides'. -/
def natDividesUptoCard : Claim7 := { stood := { row := natDividesUptoRow, standIns := [], harness := (true, "4f11a64dbd2334008727b083f89ef98cc1f990f33bed3b0efe3f85315c56eb51"), looks := false }, kinds := [], alts := [], laidByText := true, laidKinds := [.data, .pinned], laidTests := true, laidLooks := .later }
def NatDividesUptoCardSaid : Prop := Claim7.holds Tryd.pinned (.plain (OpenSpec.upto natDividesSpec)) natDividesUptoCard

/-- THE SECOND FORM's CARD OF 'coxswainlaw03.NatBits'. -/
def natBitsUptoCard : Claim7 := { stood := { row := natBitsUptoRow, standIns := [], harness := (true, "4f11a64dbd2334008727b083f89ef98cc1f990f33bed3b0efe3f85315c56eb51"), looks := false }, kinds := [], alts := [], laidByText := true, laidKinds := [.data, .pinned], laidTests := true, laidLooks := .later }
def NatBitsUptoCardSaid : Prop := Claim7.holds Tryd.pinned (.plain (OpenSpec.upto natBitsSpec)) natBitsUptoCard

/-- THE SECOND FORM's CARD OF 'coxswainlaw03.NatSmall'. -/
def natSmallUptoCard : Claim7 := { stood := { row := natSmallUptoRow, standIns := [], harness := (true, "4f11a64dbd2334008727b083f89ef98cc1f990f33bed3b0efe3f85315c56eb51"), looks := false }, kinds := [], alts := [], laidByText := true, laidKinds := [.data, .pinned], laidTests := true, laidLooks := .later }
def NatSmallUptoCardSaid : Prop := Claim7.holds Tryd.pinned (.plain (OpenSpec.upto natSmallSpec)) natSmallUptoCard

/-- THE SECOND FORM's CARD OF 'coxswainlaw04.GainLogs'. -/
def gainLogsUptoCard : Claim7 := { stood := { row := gainLogsUptoRow, standIns := [], harness := (true, "4f11a64dbd2334008727b083f89ef98cc1f990f33bed3b0efe3f85315c56eb51"), looks := false }, kinds := [], alts := [], laidByText := true, laidKinds := [.data, .pinned], laidTests := true, laidLooks := .later }
def GainLogsUptoCardSaid : Prop := Claim7.holds Tryd.pinned (.plain (OpenSpec.upto gainLogsSpec)) gainLogsUptoCard

/-- THE SECOND FORM's CARD OF 'coxswainlaw04.GainBounds'. -/
def gainBoundsUptoCard : Claim7 := { stood := { row := gainBoundsUptoRow, standIns := [], harness := (true, "4f11a64dbd2334008727b083f89ef98cc1f990f33bed3b0efe3f85315c56eb51"), looks := false }, kinds := [], alts := [], laidByText := true, laidKinds := [.data, .pinned], laidTests := true, laidLooks := .later }
def GainBoundsUptoCardSaid : Prop := Claim7.holds Tryd.pinned (.plain (OpenSpec.upto gainBoundsSpec)) gainBoundsUptoCard

/-- THE SECOND FORM's CARD OF 'coxswainlaw04.GainOf'. -/
def gainOfUptoCard : Claim7 := { stood := { row := gainOfUptoRow, standIns := [], harness := (true, "4f11a64dbd2334008727b083f89ef98cc1f990f33bed3b0efe3f85315c56eb51"), looks := false }, kinds := [], alts := [], laidByText := true, laidKinds := [.data, .pinned], laidTests := true, laidLooks := .later }
def GainOfUptoCardSaid : Prop := Claim7.holds Tryd.pinned (.plain (OpenSpec.upto gainOfSpec)) gainOfUptoCard

/-- THE SECOND FORM's CARD OF 'coxswainlaw04.GainSums'. -/
def gainSumsUptoCard : Claim7 := { stood := { row := gainSumsUptoRow, standIns := [], harness := (true, "4f11a64dbd2334008727b083f89ef98cc1f990f33bed3b0efe3f85315c56eb51"), looks := false }, kinds := [], alts := [], laidByText := true, laidKinds := [.data, .pinned], laidTests := true, laidLooks := .later }
def GainSumsUptoCardSaid : Prop := Claim7.holds Tryd.pinned (.plain (OpenSpec.upto gainSumsSpec)) gainSumsUptoCard

/-- THE SECOND FORM's CARD OF 'coxswainlaw04.GainProducts'. -/
def gainProductsUptoCard : Claim7 := { stood := { row := gainProductsUptoRow, standIns := [], harness := (true, "4f11a64dbd2334008727b083f89ef98cc1f990f33bed3b0efe3f85315c56eb51"), looks := false }, kinds := [], alts := [], laidByText := true, laidKinds := [.data, .pinned], laidTests := true, laidLooks := .later }
def GainProductsUptoCardSaid : Prop := Claim7.holds Tryd.pinned (.plain (OpenSpec.upto gainProductsSpec)) gainProductsUptoCard

/-- THE SECOND FORM's CARD OF 'coxswaintop.CoxswainWeights'. -/
def coxswainWeightsUptoCard : Claim7 := { stood := { row := coxswainWeightsUptoRow, standIns := [], harness := (true, "4f11a64dbd2334008727b083f89ef98cc1f990f33bed3b0efe3f85315c56eb51"), looks := false }, kinds := [], alts := [], laidByText := true, laidKinds := [.data, .pinned], laidTests := true, laidLooks := .later }
def CoxswainWeightsUptoCardSaid : Prop := Claim7.holds Tryd.pinned (.plain (OpenSpec.upto coxswainWeightsSpec)) coxswainWeightsUptoCard
end Rows
end Go.Proofs.YtepibfpdkjkdjaaDoor
