/-
  DERIVED. GIVEN WITH THE SEED: THE CARDS: each row of YtemnebbdaljfbaaGreatDoorRows.lean that lists a variable, with what it lists TIED to the program's text (the seventh form; the later family's looks); each row that meets fmt, with fmt's text TOLD by the authors' own Lean function (tested against real Go, not proved from fmt's source: count such statements apart). THE CARD IS WHAT COUNTS. Prove the row's statement (the work); the ties are given (YtemnebbdaljfbaaGreatDoorTie.lean); close each card by the builder's one call (the guide's Derived/Test/ToyasCard.lean, 'card_holds'). Laid BY PROGRAM, IN A SANDBOX (cutbox-door.mjs). By AI agents, Wed Nov 11 2026. No macro, syntax, notation, axiom, sorry.
-/
import Derived.Test.YtemnebbdaljfbaaGreatDoorRows
import GoSem.ClaimSeven
namespace Go.Proofs.YtemnebbdaljfbaaGreatDoor
namespace Rows

/-- THE TIED CARD OF 'coxswainlaw13.DagAdds'. -/
def dagAddsCard : Claim7 := { stood := { row := dagAddsRow, standIns := [], harness := (true, "6b4894f180d1365c32fea5c64d4f6e7ad92f344cb59a137e7794d1b9fc007d8a"), looks := true }, kinds := [], alts := [], laidByText := true, laidKinds := [.data], laidTests := true, laidLooks := .later }
def DagAddsCardSaid : Prop := Claim7.holds Tryz.pinned (.plain (OpenSpec.ofChange dagAddsSpec)) dagAddsCard

/-- THE TIED CARD OF 'coxswainlaw13.DagTipsets'. -/
def dagTipsetsCard : Claim7 := { stood := { row := dagTipsetsRow, standIns := [], harness := (true, "6b4894f180d1365c32fea5c64d4f6e7ad92f344cb59a137e7794d1b9fc007d8a"), looks := true }, kinds := [], alts := [], laidByText := true, laidKinds := [.data], laidTests := true, laidLooks := .later }
def DagTipsetsCardSaid : Prop := Claim7.holds Tryz.pinned (.plain (OpenSpec.ofChange dagTipsetsSpec)) dagTipsetsCard

/-- THE TIED CARD OF 'coxswainlaw13.DagFamilies'. -/
def dagFamiliesCard : Claim7 := { stood := { row := dagFamiliesRow, standIns := [], harness := (true, "6b4894f180d1365c32fea5c64d4f6e7ad92f344cb59a137e7794d1b9fc007d8a"), looks := true }, kinds := [], alts := [], laidByText := true, laidKinds := [.data], laidTests := true, laidLooks := .later }
def DagFamiliesCardSaid : Prop := Claim7.holds Tryz.pinned (.plain (OpenSpec.ofChange dagFamiliesSpec)) dagFamiliesCard

/-- THE TIED CARD OF 'coxswainlaw13.DagClosed'. -/
def dagClosedCard : Claim7 := { stood := { row := dagClosedRow, standIns := [], harness := (true, "6b4894f180d1365c32fea5c64d4f6e7ad92f344cb59a137e7794d1b9fc007d8a"), looks := true }, kinds := [], alts := [], laidByText := true, laidKinds := [.data], laidTests := true, laidLooks := .later }
def DagClosedCardSaid : Prop := Claim7.holds Tryz.pinned (.plain (OpenSpec.ofChange dagClosedSpec)) dagClosedCard

/-- THE SECOND FORM's CARD OF 'coxswainlaw13.DagAdds'. -/
def dagAddsUptoCard : Claim7 := { stood := { row := dagAddsUptoRow, standIns := [], harness := (true, "6b4894f180d1365c32fea5c64d4f6e7ad92f344cb59a137e7794d1b9fc007d8a"), looks := true }, kinds := [], alts := [], laidByText := true, laidKinds := [.data], laidTests := true, laidLooks := .later }
def DagAddsUptoCardSaid : Prop := Claim7.holds Tryz.pinned (.plain (OpenSpec.upto dagAddsSpec)) dagAddsUptoCard

/-- THE SECOND FORM's CARD OF 'coxswainlaw13.DagTipsets'. -/
def dagTipsetsUptoCard : Claim7 := { stood := { row := dagTipsetsUptoRow, standIns := [], harness := (true, "6b4894f180d1365c32fea5c64d4f6e7ad92f344cb59a137e7794d1b9fc007d8a"), looks := true }, kinds := [], alts := [], laidByText := true, laidKinds := [.data], laidTests := true, laidLooks := .later }
def DagTipsetsUptoCardSaid : Prop := Claim7.holds Tryz.pinned (.plain (OpenSpec.upto dagTipsetsSpec)) dagTipsetsUptoCard

/-- THE SECOND FORM's CARD OF 'coxswainlaw13.DagFamilies'. -/
def dagFamiliesUptoCard : Claim7 := { stood := { row := dagFamiliesUptoRow, standIns := [], harness := (true, "6b4894f180d1365c32fea5c64d4f6e7ad92f344cb59a137e7794d1b9fc007d8a"), looks := true }, kinds := [], alts := [], laidByText := true, laidKinds := [.data], laidTests := true, laidLooks := .later }
def DagFamiliesUptoCardSaid : Prop := Claim7.holds Tryz.pinned (.plain (OpenSpec.upto dagFamiliesSpec)) dagFamiliesUptoCard

/-- THE SECOND FORM's CARD OF 'coxswainlaw13.DagClosed'. -/
def dagClosedUptoCard : Claim7 := { stood := { row := dagClosedUptoRow, standIns := [], harness := (true, "6b4894f180d1365c32fea5c64d4f6e7ad92f344cb59a137e7794d1b9fc007d8a"), looks := true }, kinds := [], alts := [], laidByText := true, laidKinds := [.data], laidTests := true, laidLooks := .later }
def DagClosedUptoCardSaid : Prop := Claim7.holds Tryz.pinned (.plain (OpenSpec.upto dagClosedSpec)) dagClosedUptoCard
end Rows
end Go.Proofs.YtemnebbdaljfbaaGreatDoor
