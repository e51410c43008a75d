/-
  DERIVED. GIVEN WITH THE SEED: THE CARDS: each row of YtpdhmjmklmoknaaDoorRows.lean that lists a variable, with what it lists TIED to the program's text (the seventh form; the later family's looks); each row that meets fmt, with fmt's text TOLD by the authors' own Lean function (tested against real Go, not proved from fmt's source: count such statements apart). THE CARD IS WHAT COUNTS. Prove the row's statement (the work); the ties are given (YtpdhmjmklmoknaaDoorTie.lean); close each card by the builder's one call (the guide's Derived/Test/ToyasCard.lean, 'card_holds'). Laid BY PROGRAM, IN A SANDBOX (cutbox-door.mjs). By AI agents, Wed Nov 11 2026. No macro, syntax, notation, axiom, sorry.
-/
import Derived.Test.YtpdhmjmklmoknaaDoorRows
import GoSem.ClaimSeven
namespace Go.Proofs.YtpdhmjmklmoknaaDoor
namespace Rows

/-- THE TIED CARD OF 'coxswainlaw26.LineParses'. -/
def lineParsesCard : Claim7 := { stood := { row := lineParsesRow, standIns := [], harness := (true, "25a181cecb4c8fd8d01d5a5a3081f5999c4962ed6853839f3ce89de64af052a3"), looks := false }, kinds := [], alts := [], laidByText := true, laidKinds := [.data, .pinned], laidTests := true, laidLooks := .later }
def LineParsesCardSaid : Prop := Claim7.holds Tryd.pinned (.plain (OpenSpec.ofChange lineParsesSpec)) lineParsesCard

/-- THE TIED CARD OF 'coxswainlaw26.LineBack'. -/
def lineBackCard : Claim7 := { stood := { row := lineBackRow, standIns := [], harness := (true, "25a181cecb4c8fd8d01d5a5a3081f5999c4962ed6853839f3ce89de64af052a3"), looks := false }, kinds := [], alts := [], laidByText := true, laidKinds := [.data, .data, .data, .data, .pinned], laidTests := true, laidLooks := .later }
def LineBackCardSaid : Prop := Claim7.holds Tryd.pinned (.plain (OpenSpec.ofChange lineBackSpec)) lineBackCard

/-- THE TIED CARD OF 'coxswainlaw26.LineLimit'. -/
def lineLimitCard : Claim7 := { stood := { row := lineLimitRow, standIns := [], harness := (true, "25a181cecb4c8fd8d01d5a5a3081f5999c4962ed6853839f3ce89de64af052a3"), looks := false }, kinds := [], alts := [], laidByText := true, laidKinds := [.data, .pinned], laidTests := true, laidLooks := .later }
def LineLimitCardSaid : Prop := Claim7.holds Tryd.pinned (.plain (OpenSpec.ofChange lineLimitSpec)) lineLimitCard

/-- THE TIED CARD OF 'coxswainlaw26.LineHex'. -/
def lineHexCard : Claim7 := { stood := { row := lineHexRow, standIns := [], harness := (true, "25a181cecb4c8fd8d01d5a5a3081f5999c4962ed6853839f3ce89de64af052a3"), looks := false }, kinds := [], alts := [], laidByText := true, laidKinds := [.data, .pinned], laidTests := true, laidLooks := .later }
def LineHexCardSaid : Prop := Claim7.holds Tryd.pinned (.plain (OpenSpec.ofChange lineHexSpec)) lineHexCard

/-- THE TIED CARD OF 'coxswainlaw26.LineWords'. -/
def lineWordsCard : Claim7 := { stood := { row := lineWordsRow, standIns := [], harness := (true, "25a181cecb4c8fd8d01d5a5a3081f5999c4962ed6853839f3ce89de64af052a3"), looks := false }, kinds := [], alts := [], laidByText := true, laidKinds := [.data, .data, .data, .data, .pinned], laidTests := true, laidLooks := .later }
def LineWordsCardSaid : Prop := Claim7.holds Tryd.pinned (.plain (OpenSpec.ofChange lineWordsSpec)) lineWordsCard

/-- THE SECOND FORM's CARD OF 'coxswainlaw26.LineParses'. -/
def lineParsesUptoCard : Claim7 := { stood := { row := lineParsesUptoRow, standIns := [], harness := (true, "25a181cecb4c8fd8d01d5a5a3081f5999c4962ed6853839f3ce89de64af052a3"), looks := false }, kinds := [], alts := [], laidByText := true, laidKinds := [.data, .pinned], laidTests := true, laidLooks := .later }
def LineParsesUptoCardSaid : Prop := Claim7.holds Tryd.pinned (.plain (OpenSpec.upto lineParsesSpec)) lineParsesUptoCard

/-- THE SECOND FORM's CARD OF 'coxswainlaw26.LineBack'. -/
def lineBackUptoCard : Claim7 := { stood := { row := lineBackUptoRow, standIns := [], harness := (true, "25a181cecb4c8fd8d01d5a5a3081f5999c4962ed6853839f3ce89de64af052a3"), looks := false }, kinds := [], alts := [], laidByText := true, laidKinds := [.data, .data, .data, .data, .pinned], laidTests := true, laidLooks := .later }
def LineBackUptoCardSaid : Prop := Claim7.holds Tryd.pinned (.plain (OpenSpec.upto lineBackSpec)) lineBackUptoCard

/-- THE SECOND FORM's CARD OF 'coxswainlaw26.LineLimit'. -/
def lineLimitUptoCard : Claim7 := { stood := { row := lineLimitUptoRow, standIns := [], harness := (true, "25a181cecb4c8fd8d01d5a5a3081f5999c4962ed6853839f3ce89de64af052a3"), looks := false }, kinds := [], alts := [], laidByText := true, laidKinds := [.data, .pinned], laidTests := true, laidLooks := .later }
def LineLimitUptoCardSaid : Prop := Claim7.holds Tryd.pinned (.plain (OpenSpec.upto lineLimitSpec)) lineLimitUptoCard

/-- THE SECOND FORM's CARD OF 'coxswainlaw26.LineHex'. -/
def lineHexUptoCard : Claim7 := { stood := { row := lineHexUptoRow, standIns := [], harness := (true, "25a181cecb4c8fd8d01d5a5a3081f5999c4962ed6853839f3ce89de64af052a3"), looks := false }, kinds := [], alts := [], laidByText := true, laidKinds := [.data, .pinned], laidTests := true, laidLooks := .later }
def LineHexUptoCardSaid : Prop := Claim7.holds Tryd.pinned (.plain (OpenSpec.upto lineHexSpec)) lineHexUptoCard

/-- THE SECOND FORM's CARD OF 'coxswainlaw26.LineWords'. -/
def lineWordsUptoCard : Claim7 := { stood := { row := lineWordsUptoRow, standIns := [], harness := (true, "25a181cecb4c8fd8d01d5a5a3081f5999c4962ed6853839f3ce89de64af052a3"), looks := false }, kinds := [], alts := [], laidByText := true, laidKinds := [.data, .data, .data, .data, .pinned], laidTests := true, laidLooks := .later }
def LineWordsUptoCardSaid : Prop := Claim7.holds Tryd.pinned (.plain (OpenSpec.upto lineWordsSpec)) lineWordsUptoCard
end Rows
end Go.Proofs.YtpdhmjmklmoknaaDoor
