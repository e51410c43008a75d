/-
  DERIVED. GIVEN WITH THE SEED: THE CARDS: each row of YtippakeemfldfaaDoorRows.lean that lists a variable, with what it lists TIED to the program's text (the seventh form; the later family's looks); each row that meets fmt, with fmt's text TOLD by the authors' own Lean function (tested against real Go, not proved from fmt's source: count such statements apart). THE CARD IS WHAT COUNTS. Prove the row's statement (the work); the ties are given (YtippakeemfldfaaDoorTie.lean); close each card by the builder's one call (the guide's Derived/Test/ToyasCard.lean, 'card_holds'). Laid BY PROGRAM, IN A SANDBOX (cutbox-door.mjs). By AI agents, Wed Nov 11 2026. No macro, syntax, notation, axiom, sorry.
-/
import Derived.Test.YtippakeemfldfaaDoorRows
import GoSem.ClaimSeven
namespace Go.Proofs.YtippakeemfldfaaDoor
namespace Rows

/-- THE TIED CARD OF 'coxswainlaw10.JournalKeeps'. -/
def journalKeepsCard : Claim7 := { stood := { row := journalKeepsRow, standIns := [], harness := (true, "7f448c117a1fcb5fe1206f5aab2f68d30b579bbb9445d4ec121abe92b7372dc6"), looks := false }, kinds := [], alts := [], laidByText := true, laidKinds := [.data], laidTests := true, laidLooks := .later }
def JournalKeepsCardSaid : Prop := Claim7.holds Tryd.pinned (.plain (OpenSpec.ofChange journalKeepsSpec)) journalKeepsCard

/-- THE TIED CARD OF 'coxswainlaw10.JournalReads'. -/
def journalReadsCard : Claim7 := { stood := { row := journalReadsRow, standIns := [], harness := (true, "7f448c117a1fcb5fe1206f5aab2f68d30b579bbb9445d4ec121abe92b7372dc6"), looks := false }, kinds := [], alts := [], laidByText := true, laidKinds := [.data], laidTests := true, laidLooks := .later }
def JournalReadsCardSaid : Prop := Claim7.holds Tryd.pinned (.plain (OpenSpec.ofChange journalReadsSpec)) journalReadsCard

/-- THE TIED CARD OF 'coxswaintop.CoxswainTorn'. -/
def coxswainTornCard : Claim7 := { stood := { row := coxswainTornRow, standIns := [], harness := (true, "7f448c117a1fcb5fe1206f5aab2f68d30b579bbb9445d4ec121abe92b7372dc6"), looks := false }, kinds := [], alts := [], laidByText := true, laidKinds := [.data], laidTests := true, laidLooks := .later }
def CoxswainTornCardSaid : Prop := Claim7.holds Tryd.pinned (.plain (OpenSpec.ofChange coxswainTornSpec)) coxswainTornCard

/-- THE SECOND FORM's CARD OF 'coxswainlaw10.JournalKeeps'. -/
def journalKeepsUptoCard : Claim7 := { stood := { row := journalKeepsUptoRow, standIns := [], harness := (true, "7f448c117a1fcb5fe1206f5aab2f68d30b579bbb9445d4ec121abe92b7372dc6"), looks := false }, kinds := [], alts := [], laidByText := true, laidKinds := [.data], laidTests := true, laidLooks := .later }
def JournalKeepsUptoCardSaid : Prop := Claim7.holds Tryd.pinned (.plain (OpenSpec.upto journalKeepsSpec)) journalKeepsUptoCard

/-- THE SECOND FORM's CARD OF 'coxswainlaw10.JournalReads'. -/
def journalReadsUptoCard : Claim7 := { stood := { row := journalReadsUptoRow, standIns := [], harness := (true, "7f448c117a1fcb5fe1206f5aab2f68d30b579bbb9445d4ec121abe92b7372dc6"), looks := false }, kinds := [], alts := [], laidByText := true, laidKinds := [.data], laidTests := true, laidLooks := .later }
def JournalReadsUptoCardSaid : Prop := Claim7.holds Tryd.pinned (.plain (OpenSpec.upto journalReadsSpec)) journalReadsUptoCard

/-- THE SECOND FORM's CARD OF 'coxswaintop.CoxswainTorn'. -/
def coxswainTornUptoCard : Claim7 := { stood := { row := coxswainTornUptoRow, standIns := [], harness := (true, "7f448c117a1fcb5fe1206f5aab2f68d30b579bbb9445d4ec121abe92b7372dc6"), looks := false }, kinds := [], alts := [], laidByText := true, laidKinds := [.data], laidTests := true, laidLooks := .later }
def CoxswainTornUptoCardSaid : Prop := Claim7.holds Tryd.pinned (.plain (OpenSpec.upto coxswainTornSpec)) coxswainTornUptoCard
end Rows
end Go.Proofs.YtippakeemfldfaaDoor
