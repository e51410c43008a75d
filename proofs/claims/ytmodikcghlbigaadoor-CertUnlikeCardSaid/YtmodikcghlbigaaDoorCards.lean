/-
  DERIVED. GIVEN WITH THE SEED: THE CARDS: each row of YtmodikcghlbigaaDoorRows.lean that lists a variable, with what it lists TIED to the program's text (the seventh form; the later family's looks); each row that meets fmt, with fmt's text TOLD by the authors' own Lean function (tested against real Go, not proved from fmt's source: count such statements apart). THE CARD IS WHAT COUNTS. Prove the row's statement (the work); the ties are given (YtmodikcghlbigaaDoorTie.lean); close each card by the builder's one call (the guide's Derived/Test/ToyasCard.lean, 'card_holds'). Laid BY PROGRAM, IN A SANDBOX (cutbox-door.mjs). By AI agents, Wed Nov 11 2026. No macro, syntax, notation, axiom, sorry.
-/
import Derived.Test.YtmodikcghlbigaaDoorRows
import GoSem.ClaimSeven
namespace Go.Proofs.YtmodikcghlbigaaDoor
namespace Rows

/-- THE TIED CARD OF 'coxswainlaw07.CertBack'. -/
def certBackCard : Claim7 := { stood := { row := certBackRow, standIns := [], harness := (true, "80a07d78331cd0d985358df25844df6aee47af38a580b72ca976ff7ff3c7dd1b"), looks := false }, kinds := [], alts := [], laidByText := true, laidKinds := [.data], laidTests := true, laidLooks := .later }
def CertBackCardSaid : Prop := Claim7.holds Tryd.pinned (.plain (OpenSpec.ofChange certBackSpec)) certBackCard

/-- THE TIED CARD OF 'coxswainlaw07.CertReads'. -/
def certReadsCard : Claim7 := { stood := { row := certReadsRow, standIns := [], harness := (true, "80a07d78331cd0d985358df25844df6aee47af38a580b72ca976ff7ff3c7dd1b"), looks := false }, kinds := [], alts := [], laidByText := true, laidKinds := [.data], laidTests := true, laidLooks := .later }
def CertReadsCardSaid : Prop := Claim7.holds Tryd.pinned (.plain (OpenSpec.ofChange certReadsSpec)) certReadsCard

/-- THE TIED CARD OF 'coxswainlaw07.CertUnlike'. -/
def certUnlikeCard : Claim7 := { stood := { row := certUnlikeRow, standIns := [], harness := (true, "80a07d78331cd0d985358df25844df6aee47af38a580b72ca976ff7ff3c7dd1b"), looks := false }, kinds := [], alts := [], laidByText := true, laidKinds := [.data], laidTests := true, laidLooks := .later }
def CertUnlikeCardSaid : Prop := Claim7.holds Tryd.pinned (.plain (OpenSpec.ofChange certUnlikeSpec)) certUnlikeCard

/-- THE SECOND FORM's CARD OF 'coxswainlaw07.CertBack'. -/
def certBackUptoCard : Claim7 := { stood := { row := certBackUptoRow, standIns := [], harness := (true, "80a07d78331cd0d985358df25844df6aee47af38a580b72ca976ff7ff3c7dd1b"), looks := false }, kinds := [], alts := [], laidByText := true, laidKinds := [.data], laidTests := true, laidLooks := .later }
def CertBackUptoCardSaid : Prop := Claim7.holds Tryd.pinned (.plain (OpenSpec.upto certBackSpec)) certBackUptoCard

/-- THE SECOND FORM's CARD OF 'coxswainlaw07.CertReads'. -/
def certReadsUptoCard : Claim7 := { stood := { row := certReadsUptoRow, standIns := [], harness := (true, "80a07d78331cd0d985358df25844df6aee47af38a580b72ca976ff7ff3c7dd1b"), looks := false }, kinds := [], alts := [], laidByText := true, laidKinds := [.data], laidTests := true, laidLooks := .later }
def CertReadsUptoCardSaid : Prop := Claim7.holds Tryd.pinned (.plain (OpenSpec.upto certReadsSpec)) certReadsUptoCard

/-- THE SECOND FORM's CARD OF 'coxswainlaw07.CertUnlike'. -/
def certUnlikeUptoCard : Claim7 := { stood := { row := certUnlikeUptoRow, standIns := [], harness := (true, "80a07d78331cd0d985358df25844df6aee47af38a580b72ca976ff7ff3c7dd1b"), looks := false }, kinds := [], alts := [], laidByText := true, laidKinds := [.data], laidTests := true, laidLooks := .later }
def CertUnlikeUptoCardSaid : Prop := Claim7.holds Tryd.pinned (.plain (OpenSpec.upto certUnlikeSpec)) certUnlikeUptoCard
end Rows
end Go.Proofs.YtmodikcghlbigaaDoor
