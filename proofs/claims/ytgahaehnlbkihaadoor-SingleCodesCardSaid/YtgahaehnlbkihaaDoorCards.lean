/-
  DERIVED. GIVEN WITH THE SEED: THE CARDS: each row of YtgahaehnlbkihaaDoorRows.lean that lists a variable, with what it lists TIED to the program's text (the seventh form; the later family's looks); each row that meets fmt, with fmt's text TOLD by the authors' own Lean function (tested against real Go, not proved from fmt's source: count such statements apart). THE CARD IS WHAT COUNTS. Prove the row's statement (the work); the ties are given (YtgahaehnlbkihaaDoorTie.lean); close each card by the builder's one call (the guide's Derived/Test/ToyasCard.lean, 'card_holds'). Laid BY PROGRAM, IN A SANDBOX (cutbox-door.mjs). By AI agents, Wed Nov 11 2026. No macro, syntax, notation, axiom, sorry.
-/
import Derived.Test.YtgahaehnlbkihaaDoorRows
import GoSem.ClaimSeven
namespace Go.Proofs.YtgahaehnlbkihaaDoor
namespace Rows

/-- THE TIED CARD OF 'cardinglaw04.SingleCodes'. -/
def singleCodesCard : Claim7 := { stood := { row := singleCodesRow, standIns := [], harness := (true, "05bea3b1eede245dd5e02b3bd5da719a38dba52a8559b0f4539ed87089a38622"), looks := false }, kinds := [], alts := [], laidByText := true, laidKinds := [.data, .data, .data], laidTests := true, laidLooks := .later }
def SingleCodesCardSaid : Prop := Claim7.holds Tryd.pinned (.plain (OpenSpec.ofChange singleCodesSpec)) singleCodesCard

/-- THE TIED CARD OF 'cardinglaw04.SingleBack'. -/
def singleBackCard : Claim7 := { stood := { row := singleBackRow, standIns := [], harness := (true, "05bea3b1eede245dd5e02b3bd5da719a38dba52a8559b0f4539ed87089a38622"), looks := false }, kinds := [], alts := [], laidByText := true, laidKinds := [.data, .data, .data], laidTests := true, laidLooks := .later }
def SingleBackCardSaid : Prop := Claim7.holds Tryd.pinned (.plain (OpenSpec.ofChange singleBackSpec)) singleBackCard

/-- THE SECOND FORM's CARD OF 'cardinglaw04.SingleCodes'. -/
def singleCodesUptoCard : Claim7 := { stood := { row := singleCodesUptoRow, standIns := [], harness := (true, "05bea3b1eede245dd5e02b3bd5da719a38dba52a8559b0f4539ed87089a38622"), looks := false }, kinds := [], alts := [], laidByText := true, laidKinds := [.data, .data, .data], laidTests := true, laidLooks := .later }
def SingleCodesUptoCardSaid : Prop := Claim7.holds Tryd.pinned (.plain (OpenSpec.upto singleCodesSpec)) singleCodesUptoCard

/-- THE SECOND FORM's CARD OF 'cardinglaw04.SingleBack'. -/
def singleBackUptoCard : Claim7 := { stood := { row := singleBackUptoRow, standIns := [], harness := (true, "05bea3b1eede245dd5e02b3bd5da719a38dba52a8559b0f4539ed87089a38622"), looks := false }, kinds := [], alts := [], laidByText := true, laidKinds := [.data, .data, .data], laidTests := true, laidLooks := .later }
def SingleBackUptoCardSaid : Prop := Claim7.holds Tryd.pinned (.plain (OpenSpec.upto singleBackSpec)) singleBackUptoCard
end Rows
end Go.Proofs.YtgahaehnlbkihaaDoor
