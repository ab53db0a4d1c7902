/-
  DERIVED. GIVEN WITH THE SEED: THE CARDS: each row of YtdojejkbcogjfaaDoorRows.lean that lists a variable, with what it lists TIED to the program's text (the seventh form; the later family's looks); each row that meets fmt, with fmt's text TOLD by the authors' own Lean function (tested against real Go, not proved from fmt's source: count such statements apart). THE CARD IS WHAT COUNTS. Prove the row's statement (the work); the ties are given (YtdojejkbcogjfaaDoorTie.lean); close each card by the builder's one call (the guide's Derived/Test/ToyasCard.lean, 'card_holds'). Laid BY PROGRAM, IN A SANDBOX (cutbox-door.mjs). By AI agents, Wed Nov 11 2026. No macro, syntax, notation, axiom, sorry.
-/
import Derived.Test.YtdojejkbcogjfaaDoorRows
import GoSem.ClaimSeven
namespace Go.Proofs.YtdojejkbcogjfaaDoor
namespace Rows

/-- THE TIED CARD OF 'cardinglaw02.Utf8Tells'. -/
def utf8TellsCard : Claim7 := { stood := { row := utf8TellsRow, standIns := [], harness := (true, "ae0bd304941fe71a6e276ba965e210d4a501df014e3eb5b06dbc334293f7f47d"), looks := false }, kinds := [], alts := [], laidByText := true, laidKinds := [.data, .data, .data], laidTests := true, laidLooks := .later }
def Utf8TellsCardSaid : Prop := Claim7.holds Tryd.pinned (.plain (OpenSpec.ofChange utf8TellsSpec)) utf8TellsCard

/-- THE TIED CARD OF 'cardinglaw02.Utf8Scalars'. -/
def utf8ScalarsCard : Claim7 := { stood := { row := utf8ScalarsRow, standIns := [], harness := (true, "ae0bd304941fe71a6e276ba965e210d4a501df014e3eb5b06dbc334293f7f47d"), looks := false }, kinds := [], alts := [], laidByText := true, laidKinds := [.data, .data, .data], laidTests := true, laidLooks := .later }
def Utf8ScalarsCardSaid : Prop := Claim7.holds Tryd.pinned (.plain (OpenSpec.ofChange utf8ScalarsSpec)) utf8ScalarsCard

/-- THE TIED CARD OF 'cardinglaw02.Utf8Loose'. -/
def utf8LooseCard : Claim7 := { stood := { row := utf8LooseRow, standIns := [], harness := (true, "ae0bd304941fe71a6e276ba965e210d4a501df014e3eb5b06dbc334293f7f47d"), looks := false }, kinds := [], alts := [], laidByText := true, laidKinds := [.data, .data, .data], laidTests := true, laidLooks := .later }
def Utf8LooseCardSaid : Prop := Claim7.holds Tryd.pinned (.plain (OpenSpec.ofChange utf8LooseSpec)) utf8LooseCard

/-- THE TIED CARD OF 'cardinglaw02.Utf8Back'. -/
def utf8BackCard : Claim7 := { stood := { row := utf8BackRow, standIns := [], harness := (true, "ae0bd304941fe71a6e276ba965e210d4a501df014e3eb5b06dbc334293f7f47d"), looks := false }, kinds := [], alts := [], laidByText := true, laidKinds := [.data, .data, .data], laidTests := true, laidLooks := .later }
def Utf8BackCardSaid : Prop := Claim7.holds Tryd.pinned (.plain (OpenSpec.ofChange utf8BackSpec)) utf8BackCard

/-- THE TIED CARD OF 'cardinglaw02.Utf8Parts'. -/
def utf8PartsCard : Claim7 := { stood := { row := utf8PartsRow, standIns := [], harness := (true, "ae0bd304941fe71a6e276ba965e210d4a501df014e3eb5b06dbc334293f7f47d"), looks := false }, kinds := [], alts := [], laidByText := true, laidKinds := [.data, .data, .data], laidTests := true, laidLooks := .later }
def Utf8PartsCardSaid : Prop := Claim7.holds Tryd.pinned (.plain (OpenSpec.ofChange utf8PartsSpec)) utf8PartsCard

/-- THE TIED CARD OF 'cardinglaw02.Utf8Sorts'. -/
def utf8SortsCard : Claim7 := { stood := { row := utf8SortsRow, standIns := [], harness := (true, "ae0bd304941fe71a6e276ba965e210d4a501df014e3eb5b06dbc334293f7f47d"), looks := false }, kinds := [], alts := [], laidByText := true, laidKinds := [.data, .data, .data], laidTests := true, laidLooks := .later }
def Utf8SortsCardSaid : Prop := Claim7.holds Tryd.pinned (.plain (OpenSpec.ofChange utf8SortsSpec)) utf8SortsCard

/-- THE SECOND FORM's CARD OF 'cardinglaw02.Utf8Tells'. -/
def utf8TellsUptoCard : Claim7 := { stood := { row := utf8TellsUptoRow, standIns := [], harness := (true, "ae0bd304941fe71a6e276ba965e210d4a501df014e3eb5b06dbc334293f7f47d"), looks := false }, kinds := [], alts := [], laidByText := true, laidKinds := [.data, .data, .data], laidTests := true, laidLooks := .later }
def Utf8TellsUptoCardSaid : Prop := Claim7.holds Tryd.pinned (.plain (OpenSpec.upto utf8TellsSpec)) utf8TellsUptoCard

/-- THE SECOND FORM's CARD OF 'cardinglaw02.Utf8Scalars'. -/
def utf8ScalarsUptoCard : Claim7 := { stood := { row := utf8ScalarsUptoRow, standIns := [], harness := (true, "ae0bd304941fe71a6e276ba965e210d4a501df014e3eb5b06dbc334293f7f47d"), looks := false }, kinds := [], alts := [], laidByText := true, laidKinds := [.data, .data, .data], laidTests := true, laidLooks := .later }
def Utf8ScalarsUptoCardSaid : Prop := Claim7.holds Tryd.pinned (.plain (OpenSpec.upto utf8ScalarsSpec)) utf8ScalarsUptoCard

/-- THE SECOND FORM's CARD OF 'cardinglaw02.Utf8Loose'. -/
def utf8LooseUptoCard : Claim7 := { stood := { row := utf8LooseUptoRow, standIns := [], harness := (true, "ae0bd304941fe71a6e276ba965e210d4a501df014e3eb5b06dbc334293f7f47d"), looks := false }, kinds := [], alts := [], laidByText := true, laidKinds := [.data, .data, .data], laidTests := true, laidLooks := .later }
def Utf8LooseUptoCardSaid : Prop := Claim7.holds Tryd.pinned (.plain (OpenSpec.upto utf8LooseSpec)) utf8LooseUptoCard

/-- THE SECOND FORM's CARD OF 'cardinglaw02.Utf8Back'. -/
def utf8BackUptoCard : Claim7 := { stood := { row := utf8BackUptoRow, standIns := [], harness := (true, "ae0bd304941fe71a6e276ba965e210d4a501df014e3eb5b06dbc334293f7f47d"), looks := false }, kinds := [], alts := [], laidByText := true, laidKinds := [.data, .data, .data], laidTests := true, laidLooks := .later }
def Utf8BackUptoCardSaid : Prop := Claim7.holds Tryd.pinned (.plain (OpenSpec.upto utf8BackSpec)) utf8BackUptoCard

/-- THE SECOND FORM's CARD OF 'cardinglaw02.Utf8Parts'. -/
def utf8PartsUptoCard : Claim7 := { stood := { row := utf8PartsUptoRow, standIns := [], harness := (true, "ae0bd304941fe71a6e276ba965e210d4a501df014e3eb5b06dbc334293f7f47d"), looks := false }, kinds := [], alts := [], laidByText := true, laidKinds := [.data, .data, .data], laidTests := true, laidLooks := .later }
def Utf8PartsUptoCardSaid : Prop := Claim7.holds Tryd.pinned (.plain (OpenSpec.upto utf8PartsSpec)) utf8PartsUptoCard

/-- THE SECOND FORM's CARD OF 'cardinglaw02.Utf8Sorts'. -/
def utf8SortsUptoCard : Claim7 := { stood := { row := utf8SortsUptoRow, standIns := [], harness := (true, "ae0bd304941fe71a6e276ba965e210d4a501df014e3eb5b06dbc334293f7f47d"), looks := false }, kinds := [], alts := [], laidByText := true, laidKinds := [.data, .data, .data], laidTests := true, laidLooks := .later }
def Utf8SortsUptoCardSaid : Prop := Claim7.holds Tryd.pinned (.plain (OpenSpec.upto utf8SortsSpec)) utf8SortsUptoCard
end Rows
end Go.Proofs.YtdojejkbcogjfaaDoor
