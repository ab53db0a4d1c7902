/-
  DERIVED. GIVEN WITH THE SEED: THE CARDS: each row of YtnalnpidmmkfgaaDoorRows.lean that lists a variable, with what it lists TIED to the program's text (the seventh form; the later family's looks); each row that meets fmt, with fmt's text TOLD by the authors' own Lean function (tested against real Go, not proved from fmt's source: count such statements apart). THE CARD IS WHAT COUNTS. Prove the row's statement (the work); the ties are given (YtnalnpidmmkfgaaDoorTie.lean); close each card by the builder's one call (the guide's Derived/Test/ToyasCard.lean, 'card_holds'). Laid BY PROGRAM, IN A SANDBOX (cutbox-door.mjs). By AI agents, Wed Nov 11 2026. No macro, syntax, notation, axiom, sorry.
-/
import Derived.Test.YtnalnpidmmkfgaaDoorRows
import GoSem.ClaimSeven
namespace Go.Proofs.YtnalnpidmmkfgaaDoor
namespace Rows

/-- THE TIED CARD OF 'cardinglaw03.Utf16Tells'. -/
def utf16TellsCard : Claim7 := { stood := { row := utf16TellsRow, standIns := [], harness := (true, "6500f6d56adf75932e3fc6dab53e6b0b33f15e7cee7944b8e1ee4de02ad634e1"), looks := false }, kinds := [], alts := [], laidByText := true, laidKinds := [.data, .data, .data], laidTests := true, laidLooks := .later }
def Utf16TellsCardSaid : Prop := Claim7.holds Tryd.pinned (.plain (OpenSpec.ofChange utf16TellsSpec)) utf16TellsCard

/-- THE TIED CARD OF 'cardinglaw03.Utf16Back'. -/
def utf16BackCard : Claim7 := { stood := { row := utf16BackRow, standIns := [], harness := (true, "6500f6d56adf75932e3fc6dab53e6b0b33f15e7cee7944b8e1ee4de02ad634e1"), looks := false }, kinds := [], alts := [], laidByText := true, laidKinds := [.data, .data, .data], laidTests := true, laidLooks := .later }
def Utf16BackCardSaid : Prop := Claim7.holds Tryd.pinned (.plain (OpenSpec.ofChange utf16BackSpec)) utf16BackCard

/-- THE TIED CARD OF 'cardinglaw03.Utf16Turned'. -/
def utf16TurnedCard : Claim7 := { stood := { row := utf16TurnedRow, standIns := [], harness := (true, "6500f6d56adf75932e3fc6dab53e6b0b33f15e7cee7944b8e1ee4de02ad634e1"), looks := false }, kinds := [], alts := [], laidByText := true, laidKinds := [.data, .data, .data], laidTests := true, laidLooks := .later }
def Utf16TurnedCardSaid : Prop := Claim7.holds Tryd.pinned (.plain (OpenSpec.ofChange utf16TurnedSpec)) utf16TurnedCard

/-- THE TIED CARD OF 'cardinglaw03.Utf16Joined'. -/
def utf16JoinedCard : Claim7 := { stood := { row := utf16JoinedRow, standIns := [], harness := (true, "6500f6d56adf75932e3fc6dab53e6b0b33f15e7cee7944b8e1ee4de02ad634e1"), looks := false }, kinds := [], alts := [], laidByText := true, laidKinds := [.data, .data, .data], laidTests := true, laidLooks := .later }
def Utf16JoinedCardSaid : Prop := Claim7.holds Tryd.pinned (.plain (OpenSpec.ofChange utf16JoinedSpec)) utf16JoinedCard

/-- THE TIED CARD OF 'cardinglaw03.Utf16Units'. -/
def utf16UnitsCard : Claim7 := { stood := { row := utf16UnitsRow, standIns := [], harness := (true, "6500f6d56adf75932e3fc6dab53e6b0b33f15e7cee7944b8e1ee4de02ad634e1"), looks := false }, kinds := [], alts := [], laidByText := true, laidKinds := [.data, .data, .data], laidTests := true, laidLooks := .later }
def Utf16UnitsCardSaid : Prop := Claim7.holds Tryd.pinned (.plain (OpenSpec.ofChange utf16UnitsSpec)) utf16UnitsCard

/-- THE SECOND FORM's CARD OF 'cardinglaw03.Utf16Tells'. -/
def utf16TellsUptoCard : Claim7 := { stood := { row := utf16TellsUptoRow, standIns := [], harness := (true, "6500f6d56adf75932e3fc6dab53e6b0b33f15e7cee7944b8e1ee4de02ad634e1"), looks := false }, kinds := [], alts := [], laidByText := true, laidKinds := [.data, .data, .data], laidTests := true, laidLooks := .later }
def Utf16TellsUptoCardSaid : Prop := Claim7.holds Tryd.pinned (.plain (OpenSpec.upto utf16TellsSpec)) utf16TellsUptoCard

/-- THE SECOND FORM's CARD OF 'cardinglaw03.Utf16Back'. -/
def utf16BackUptoCard : Claim7 := { stood := { row := utf16BackUptoRow, standIns := [], harness := (true, "6500f6d56adf75932e3fc6dab53e6b0b33f15e7cee7944b8e1ee4de02ad634e1"), looks := false }, kinds := [], alts := [], laidByText := true, laidKinds := [.data, .data, .data], laidTests := true, laidLooks := .later }
def Utf16BackUptoCardSaid : Prop := Claim7.holds Tryd.pinned (.plain (OpenSpec.upto utf16BackSpec)) utf16BackUptoCard

/-- THE SECOND FORM's CARD OF 'cardinglaw03.Utf16Turned'. -/
def utf16TurnedUptoCard : Claim7 := { stood := { row := utf16TurnedUptoRow, standIns := [], harness := (true, "6500f6d56adf75932e3fc6dab53e6b0b33f15e7cee7944b8e1ee4de02ad634e1"), looks := false }, kinds := [], alts := [], laidByText := true, laidKinds := [.data, .data, .data], laidTests := true, laidLooks := .later }
def Utf16TurnedUptoCardSaid : Prop := Claim7.holds Tryd.pinned (.plain (OpenSpec.upto utf16TurnedSpec)) utf16TurnedUptoCard

/-- THE SECOND FORM's CARD OF 'cardinglaw03.Utf16Joined'. -/
def utf16JoinedUptoCard : Claim7 := { stood := { row := utf16JoinedUptoRow, standIns := [], harness := (true, "6500f6d56adf75932e3fc6dab53e6b0b33f15e7cee7944b8e1ee4de02ad634e1"), looks := false }, kinds := [], alts := [], laidByText := true, laidKinds := [.data, .data, .data], laidTests := true, laidLooks := .later }
def Utf16JoinedUptoCardSaid : Prop := Claim7.holds Tryd.pinned (.plain (OpenSpec.upto utf16JoinedSpec)) utf16JoinedUptoCard

/-- THE SECOND FORM's CARD OF 'cardinglaw03.Utf16Units'. -/
def utf16UnitsUptoCard : Claim7 := { stood := { row := utf16UnitsUptoRow, standIns := [], harness := (true, "6500f6d56adf75932e3fc6dab53e6b0b33f15e7cee7944b8e1ee4de02ad634e1"), looks := false }, kinds := [], alts := [], laidByText := true, laidKinds := [.data, .data, .data], laidTests := true, laidLooks := .later }
def Utf16UnitsUptoCardSaid : Prop := Claim7.holds Tryd.pinned (.plain (OpenSpec.upto utf16UnitsSpec)) utf16UnitsUptoCard
end Rows
end Go.Proofs.YtnalnpidmmkfgaaDoor
