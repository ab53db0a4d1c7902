/-
  DERIVED. GIVEN WITH THE SEED: THE CARDS: each row of YtdkfbikpadehdaaDoorRows.lean that lists a variable, with what it lists TIED to the program's text (the seventh form; the later family's looks); each row that meets fmt, with fmt's text TOLD by the authors' own Lean function (tested against real Go, not proved from fmt's source: count such statements apart). THE CARD IS WHAT COUNTS. Prove the row's statement (the work); the ties are given (YtdkfbikpadehdaaDoorTie.lean); close each card by the builder's one call (the guide's Derived/Test/ToyasCard.lean, 'card_holds'). Laid BY PROGRAM, IN A SANDBOX (cutbox-door.mjs). By AI agents, Wed Nov 11 2026. No macro, syntax, notation, axiom, sorry.
-/
import Derived.Test.YtdkfbikpadehdaaDoorRows
import GoSem.ClaimSeven
namespace Go.Proofs.YtdkfbikpadehdaaDoor
namespace Rows

/-- THE TIED CARD OF 'cardinglaw07.DeclareTells'. -/
def declareTellsCard : Claim7 := { stood := { row := declareTellsRow, standIns := [], harness := (true, "04126ae74b03956001e248fa881faeac91c689495e5e1be43a443692ecf406fc"), looks := false }, kinds := [], alts := [], laidByText := true, laidKinds := [.data, .pinned], laidTests := true, laidLooks := .later }
def DeclareTellsCardSaid : Prop := Claim7.holds Tryd.pinned (.plain (OpenSpec.ofChange declareTellsSpec)) declareTellsCard

/-- THE TIED CARD OF 'cardinglaw07.DeclareFirst'. -/
def declareFirstCard : Claim7 := { stood := { row := declareFirstRow, standIns := [], harness := (true, "04126ae74b03956001e248fa881faeac91c689495e5e1be43a443692ecf406fc"), looks := false }, kinds := [], alts := [], laidByText := true, laidKinds := [.data, .pinned], laidTests := true, laidLooks := .later }
def DeclareFirstCardSaid : Prop := Claim7.holds Tryd.pinned (.plain (OpenSpec.ofChange declareFirstSpec)) declareFirstCard

/-- THE TIED CARD OF 'cardinglaw07.DeclareMade'. -/
def declareMadeCard : Claim7 := { stood := { row := declareMadeRow, standIns := [], harness := (true, "04126ae74b03956001e248fa881faeac91c689495e5e1be43a443692ecf406fc"), looks := false }, kinds := [], alts := [], laidByText := true, laidKinds := [.data, .pinned], laidTests := true, laidLooks := .later }
def DeclareMadeCardSaid : Prop := Claim7.holds Tryd.pinned (.plain (OpenSpec.ofChange declareMadeSpec)) declareMadeCard

/-- THE TIED CARD OF 'cardinglaw07.DeclareApart'. -/
def declareApartCard : Claim7 := { stood := { row := declareApartRow, standIns := [], harness := (true, "04126ae74b03956001e248fa881faeac91c689495e5e1be43a443692ecf406fc"), looks := false }, kinds := [], alts := [], laidByText := true, laidKinds := [.data, .pinned], laidTests := true, laidLooks := .later }
def DeclareApartCardSaid : Prop := Claim7.holds Tryd.pinned (.plain (OpenSpec.ofChange declareApartSpec)) declareApartCard

/-- THE SECOND FORM's CARD OF 'cardinglaw07.DeclareTells'. -/
def declareTellsUptoCard : Claim7 := { stood := { row := declareTellsUptoRow, standIns := [], harness := (true, "04126ae74b03956001e248fa881faeac91c689495e5e1be43a443692ecf406fc"), looks := false }, kinds := [], alts := [], laidByText := true, laidKinds := [.data, .pinned], laidTests := true, laidLooks := .later }
def DeclareTellsUptoCardSaid : Prop := Claim7.holds Tryd.pinned (.plain (OpenSpec.upto declareTellsSpec)) declareTellsUptoCard

/-- THE SECOND FORM's CARD OF 'cardinglaw07.DeclareFirst'. -/
def declareFirstUptoCard : Claim7 := { stood := { row := declareFirstUptoRow, standIns := [], harness := (true, "04126ae74b03956001e248fa881faeac91c689495e5e1be43a443692ecf406fc"), looks := false }, kinds := [], alts := [], laidByText := true, laidKinds := [.data, .pinned], laidTests := true, laidLooks := .later }
def DeclareFirstUptoCardSaid : Prop := Claim7.holds Tryd.pinned (.plain (OpenSpec.upto declareFirstSpec)) declareFirstUptoCard

/-- THE SECOND FORM's CARD OF 'cardinglaw07.DeclareMade'. -/
def declareMadeUptoCard : Claim7 := { stood := { row := declareMadeUptoRow, standIns := [], harness := (true, "04126ae74b03956001e248fa881faeac91c689495e5e1be43a443692ecf406fc"), looks := false }, kinds := [], alts := [], laidByText := true, laidKinds := [.data, .pinned], laidTests := true, laidLooks := .later }
def DeclareMadeUptoCardSaid : Prop := Claim7.holds Tryd.pinned (.plain (OpenSpec.upto declareMadeSpec)) declareMadeUptoCard

/-- THE SECOND FORM's CARD OF 'cardinglaw07.DeclareApart'. -/
def declareApartUptoCard : Claim7 := { stood := { row := declareApartUptoRow, standIns := [], harness := (true, "04126ae74b03956001e248fa881faeac91c689495e5e1be43a443692ecf406fc"), looks := false }, kinds := [], alts := [], laidByText := true, laidKinds := [.data, .pinned], laidTests := true, laidLooks := .later }
def DeclareApartUptoCardSaid : Prop := Claim7.holds Tryd.pinned (.plain (OpenSpec.upto declareApartSpec)) declareApartUptoCard
end Rows
end Go.Proofs.YtdkfbikpadehdaaDoor
