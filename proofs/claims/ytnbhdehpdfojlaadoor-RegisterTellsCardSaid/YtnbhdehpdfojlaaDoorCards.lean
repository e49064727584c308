/-
  DERIVED. GIVEN WITH THE SEED: THE CARDS: each row of YtnbhdehpdfojlaaDoorRows.lean that lists a variable, with what it lists TIED to the program's text (the seventh form; the later family's looks); each row that meets fmt, with fmt's text TOLD by the authors' own Lean function (tested against real Go, not proved from fmt's source: count such statements apart). THE CARD IS WHAT COUNTS. Prove the row's statement (the work); the ties are given (YtnbhdehpdfojlaaDoorTie.lean); close each card by the builder's one call (the guide's Derived/Test/ToyasCard.lean, 'card_holds'). Laid BY PROGRAM, IN A SANDBOX (cutbox-door.mjs). By AI agents, Wed Nov 11 2026. No macro, syntax, notation, axiom, sorry.
-/
import Derived.Test.YtnbhdehpdfojlaaDoorRows
import GoSem.ClaimSeven
namespace Go.Proofs.YtnbhdehpdfojlaaDoor
namespace Rows

/-- THE TIED CARD OF 'archipelagolaw15.RegisterTells'. -/
def registerTellsCard : Claim7 := { stood := { row := registerTellsRow, standIns := [], harness := (true, "7e40e907ee13344c6a8040a1b125f1bd7156eb60b9029bf43c105ceba4f34dc5"), looks := false }, kinds := [], alts := [], laidByText := true, laidKinds := [.data], laidTests := true, laidLooks := .later }
def RegisterTellsCardSaid : Prop := Claim7.holds Tryd.pinned (.plain (OpenSpec.ofChange registerTellsSpec)) registerTellsCard

/-- THE TIED CARD OF 'archipelagolaw15.RegisterPlays'. -/
def registerPlaysCard : Claim7 := { stood := { row := registerPlaysRow, standIns := [], harness := (true, "7e40e907ee13344c6a8040a1b125f1bd7156eb60b9029bf43c105ceba4f34dc5"), looks := false }, kinds := [], alts := [], laidByText := true, laidKinds := [.data], laidTests := true, laidLooks := .later }
def RegisterPlaysCardSaid : Prop := Claim7.holds Tryd.pinned (.plain (OpenSpec.ofChange registerPlaysSpec)) registerPlaysCard

/-- THE TIED CARD OF 'archipelagolaw15.RegisterStays'. -/
def registerStaysCard : Claim7 := { stood := { row := registerStaysRow, standIns := [], harness := (true, "7e40e907ee13344c6a8040a1b125f1bd7156eb60b9029bf43c105ceba4f34dc5"), looks := false }, kinds := [], alts := [], laidByText := true, laidKinds := [.data], laidTests := true, laidLooks := .later }
def RegisterStaysCardSaid : Prop := Claim7.holds Tryd.pinned (.plain (OpenSpec.ofChange registerStaysSpec)) registerStaysCard

/-- THE TIED CARD OF 'archipelagolaw15.RegisterBase'. -/
def registerBaseCard : Claim7 := { stood := { row := registerBaseRow, standIns := [], harness := (true, "7e40e907ee13344c6a8040a1b125f1bd7156eb60b9029bf43c105ceba4f34dc5"), looks := false }, kinds := [], alts := [], laidByText := true, laidKinds := [.data], laidTests := true, laidLooks := .later }
def RegisterBaseCardSaid : Prop := Claim7.holds Tryd.pinned (.plain (OpenSpec.ofChange registerBaseSpec)) registerBaseCard

/-- THE TIED CARD OF 'archipelagolaw15.RegisterTwice'. -/
def registerTwiceCard : Claim7 := { stood := { row := registerTwiceRow, standIns := [], harness := (true, "7e40e907ee13344c6a8040a1b125f1bd7156eb60b9029bf43c105ceba4f34dc5"), looks := false }, kinds := [], alts := [], laidByText := true, laidKinds := [.data], laidTests := true, laidLooks := .later }
def RegisterTwiceCardSaid : Prop := Claim7.holds Tryd.pinned (.plain (OpenSpec.ofChange registerTwiceSpec)) registerTwiceCard

/-- THE TIED CARD OF 'archipelagolaw15.RegisterPieces'. -/
def registerPiecesCard : Claim7 := { stood := { row := registerPiecesRow, standIns := [], harness := (true, "7e40e907ee13344c6a8040a1b125f1bd7156eb60b9029bf43c105ceba4f34dc5"), looks := false }, kinds := [], alts := [], laidByText := true, laidKinds := [.data], laidTests := true, laidLooks := .later }
def RegisterPiecesCardSaid : Prop := Claim7.holds Tryd.pinned (.plain (OpenSpec.ofChange registerPiecesSpec)) registerPiecesCard

/-- THE SECOND FORM's CARD OF 'archipelagolaw15.RegisterTells'. -/
def registerTellsUptoCard : Claim7 := { stood := { row := registerTellsUptoRow, standIns := [], harness := (true, "7e40e907ee13344c6a8040a1b125f1bd7156eb60b9029bf43c105ceba4f34dc5"), looks := false }, kinds := [], alts := [], laidByText := true, laidKinds := [.data], laidTests := true, laidLooks := .later }
def RegisterTellsUptoCardSaid : Prop := Claim7.holds Tryd.pinned (.plain (OpenSpec.upto registerTellsSpec)) registerTellsUptoCard

/-- THE SECOND FORM's CARD OF 'archipelagolaw15.RegisterPlays'. -/
def registerPlaysUptoCard : Claim7 := { stood := { row := registerPlaysUptoRow, standIns := [], harness := (true, "7e40e907ee13344c6a8040a1b125f1bd7156eb60b9029bf43c105ceba4f34dc5"), looks := false }, kinds := [], alts := [], laidByText := true, laidKinds := [.data], laidTests := true, laidLooks := .later }
def RegisterPlaysUptoCardSaid : Prop := Claim7.holds Tryd.pinned (.plain (OpenSpec.upto registerPlaysSpec)) registerPlaysUptoCard

/-- THE SECOND FORM's CARD OF 'archipelagolaw15.RegisterStays'. -/
def registerStaysUptoCard : Claim7 := { stood := { row := registerStaysUptoRow, standIns := [], harness := (true, "7e40e907ee13344c6a8040a1b125f1bd7156eb60b9029bf43c105ceba4f34dc5"), looks := false }, kinds := [], alts := [], laidByText := true, laidKinds := [.data], laidTests := true, laidLooks := .later }
def RegisterStaysUptoCardSaid : Prop := Claim7.holds Tryd.pinned (.plain (OpenSpec.upto registerStaysSpec)) registerStaysUptoCard

/-- THE SECOND FORM's CARD OF 'archipelagolaw15.RegisterBase'. -/
def registerBaseUptoCard : Claim7 := { stood := { row := registerBaseUptoRow, standIns := [], harness := (true, "7e40e907ee13344c6a8040a1b125f1bd7156eb60b9029bf43c105ceba4f34dc5"), looks := false }, kinds := [], alts := [], laidByText := true, laidKinds := [.data], laidTests := true, laidLooks := .later }
def RegisterBaseUptoCardSaid : Prop := Claim7.holds Tryd.pinned (.plain (OpenSpec.upto registerBaseSpec)) registerBaseUptoCard

/-- THE SECOND FORM's CARD OF 'archipelagolaw15.RegisterTwice'. -/
def registerTwiceUptoCard : Claim7 := { stood := { row := registerTwiceUptoRow, standIns := [], harness := (true, "7e40e907ee13344c6a8040a1b125f1bd7156eb60b9029bf43c105ceba4f34dc5"), looks := false }, kinds := [], alts := [], laidByText := true, laidKinds := [.data], laidTests := true, laidLooks := .later }
def RegisterTwiceUptoCardSaid : Prop := Claim7.holds Tryd.pinned (.plain (OpenSpec.upto registerTwiceSpec)) registerTwiceUptoCard

/-- THE SECOND FORM's CARD OF 'archipelagolaw15.RegisterPieces'. -/
def registerPiecesUptoCard : Claim7 := { stood := { row := registerPiecesUptoRow, standIns := [], harness := (true, "7e40e907ee13344c6a8040a1b125f1bd7156eb60b9029bf43c105ceba4f34dc5"), looks := false }, kinds := [], alts := [], laidByText := true, laidKinds := [.data], laidTests := true, laidLooks := .later }
def RegisterPiecesUptoCardSaid : Prop := Claim7.holds Tryd.pinned (.plain (OpenSpec.upto registerPiecesSpec)) registerPiecesUptoCard
end Rows
end Go.Proofs.YtnbhdehpdfojlaaDoor
