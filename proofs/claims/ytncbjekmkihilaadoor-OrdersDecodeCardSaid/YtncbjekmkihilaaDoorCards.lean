/-
  DERIVED. GIVEN WITH THE SEED: THE CARDS: each row of YtncbjekmkihilaaDoorRows.lean that lists a variable, with what it lists TIED to the program's text (the seventh form; the later family's looks); each row that meets fmt, with fmt's text TOLD by the authors' own Lean function (tested against real Go, not proved from fmt's source: count such statements apart). THE CARD IS WHAT COUNTS. Prove the row's statement (the work); the ties are given (YtncbjekmkihilaaDoorTie.lean); close each card by the builder's one call (the guide's Derived/Test/ToyasCard.lean, 'card_holds'). Laid BY PROGRAM, IN A SANDBOX (cutbox-door.mjs). By AI agents, Wed Nov 11 2026. No macro, syntax, notation, axiom, sorry.
-/
import Derived.Test.YtncbjekmkihilaaDoorRows
import GoSem.ClaimSeven
namespace Go.Proofs.YtncbjekmkihilaaDoor
namespace Rows

/-- THE TIED CARD OF 'archipelagolaw09.OrdersEncode'. -/
def ordersEncodeCard : Claim7 := { stood := { row := ordersEncodeRow, standIns := [], harness := (true, "ae9298a81d841972030e6874d2e210d803c93f30076b9eea89aaeee3996ebef3"), looks := false }, kinds := [], alts := [], laidByText := true, laidKinds := [.data], laidTests := true, laidLooks := .later }
def OrdersEncodeCardSaid : Prop := Claim7.holds Tryd.pinned (.plain (OpenSpec.ofChange ordersEncodeSpec)) ordersEncodeCard

/-- THE TIED CARD OF 'archipelagolaw09.OrdersDecode'. -/
def ordersDecodeCard : Claim7 := { stood := { row := ordersDecodeRow, standIns := [], harness := (true, "ae9298a81d841972030e6874d2e210d803c93f30076b9eea89aaeee3996ebef3"), looks := false }, kinds := [], alts := [], laidByText := true, laidKinds := [.data], laidTests := true, laidLooks := .later }
def OrdersDecodeCardSaid : Prop := Claim7.holds Tryd.pinned (.plain (OpenSpec.ofChange ordersDecodeSpec)) ordersDecodeCard

/-- THE TIED CARD OF 'archipelagolaw09.OrdersBack'. -/
def ordersBackCard : Claim7 := { stood := { row := ordersBackRow, standIns := [], harness := (true, "ae9298a81d841972030e6874d2e210d803c93f30076b9eea89aaeee3996ebef3"), looks := false }, kinds := [], alts := [], laidByText := true, laidKinds := [.data], laidTests := true, laidLooks := .later }
def OrdersBackCardSaid : Prop := Claim7.holds Tryd.pinned (.plain (OpenSpec.ofChange ordersBackSpec)) ordersBackCard

/-- THE TIED CARD OF 'archipelagolaw09.OrdersApart'. -/
def ordersApartCard : Claim7 := { stood := { row := ordersApartRow, standIns := [], harness := (true, "ae9298a81d841972030e6874d2e210d803c93f30076b9eea89aaeee3996ebef3"), looks := false }, kinds := [], alts := [], laidByText := true, laidKinds := [.data], laidTests := true, laidLooks := .later }
def OrdersApartCardSaid : Prop := Claim7.holds Tryd.pinned (.plain (OpenSpec.ofChange ordersApartSpec)) ordersApartCard

/-- THE TIED CARD OF 'archipelagolaw09.OrdersParts'. -/
def ordersPartsCard : Claim7 := { stood := { row := ordersPartsRow, standIns := [], harness := (true, "ae9298a81d841972030e6874d2e210d803c93f30076b9eea89aaeee3996ebef3"), looks := false }, kinds := [], alts := [], laidByText := true, laidKinds := [.data], laidTests := true, laidLooks := .later }
def OrdersPartsCardSaid : Prop := Claim7.holds Tryd.pinned (.plain (OpenSpec.ofChange ordersPartsSpec)) ordersPartsCard

/-- THE TIED CARD OF 'archipelagolaw09.OrdersField'. -/
def ordersFieldCard : Claim7 := { stood := { row := ordersFieldRow, standIns := [], harness := (true, "ae9298a81d841972030e6874d2e210d803c93f30076b9eea89aaeee3996ebef3"), looks := false }, kinds := [], alts := [], laidByText := true, laidKinds := [.data], laidTests := true, laidLooks := .later }
def OrdersFieldCardSaid : Prop := Claim7.holds Tryd.pinned (.plain (OpenSpec.ofChange ordersFieldSpec)) ordersFieldCard

/-- THE SECOND FORM's CARD OF 'archipelagolaw09.OrdersEncode'. -/
def ordersEncodeUptoCard : Claim7 := { stood := { row := ordersEncodeUptoRow, standIns := [], harness := (true, "ae9298a81d841972030e6874d2e210d803c93f30076b9eea89aaeee3996ebef3"), looks := false }, kinds := [], alts := [], laidByText := true, laidKinds := [.data], laidTests := true, laidLooks := .later }
def OrdersEncodeUptoCardSaid : Prop := Claim7.holds Tryd.pinned (.plain (OpenSpec.upto ordersEncodeSpec)) ordersEncodeUptoCard

/-- THE SECOND FORM's CARD OF 'archipelagolaw09.OrdersDecode'. -/
def ordersDecodeUptoCard : Claim7 := { stood := { row := ordersDecodeUptoRow, standIns := [], harness := (true, "ae9298a81d841972030e6874d2e210d803c93f30076b9eea89aaeee3996ebef3"), looks := false }, kinds := [], alts := [], laidByText := true, laidKinds := [.data], laidTests := true, laidLooks := .later }
def OrdersDecodeUptoCardSaid : Prop := Claim7.holds Tryd.pinned (.plain (OpenSpec.upto ordersDecodeSpec)) ordersDecodeUptoCard

/-- THE SECOND FORM's CARD OF 'archipelagolaw09.OrdersBack'. -/
def ordersBackUptoCard : Claim7 := { stood := { row := ordersBackUptoRow, standIns := [], harness := (true, "ae9298a81d841972030e6874d2e210d803c93f30076b9eea89aaeee3996ebef3"), looks := false }, kinds := [], alts := [], laidByText := true, laidKinds := [.data], laidTests := true, laidLooks := .later }
def OrdersBackUptoCardSaid : Prop := Claim7.holds Tryd.pinned (.plain (OpenSpec.upto ordersBackSpec)) ordersBackUptoCard

/-- THE SECOND FORM's CARD OF 'archipelagolaw09.OrdersApart'. -/
def ordersApartUptoCard : Claim7 := { stood := { row := ordersApartUptoRow, standIns := [], harness := (true, "ae9298a81d841972030e6874d2e210d803c93f30076b9eea89aaeee3996ebef3"), looks := false }, kinds := [], alts := [], laidByText := true, laidKinds := [.data], laidTests := true, laidLooks := .later }
def OrdersApartUptoCardSaid : Prop := Claim7.holds Tryd.pinned (.plain (OpenSpec.upto ordersApartSpec)) ordersApartUptoCard

/-- THE SECOND FORM's CARD OF 'archipelagolaw09.OrdersParts'. -/
def ordersPartsUptoCard : Claim7 := { stood := { row := ordersPartsUptoRow, standIns := [], harness := (true, "ae9298a81d841972030e6874d2e210d803c93f30076b9eea89aaeee3996ebef3"), looks := false }, kinds := [], alts := [], laidByText := true, laidKinds := [.data], laidTests := true, laidLooks := .later }
def OrdersPartsUptoCardSaid : Prop := Claim7.holds Tryd.pinned (.plain (OpenSpec.upto ordersPartsSpec)) ordersPartsUptoCard

/-- THE SECOND FORM's CARD OF 'archipelagolaw09.OrdersField'. -/
def ordersFieldUptoCard : Claim7 := { stood := { row := ordersFieldUptoRow, standIns := [], harness := (true, "ae9298a81d841972030e6874d2e210d803c93f30076b9eea89aaeee3996ebef3"), looks := false }, kinds := [], alts := [], laidByText := true, laidKinds := [.data], laidTests := true, laidLooks := .later }
def OrdersFieldUptoCardSaid : Prop := Claim7.holds Tryd.pinned (.plain (OpenSpec.upto ordersFieldSpec)) ordersFieldUptoCard
end Rows
end Go.Proofs.YtncbjekmkihilaaDoor
