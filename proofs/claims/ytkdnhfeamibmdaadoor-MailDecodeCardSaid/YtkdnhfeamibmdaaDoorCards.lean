/-
  DERIVED. GIVEN WITH THE SEED: THE CARDS: each row of YtkdnhfeamibmdaaDoorRows.lean that lists a variable, with what it lists TIED to the program's text (the seventh form; the later family's looks); each row that meets fmt, with fmt's text TOLD by the authors' own Lean function (tested against real Go, not proved from fmt's source: count such statements apart). THE CARD IS WHAT COUNTS. Prove the row's statement (the work); the ties are given (YtkdnhfeamibmdaaDoorTie.lean); close each card by the builder's one call (the guide's Derived/Test/ToyasCard.lean, 'card_holds'). Laid BY PROGRAM, IN A SANDBOX (cutbox-door.mjs). By AI agents, Wed Nov 11 2026. No macro, syntax, notation, axiom, sorry.
-/
import Derived.Test.YtkdnhfeamibmdaaDoorRows
import GoSem.ClaimSeven
namespace Go.Proofs.YtkdnhfeamibmdaaDoor
namespace Rows

/-- THE TIED CARD OF 'archipelagolaw10.RecordsEncode'. -/
def recordsEncodeCard : Claim7 := { stood := { row := recordsEncodeRow, standIns := [], harness := (true, "52c877faf1f784e593fa471b4661b130a394698a1deeaac8f9a2032a54b1de84"), looks := false }, kinds := [], alts := [], laidByText := true, laidKinds := [.data, .wider, .wider, .data, .data, .wider, .data], laidTests := true, laidLooks := .later }
def RecordsEncodeCardSaid : Prop := Claim7.holds Tryd.pinned (.plain (OpenSpec.ofChange recordsEncodeSpec)) recordsEncodeCard

/-- THE TIED CARD OF 'archipelagolaw10.RecordsDecode'. -/
def recordsDecodeCard : Claim7 := { stood := { row := recordsDecodeRow, standIns := [], harness := (true, "52c877faf1f784e593fa471b4661b130a394698a1deeaac8f9a2032a54b1de84"), looks := false }, kinds := [], alts := [], laidByText := true, laidKinds := [.data, .wider, .wider, .data, .data, .wider, .data], laidTests := true, laidLooks := .later }
def RecordsDecodeCardSaid : Prop := Claim7.holds Tryd.pinned (.plain (OpenSpec.ofChange recordsDecodeSpec)) recordsDecodeCard

/-- THE TIED CARD OF 'archipelagolaw11.MailEncode'. -/
def mailEncodeCard : Claim7 := { stood := { row := mailEncodeRow, standIns := [], harness := (true, "52c877faf1f784e593fa471b4661b130a394698a1deeaac8f9a2032a54b1de84"), looks := false }, kinds := [], alts := [], laidByText := true, laidKinds := [.data, .wider, .wider, .data, .data, .wider, .data, .data, .data], laidTests := true, laidLooks := .later }
def MailEncodeCardSaid : Prop := Claim7.holds Tryd.pinned (.plain (OpenSpec.ofChange mailEncodeSpec)) mailEncodeCard

/-- THE TIED CARD OF 'archipelagolaw11.MailDecode'. -/
def mailDecodeCard : Claim7 := { stood := { row := mailDecodeRow, standIns := [], harness := (true, "52c877faf1f784e593fa471b4661b130a394698a1deeaac8f9a2032a54b1de84"), looks := false }, kinds := [], alts := [], laidByText := true, laidKinds := [.data, .wider, .wider, .data, .data, .wider, .data, .data, .data], laidTests := true, laidLooks := .later }
def MailDecodeCardSaid : Prop := Claim7.holds Tryd.pinned (.plain (OpenSpec.ofChange mailDecodeSpec)) mailDecodeCard

/-- THE SECOND FORM's CARD OF 'archipelagolaw10.RecordsEncode'. -/
def recordsEncodeUptoCard : Claim7 := { stood := { row := recordsEncodeUptoRow, standIns := [], harness := (true, "52c877faf1f784e593fa471b4661b130a394698a1deeaac8f9a2032a54b1de84"), looks := false }, kinds := [], alts := [], laidByText := true, laidKinds := [.data, .wider, .wider, .data, .data, .wider, .data], laidTests := true, laidLooks := .later }
def RecordsEncodeUptoCardSaid : Prop := Claim7.holds Tryd.pinned (.plain (OpenSpec.upto recordsEncodeSpec)) recordsEncodeUptoCard

/-- THE SECOND FORM's CARD OF 'archipelagolaw10.RecordsDecode'. -/
def recordsDecodeUptoCard : Claim7 := { stood := { row := recordsDecodeUptoRow, standIns := [], harness := (true, "52c877faf1f784e593fa471b4661b130a394698a1deeaac8f9a2032a54b1de84"), looks := false }, kinds := [], alts := [], laidByText := true, laidKinds := [.data, .wider, .wider, .data, .data, .wider, .data], laidTests := true, laidLooks := .later }
def RecordsDecodeUptoCardSaid : Prop := Claim7.holds Tryd.pinned (.plain (OpenSpec.upto recordsDecodeSpec)) recordsDecodeUptoCard

/-- THE SECOND FORM's CARD OF 'archipelagolaw11.MailEncode'. -/
def mailEncodeUptoCard : Claim7 := { stood := { row := mailEncodeUptoRow, standIns := [], harness := (true, "52c877faf1f784e593fa471b4661b130a394698a1deeaac8f9a2032a54b1de84"), looks := false }, kinds := [], alts := [], laidByText := true, laidKinds := [.data, .wider, .wider, .data, .data, .wider, .data, .data, .data], laidTests := true, laidLooks := .later }
def MailEncodeUptoCardSaid : Prop := Claim7.holds Tryd.pinned (.plain (OpenSpec.upto mailEncodeSpec)) mailEncodeUptoCard

/-- THE SECOND FORM's CARD OF 'archipelagolaw11.MailDecode'. -/
def mailDecodeUptoCard : Claim7 := { stood := { row := mailDecodeUptoRow, standIns := [], harness := (true, "52c877faf1f784e593fa471b4661b130a394698a1deeaac8f9a2032a54b1de84"), looks := false }, kinds := [], alts := [], laidByText := true, laidKinds := [.data, .wider, .wider, .data, .data, .wider, .data, .data, .data], laidTests := true, laidLooks := .later }
def MailDecodeUptoCardSaid : Prop := Claim7.holds Tryd.pinned (.plain (OpenSpec.upto mailDecodeSpec)) mailDecodeUptoCard
end Rows
end Go.Proofs.YtkdnhfeamibmdaaDoor
