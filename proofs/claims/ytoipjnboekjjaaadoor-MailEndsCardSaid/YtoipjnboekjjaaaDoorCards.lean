/-
  DERIVED. GIVEN WITH THE SEED: THE CARDS: each row of YtoipjnboekjjaaaDoorRows.lean that lists a variable, with what it lists TIED to the program's text (the seventh form; the later family's looks); each row that meets fmt, with fmt's text TOLD by the authors' own Lean function (tested against real Go, not proved from fmt's source: count such statements apart). THE CARD IS WHAT COUNTS. Prove the row's statement (the work); the ties are given (YtoipjnboekjjaaaDoorTie.lean); close each card by the builder's one call (the guide's Derived/Test/ToyasCard.lean, 'card_holds'). Laid BY PROGRAM, IN A SANDBOX (cutbox-door.mjs). By AI agents, Wed Nov 11 2026. No macro, syntax, notation, axiom, sorry.
-/
import Derived.Test.YtoipjnboekjjaaaDoorRows
import GoSem.ClaimSeven
namespace Go.Proofs.YtoipjnboekjjaaaDoor
namespace Rows

/-- THE TIED CARD OF 'archipelagolaw10.RecordsEncode'. -/
def recordsEncodeCard : Claim7 := { stood := { row := recordsEncodeRow, standIns := [], harness := (true, "193625e43aeb8c859a66fe36f3b13276a7c11fad02b2c35a4a6f062902389404"), looks := false }, kinds := [], alts := [], laidByText := true, laidKinds := [.data, .wider, .wider, .data, .data, .wider, .data], laidTests := true, laidLooks := .later }
def RecordsEncodeCardSaid : Prop := Claim7.holds Tryd.pinned (.plain (OpenSpec.ofChange recordsEncodeSpec)) recordsEncodeCard

/-- THE TIED CARD OF 'archipelagolaw10.RecordsDecode'. -/
def recordsDecodeCard : Claim7 := { stood := { row := recordsDecodeRow, standIns := [], harness := (true, "193625e43aeb8c859a66fe36f3b13276a7c11fad02b2c35a4a6f062902389404"), looks := false }, kinds := [], alts := [], laidByText := true, laidKinds := [.data, .wider, .wider, .data, .data, .wider, .data], laidTests := true, laidLooks := .later }
def RecordsDecodeCardSaid : Prop := Claim7.holds Tryd.pinned (.plain (OpenSpec.ofChange recordsDecodeSpec)) recordsDecodeCard

/-- THE TIED CARD OF 'archipelagolaw11.MailEncode'. -/
def mailEncodeCard : Claim7 := { stood := { row := mailEncodeRow, standIns := [], harness := (true, "193625e43aeb8c859a66fe36f3b13276a7c11fad02b2c35a4a6f062902389404"), looks := false }, kinds := [], alts := [], laidByText := true, laidKinds := [.data, .wider, .wider, .data, .data, .wider, .data, .data, .data], laidTests := true, laidLooks := .later }
def MailEncodeCardSaid : Prop := Claim7.holds Tryd.pinned (.plain (OpenSpec.ofChange mailEncodeSpec)) mailEncodeCard

/-- THE TIED CARD OF 'archipelagolaw11.MailDecode'. -/
def mailDecodeCard : Claim7 := { stood := { row := mailDecodeRow, standIns := [], harness := (true, "193625e43aeb8c859a66fe36f3b13276a7c11fad02b2c35a4a6f062902389404"), looks := false }, kinds := [], alts := [], laidByText := true, laidKinds := [.data, .wider, .wider, .data, .data, .wider, .data, .data, .data], laidTests := true, laidLooks := .later }
def MailDecodeCardSaid : Prop := Claim7.holds Tryd.pinned (.plain (OpenSpec.ofChange mailDecodeSpec)) mailDecodeCard

/-- THE TIED CARD OF 'archipelagolaw11.MailBack'. -/
def mailBackCard : Claim7 := { stood := { row := mailBackRow, standIns := [], harness := (true, "193625e43aeb8c859a66fe36f3b13276a7c11fad02b2c35a4a6f062902389404"), looks := false }, kinds := [], alts := [], laidByText := true, laidKinds := [.data, .wider, .wider, .data, .data, .wider, .data, .data, .data], laidTests := true, laidLooks := .later }
def MailBackCardSaid : Prop := Claim7.holds Tryd.pinned (.plain (OpenSpec.ofChange mailBackSpec)) mailBackCard

/-- THE TIED CARD OF 'archipelagolaw11.MailSites'. -/
def mailSitesCard : Claim7 := { stood := { row := mailSitesRow, standIns := [], harness := (true, "193625e43aeb8c859a66fe36f3b13276a7c11fad02b2c35a4a6f062902389404"), looks := false }, kinds := [], alts := [], laidByText := true, laidKinds := [.data, .wider, .wider, .data, .data, .wider, .data, .data, .data], laidTests := true, laidLooks := .later }
def MailSitesCardSaid : Prop := Claim7.holds Tryd.pinned (.plain (OpenSpec.ofChange mailSitesSpec)) mailSitesCard

/-- THE TIED CARD OF 'archipelagolaw11.MailEnds'. -/
def mailEndsCard : Claim7 := { stood := { row := mailEndsRow, standIns := [], harness := (true, "193625e43aeb8c859a66fe36f3b13276a7c11fad02b2c35a4a6f062902389404"), looks := false }, kinds := [], alts := [], laidByText := true, laidKinds := [.data, .wider, .wider, .data, .data, .wider, .data, .data, .data], laidTests := true, laidLooks := .later }
def MailEndsCardSaid : Prop := Claim7.holds Tryd.pinned (.plain (OpenSpec.ofChange mailEndsSpec)) mailEndsCard

/-- THE TIED CARD OF 'archipelagolaw11.MailForward'. -/
def mailForwardCard : Claim7 := { stood := { row := mailForwardRow, standIns := [], harness := (true, "193625e43aeb8c859a66fe36f3b13276a7c11fad02b2c35a4a6f062902389404"), looks := false }, kinds := [], alts := [], laidByText := true, laidKinds := [.data, .wider, .wider, .data, .data, .wider, .data, .data, .data], laidTests := true, laidLooks := .later }
def MailForwardCardSaid : Prop := Claim7.holds Tryd.pinned (.plain (OpenSpec.ofChange mailForwardSpec)) mailForwardCard

/-- THE SECOND FORM's CARD OF 'archipelagolaw10.RecordsEncode'. -/
def recordsEncodeUptoCard : Claim7 := { stood := { row := recordsEncodeUptoRow, standIns := [], harness := (true, "193625e43aeb8c859a66fe36f3b13276a7c11fad02b2c35a4a6f062902389404"), looks := false }, kinds := [], alts := [], laidByText := true, laidKinds := [.data, .wider, .wider, .data, .data, .wider, .data], laidTests := true, laidLooks := .later }
def RecordsEncodeUptoCardSaid : Prop := Claim7.holds Tryd.pinned (.plain (OpenSpec.upto recordsEncodeSpec)) recordsEncodeUptoCard

/-- THE SECOND FORM's CARD OF 'archipelagolaw10.RecordsDecode'. -/
def recordsDecodeUptoCard : Claim7 := { stood := { row := recordsDecodeUptoRow, standIns := [], harness := (true, "193625e43aeb8c859a66fe36f3b13276a7c11fad02b2c35a4a6f062902389404"), looks := false }, kinds := [], alts := [], laidByText := true, laidKinds := [.data, .wider, .wider, .data, .data, .wider, .data], laidTests := true, laidLooks := .later }
def RecordsDecodeUptoCardSaid : Prop := Claim7.holds Tryd.pinned (.plain (OpenSpec.upto recordsDecodeSpec)) recordsDecodeUptoCard

/-- THE SECOND FORM's CARD OF 'archipelagolaw11.MailEncode'. -/
def mailEncodeUptoCard : Claim7 := { stood := { row := mailEncodeUptoRow, standIns := [], harness := (true, "193625e43aeb8c859a66fe36f3b13276a7c11fad02b2c35a4a6f062902389404"), looks := false }, kinds := [], alts := [], laidByText := true, laidKinds := [.data, .wider, .wider, .data, .data, .wider, .data, .data, .data], laidTests := true, laidLooks := .later }
def MailEncodeUptoCardSaid : Prop := Claim7.holds Tryd.pinned (.plain (OpenSpec.upto mailEncodeSpec)) mailEncodeUptoCard

/-- THE SECOND FORM's CARD OF 'archipelagolaw11.MailDecode'. -/
def mailDecodeUptoCard : Claim7 := { stood := { row := mailDecodeUptoRow, standIns := [], harness := (true, "193625e43aeb8c859a66fe36f3b13276a7c11fad02b2c35a4a6f062902389404"), looks := false }, kinds := [], alts := [], laidByText := true, laidKinds := [.data, .wider, .wider, .data, .data, .wider, .data, .data, .data], laidTests := true, laidLooks := .later }
def MailDecodeUptoCardSaid : Prop := Claim7.holds Tryd.pinned (.plain (OpenSpec.upto mailDecodeSpec)) mailDecodeUptoCard

/-- THE SECOND FORM's CARD OF 'archipelagolaw11.MailBack'. -/
def mailBackUptoCard : Claim7 := { stood := { row := mailBackUptoRow, standIns := [], harness := (true, "193625e43aeb8c859a66fe36f3b13276a7c11fad02b2c35a4a6f062902389404"), looks := false }, kinds := [], alts := [], laidByText := true, laidKinds := [.data, .wider, .wider, .data, .data, .wider, .data, .data, .data], laidTests := true, laidLooks := .later }
def MailBackUptoCardSaid : Prop := Claim7.holds Tryd.pinned (.plain (OpenSpec.upto mailBackSpec)) mailBackUptoCard

/-- THE SECOND FORM's CARD OF 'archipelagolaw11.MailSites'. -/
def mailSitesUptoCard : Claim7 := { stood := { row := mailSitesUptoRow, standIns := [], harness := (true, "193625e43aeb8c859a66fe36f3b13276a7c11fad02b2c35a4a6f062902389404"), looks := false }, kinds := [], alts := [], laidByText := true, laidKinds := [.data, .wider, .wider, .data, .data, .wider, .data, .data, .data], laidTests := true, laidLooks := .later }
def MailSitesUptoCardSaid : Prop := Claim7.holds Tryd.pinned (.plain (OpenSpec.upto mailSitesSpec)) mailSitesUptoCard

/-- THE SECOND FORM's CARD OF 'archipelagolaw11.MailEnds'. -/
def mailEndsUptoCard : Claim7 := { stood := { row := mailEndsUptoRow, standIns := [], harness := (true, "193625e43aeb8c859a66fe36f3b13276a7c11fad02b2c35a4a6f062902389404"), looks := false }, kinds := [], alts := [], laidByText := true, laidKinds := [.data, .wider, .wider, .data, .data, .wider, .data, .data, .data], laidTests := true, laidLooks := .later }
def MailEndsUptoCardSaid : Prop := Claim7.holds Tryd.pinned (.plain (OpenSpec.upto mailEndsSpec)) mailEndsUptoCard

/-- THE SECOND FORM's CARD OF 'archipelagolaw11.MailForward'. -/
def mailForwardUptoCard : Claim7 := { stood := { row := mailForwardUptoRow, standIns := [], harness := (true, "193625e43aeb8c859a66fe36f3b13276a7c11fad02b2c35a4a6f062902389404"), looks := false }, kinds := [], alts := [], laidByText := true, laidKinds := [.data, .wider, .wider, .data, .data, .wider, .data, .data, .data], laidTests := true, laidLooks := .later }
def MailForwardUptoCardSaid : Prop := Claim7.holds Tryd.pinned (.plain (OpenSpec.upto mailForwardSpec)) mailForwardUptoCard
end Rows
end Go.Proofs.YtoipjnboekjjaaaDoor
