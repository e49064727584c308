/-
  DERIVED. GIVEN WITH THE SEED: THE CARDS: each row of YtcbeommmacnkgaaDoorRows.lean that lists a variable, with what it lists TIED to the program's text (the seventh form; the later family's looks); each row that meets fmt, with fmt's text TOLD by the authors' own Lean function (tested against real Go, not proved from fmt's source: count such statements apart). THE CARD IS WHAT COUNTS. Prove the row's statement (the work); the ties are given (YtcbeommmacnkgaaDoorTie.lean); close each card by the builder's one call (the guide's Derived/Test/ToyasCard.lean, 'card_holds'). Laid BY PROGRAM, IN A SANDBOX (cutbox-door.mjs). By AI agents, Wed Nov 11 2026. No macro, syntax, notation, axiom, sorry.
-/
import Derived.Test.YtcbeommmacnkgaaDoorRows
import GoSem.ClaimSeven
namespace Go.Proofs.YtcbeommmacnkgaaDoor
namespace Rows

/-- THE TIED CARD OF 'archipelagolaw10.RecordsEncode'. -/
def recordsEncodeCard : Claim7 := { stood := { row := recordsEncodeRow, standIns := [], harness := (true, "4e00cb3071d06ac10741b76fc38bc9b35717e02b321c45b78895cc5cc49b4c03"), looks := false }, kinds := [], alts := [], laidByText := true, laidKinds := [.data, .wider, .wider, .data, .data, .wider, .data], laidTests := true, laidLooks := .later }
def RecordsEncodeCardSaid : Prop := Claim7.holds Tryd.pinned (.plain (OpenSpec.ofChange recordsEncodeSpec)) recordsEncodeCard

/-- THE TIED CARD OF 'archipelagolaw10.RecordsDecode'. -/
def recordsDecodeCard : Claim7 := { stood := { row := recordsDecodeRow, standIns := [], harness := (true, "4e00cb3071d06ac10741b76fc38bc9b35717e02b321c45b78895cc5cc49b4c03"), looks := false }, kinds := [], alts := [], laidByText := true, laidKinds := [.data, .wider, .wider, .data, .data, .wider, .data], laidTests := true, laidLooks := .later }
def RecordsDecodeCardSaid : Prop := Claim7.holds Tryd.pinned (.plain (OpenSpec.ofChange recordsDecodeSpec)) recordsDecodeCard

/-- THE TIED CARD OF 'archipelagolaw10.RecordsBack'. -/
def recordsBackCard : Claim7 := { stood := { row := recordsBackRow, standIns := [], harness := (true, "4e00cb3071d06ac10741b76fc38bc9b35717e02b321c45b78895cc5cc49b4c03"), looks := false }, kinds := [], alts := [], laidByText := true, laidKinds := [.data, .wider, .wider, .data, .data, .wider, .data], laidTests := true, laidLooks := .later }
def RecordsBackCardSaid : Prop := Claim7.holds Tryd.pinned (.plain (OpenSpec.ofChange recordsBackSpec)) recordsBackCard

/-- THE TIED CARD OF 'archipelagolaw10.RecordsFit'. -/
def recordsFitCard : Claim7 := { stood := { row := recordsFitRow, standIns := [], harness := (true, "4e00cb3071d06ac10741b76fc38bc9b35717e02b321c45b78895cc5cc49b4c03"), looks := false }, kinds := [], alts := [], laidByText := true, laidKinds := [.data, .wider, .wider, .data, .data, .wider, .data], laidTests := true, laidLooks := .later }
def RecordsFitCardSaid : Prop := Claim7.holds Tryd.pinned (.plain (OpenSpec.ofChange recordsFitSpec)) recordsFitCard

/-- THE TIED CARD OF 'archipelagolaw10.RecordsBare'. -/
def recordsBareCard : Claim7 := { stood := { row := recordsBareRow, standIns := [], harness := (true, "4e00cb3071d06ac10741b76fc38bc9b35717e02b321c45b78895cc5cc49b4c03"), looks := false }, kinds := [], alts := [], laidByText := true, laidKinds := [.data, .wider, .wider, .data, .data, .wider, .data], laidTests := true, laidLooks := .later }
def RecordsBareCardSaid : Prop := Claim7.holds Tryd.pinned (.plain (OpenSpec.ofChange recordsBareSpec)) recordsBareCard

/-- THE TIED CARD OF 'archipelagolaw10.RecordsLog'. -/
def recordsLogCard : Claim7 := { stood := { row := recordsLogRow, standIns := [], harness := (true, "4e00cb3071d06ac10741b76fc38bc9b35717e02b321c45b78895cc5cc49b4c03"), looks := false }, kinds := [], alts := [], laidByText := true, laidKinds := [.data, .wider, .wider, .data, .data, .wider, .data], laidTests := true, laidLooks := .later }
def RecordsLogCardSaid : Prop := Claim7.holds Tryd.pinned (.plain (OpenSpec.ofChange recordsLogSpec)) recordsLogCard

/-- THE SECOND FORM's CARD OF 'archipelagolaw10.RecordsEncode'. -/
def recordsEncodeUptoCard : Claim7 := { stood := { row := recordsEncodeUptoRow, standIns := [], harness := (true, "4e00cb3071d06ac10741b76fc38bc9b35717e02b321c45b78895cc5cc49b4c03"), looks := false }, kinds := [], alts := [], laidByText := true, laidKinds := [.data, .wider, .wider, .data, .data, .wider, .data], laidTests := true, laidLooks := .later }
def RecordsEncodeUptoCardSaid : Prop := Claim7.holds Tryd.pinned (.plain (OpenSpec.upto recordsEncodeSpec)) recordsEncodeUptoCard

/-- THE SECOND FORM's CARD OF 'archipelagolaw10.RecordsDecode'. -/
def recordsDecodeUptoCard : Claim7 := { stood := { row := recordsDecodeUptoRow, standIns := [], harness := (true, "4e00cb3071d06ac10741b76fc38bc9b35717e02b321c45b78895cc5cc49b4c03"), looks := false }, kinds := [], alts := [], laidByText := true, laidKinds := [.data, .wider, .wider, .data, .data, .wider, .data], laidTests := true, laidLooks := .later }
def RecordsDecodeUptoCardSaid : Prop := Claim7.holds Tryd.pinned (.plain (OpenSpec.upto recordsDecodeSpec)) recordsDecodeUptoCard

/-- THE SECOND FORM's CARD OF 'archipelagolaw10.RecordsBack'. -/
def recordsBackUptoCard : Claim7 := { stood := { row := recordsBackUptoRow, standIns := [], harness := (true, "4e00cb3071d06ac10741b76fc38bc9b35717e02b321c45b78895cc5cc49b4c03"), looks := false }, kinds := [], alts := [], laidByText := true, laidKinds := [.data, .wider, .wider, .data, .data, .wider, .data], laidTests := true, laidLooks := .later }
def RecordsBackUptoCardSaid : Prop := Claim7.holds Tryd.pinned (.plain (OpenSpec.upto recordsBackSpec)) recordsBackUptoCard

/-- THE SECOND FORM's CARD OF 'archipelagolaw10.RecordsFit'. -/
def recordsFitUptoCard : Claim7 := { stood := { row := recordsFitUptoRow, standIns := [], harness := (true, "4e00cb3071d06ac10741b76fc38bc9b35717e02b321c45b78895cc5cc49b4c03"), looks := false }, kinds := [], alts := [], laidByText := true, laidKinds := [.data, .wider, .wider, .data, .data, .wider, .data], laidTests := true, laidLooks := .later }
def RecordsFitUptoCardSaid : Prop := Claim7.holds Tryd.pinned (.plain (OpenSpec.upto recordsFitSpec)) recordsFitUptoCard

/-- THE SECOND FORM's CARD OF 'archipelagolaw10.RecordsBare'. -/
def recordsBareUptoCard : Claim7 := { stood := { row := recordsBareUptoRow, standIns := [], harness := (true, "4e00cb3071d06ac10741b76fc38bc9b35717e02b321c45b78895cc5cc49b4c03"), looks := false }, kinds := [], alts := [], laidByText := true, laidKinds := [.data, .wider, .wider, .data, .data, .wider, .data], laidTests := true, laidLooks := .later }
def RecordsBareUptoCardSaid : Prop := Claim7.holds Tryd.pinned (.plain (OpenSpec.upto recordsBareSpec)) recordsBareUptoCard

/-- THE SECOND FORM's CARD OF 'archipelagolaw10.RecordsLog'. -/
def recordsLogUptoCard : Claim7 := { stood := { row := recordsLogUptoRow, standIns := [], harness := (true, "4e00cb3071d06ac10741b76fc38bc9b35717e02b321c45b78895cc5cc49b4c03"), looks := false }, kinds := [], alts := [], laidByText := true, laidKinds := [.data, .wider, .wider, .data, .data, .wider, .data], laidTests := true, laidLooks := .later }
def RecordsLogUptoCardSaid : Prop := Claim7.holds Tryd.pinned (.plain (OpenSpec.upto recordsLogSpec)) recordsLogUptoCard
end Rows
end Go.Proofs.YtcbeommmacnkgaaDoor
