/-
  DERIVED. GIVEN WITH THE SEED: THE CARDS: each row of YtpboleiifmepeaaDoorRows.lean that lists a variable, with what it lists TIED to the program's text (the seventh form; the later family's looks); each row that meets fmt, with fmt's text TOLD by the authors' own Lean function (tested against real Go, not proved from fmt's source: count such statements apart). THE CARD IS WHAT COUNTS. Prove the row's statement (the work); the ties are given (YtpboleiifmepeaaDoorTie.lean); close each card by the builder's one call (the guide's Derived/Test/ToyasCard.lean, 'card_holds'). Laid BY PROGRAM, IN A SANDBOX (cutbox-door.mjs). By AI agents, Wed Nov 11 2026. No macro, syntax, notation, axiom, sorry.
-/
import Derived.Test.YtpboleiifmepeaaDoorRows
import GoSem.ClaimSeven
namespace Go.Proofs.YtpboleiifmepeaaDoor
namespace Rows

/-- THE TIED CARD OF 'archipelagolaw12.DeedsDecide'. -/
def deedsDecideCard : Claim7 := { stood := { row := deedsDecideRow, standIns := [], harness := (true, "57e92413ffca6302b01c6ebe5c874e99979c936e5a42bd3ba4e2e09f73176de8"), looks := false }, kinds := [], alts := [], laidByText := true, laidKinds := [.data], laidTests := true, laidLooks := .later }
def DeedsDecideCardSaid : Prop := Claim7.holds Tryd.pinned (.plain (OpenSpec.ofChange deedsDecideSpec)) deedsDecideCard

/-- THE TIED CARD OF 'archipelagolaw12.DeedsApply'. -/
def deedsApplyCard : Claim7 := { stood := { row := deedsApplyRow, standIns := [], harness := (true, "57e92413ffca6302b01c6ebe5c874e99979c936e5a42bd3ba4e2e09f73176de8"), looks := false }, kinds := [], alts := [], laidByText := true, laidKinds := [.data], laidTests := true, laidLooks := .later }
def DeedsApplyCardSaid : Prop := Claim7.holds Tryd.pinned (.plain (OpenSpec.ofChange deedsApplySpec)) deedsApplyCard

/-- THE TIED CARD OF 'archipelagolaw12.DeedsLead'. -/
def deedsLeadCard : Claim7 := { stood := { row := deedsLeadRow, standIns := [], harness := (true, "57e92413ffca6302b01c6ebe5c874e99979c936e5a42bd3ba4e2e09f73176de8"), looks := false }, kinds := [], alts := [], laidByText := true, laidKinds := [.data], laidTests := true, laidLooks := .later }
def DeedsLeadCardSaid : Prop := Claim7.holds Tryd.pinned (.plain (OpenSpec.ofChange deedsLeadSpec)) deedsLeadCard

/-- THE TIED CARD OF 'archipelagolaw12.DeedsStay'. -/
def deedsStayCard : Claim7 := { stood := { row := deedsStayRow, standIns := [], harness := (true, "57e92413ffca6302b01c6ebe5c874e99979c936e5a42bd3ba4e2e09f73176de8"), looks := false }, kinds := [], alts := [], laidByText := true, laidKinds := [.data], laidTests := true, laidLooks := .later }
def DeedsStayCardSaid : Prop := Claim7.holds Tryd.pinned (.plain (OpenSpec.ofChange deedsStaySpec)) deedsStayCard

/-- THE TIED CARD OF 'archipelagolaw12.DeedsExpect'. -/
def deedsExpectCard : Claim7 := { stood := { row := deedsExpectRow, standIns := [], harness := (true, "57e92413ffca6302b01c6ebe5c874e99979c936e5a42bd3ba4e2e09f73176de8"), looks := false }, kinds := [], alts := [], laidByText := true, laidKinds := [.data], laidTests := true, laidLooks := .later }
def DeedsExpectCardSaid : Prop := Claim7.holds Tryd.pinned (.plain (OpenSpec.ofChange deedsExpectSpec)) deedsExpectCard

/-- THE TIED CARD OF 'archipelagolaw12.DeedsEither'. -/
def deedsEitherCard : Claim7 := { stood := { row := deedsEitherRow, standIns := [], harness := (true, "57e92413ffca6302b01c6ebe5c874e99979c936e5a42bd3ba4e2e09f73176de8"), looks := false }, kinds := [], alts := [], laidByText := true, laidKinds := [.data], laidTests := true, laidLooks := .later }
def DeedsEitherCardSaid : Prop := Claim7.holds Tryd.pinned (.plain (OpenSpec.ofChange deedsEitherSpec)) deedsEitherCard

/-- THE SECOND FORM's CARD OF 'archipelagolaw12.DeedsDecide'. -/
def deedsDecideUptoCard : Claim7 := { stood := { row := deedsDecideUptoRow, standIns := [], harness := (true, "57e92413ffca6302b01c6ebe5c874e99979c936e5a42bd3ba4e2e09f73176de8"), looks := false }, kinds := [], alts := [], laidByText := true, laidKinds := [.data], laidTests := true, laidLooks := .later }
def DeedsDecideUptoCardSaid : Prop := Claim7.holds Tryd.pinned (.plain (OpenSpec.upto deedsDecideSpec)) deedsDecideUptoCard

/-- THE SECOND FORM's CARD OF 'archipelagolaw12.DeedsApply'. -/
def deedsApplyUptoCard : Claim7 := { stood := { row := deedsApplyUptoRow, standIns := [], harness := (true, "57e92413ffca6302b01c6ebe5c874e99979c936e5a42bd3ba4e2e09f73176de8"), looks := false }, kinds := [], alts := [], laidByText := true, laidKinds := [.data], laidTests := true, laidLooks := .later }
def DeedsApplyUptoCardSaid : Prop := Claim7.holds Tryd.pinned (.plain (OpenSpec.upto deedsApplySpec)) deedsApplyUptoCard

/-- THE SECOND FORM's CARD OF 'archipelagolaw12.DeedsLead'. -/
def deedsLeadUptoCard : Claim7 := { stood := { row := deedsLeadUptoRow, standIns := [], harness := (true, "57e92413ffca6302b01c6ebe5c874e99979c936e5a42bd3ba4e2e09f73176de8"), looks := false }, kinds := [], alts := [], laidByText := true, laidKinds := [.data], laidTests := true, laidLooks := .later }
def DeedsLeadUptoCardSaid : Prop := Claim7.holds Tryd.pinned (.plain (OpenSpec.upto deedsLeadSpec)) deedsLeadUptoCard

/-- THE SECOND FORM's CARD OF 'archipelagolaw12.DeedsStay'. -/
def deedsStayUptoCard : Claim7 := { stood := { row := deedsStayUptoRow, standIns := [], harness := (true, "57e92413ffca6302b01c6ebe5c874e99979c936e5a42bd3ba4e2e09f73176de8"), looks := false }, kinds := [], alts := [], laidByText := true, laidKinds := [.data], laidTests := true, laidLooks := .later }
def DeedsStayUptoCardSaid : Prop := Claim7.holds Tryd.pinned (.plain (OpenSpec.upto deedsStaySpec)) deedsStayUptoCard

/-- THE SECOND FORM's CARD OF 'archipelagolaw12.DeedsExpect'. -/
def deedsExpectUptoCard : Claim7 := { stood := { row := deedsExpectUptoRow, standIns := [], harness := (true, "57e92413ffca6302b01c6ebe5c874e99979c936e5a42bd3ba4e2e09f73176de8"), looks := false }, kinds := [], alts := [], laidByText := true, laidKinds := [.data], laidTests := true, laidLooks := .later }
def DeedsExpectUptoCardSaid : Prop := Claim7.holds Tryd.pinned (.plain (OpenSpec.upto deedsExpectSpec)) deedsExpectUptoCard

/-- THE SECOND FORM's CARD OF 'archipelagolaw12.DeedsEither'. -/
def deedsEitherUptoCard : Claim7 := { stood := { row := deedsEitherUptoRow, standIns := [], harness := (true, "57e92413ffca6302b01c6ebe5c874e99979c936e5a42bd3ba4e2e09f73176de8"), looks := false }, kinds := [], alts := [], laidByText := true, laidKinds := [.data], laidTests := true, laidLooks := .later }
def DeedsEitherUptoCardSaid : Prop := Claim7.holds Tryd.pinned (.plain (OpenSpec.upto deedsEitherSpec)) deedsEitherUptoCard
end Rows
end Go.Proofs.YtpboleiifmepeaaDoor
