/-
  DERIVED. GIVEN WITH THE SEED: THE CARDS: each row of YtafhjlfnhgkcoaaDoorRows.lean that lists a variable, with what it lists TIED to the program's text (the seventh form; the later family's looks); each row that meets fmt, with fmt's text TOLD by the authors' own Lean function (tested against real Go, not proved from fmt's source: count such statements apart). THE CARD IS WHAT COUNTS. Prove the row's statement (the work); the ties are given (YtafhjlfnhgkcoaaDoorTie.lean); close each card by the builder's one call (the guide's Derived/Test/ToyasCard.lean, 'card_holds'). Laid BY PROGRAM, IN A SANDBOX (cutbox-door.mjs). By AI agents, Wed Nov 11 2026. No macro, syntax, notation, axiom, sorry.
-/
import Derived.Test.YtafhjlfnhgkcoaaDoorRows
import GoSem.ClaimSeven
namespace Go.Proofs.YtafhjlfnhgkcoaaDoor
namespace Rows

/-- THE TIED CARD OF 'archipelagolaw13.FoldsOf'. -/
def foldsOfCard : Claim7 := { stood := { row := foldsOfRow, standIns := [], harness := (true, "35a95268fe0c9f19d675131f7746082abbc85ce148de7a292cc7efc5f9f388b6"), looks := false }, kinds := [], alts := [], laidByText := true, laidKinds := [.data], laidTests := true, laidLooks := .later }
def FoldsOfCardSaid : Prop := Claim7.holds Tryd.pinned (.plain (OpenSpec.ofChange foldsOfSpec)) foldsOfCard

/-- THE TIED CARD OF 'archipelagolaw13.FoldsFind'. -/
def foldsFindCard : Claim7 := { stood := { row := foldsFindRow, standIns := [], harness := (true, "35a95268fe0c9f19d675131f7746082abbc85ce148de7a292cc7efc5f9f388b6"), looks := false }, kinds := [], alts := [], laidByText := true, laidKinds := [.data], laidTests := true, laidLooks := .later }
def FoldsFindCardSaid : Prop := Claim7.holds Tryd.pinned (.plain (OpenSpec.ofChange foldsFindSpec)) foldsFindCard

/-- THE TIED CARD OF 'archipelagolaw13.FoldsPrefix'. -/
def foldsPrefixCard : Claim7 := { stood := { row := foldsPrefixRow, standIns := [], harness := (true, "35a95268fe0c9f19d675131f7746082abbc85ce148de7a292cc7efc5f9f388b6"), looks := false }, kinds := [], alts := [], laidByText := true, laidKinds := [.data], laidTests := true, laidLooks := .later }
def FoldsPrefixCardSaid : Prop := Claim7.holds Tryd.pinned (.plain (OpenSpec.ofChange foldsPrefixSpec)) foldsPrefixCard

/-- THE TIED CARD OF 'archipelagolaw13.FoldsState'. -/
def foldsStateCard : Claim7 := { stood := { row := foldsStateRow, standIns := [], harness := (true, "35a95268fe0c9f19d675131f7746082abbc85ce148de7a292cc7efc5f9f388b6"), looks := false }, kinds := [], alts := [], laidByText := true, laidKinds := [.data], laidTests := true, laidLooks := .later }
def FoldsStateCardSaid : Prop := Claim7.holds Tryd.pinned (.plain (OpenSpec.ofChange foldsStateSpec)) foldsStateCard

/-- THE TIED CARD OF 'archipelagolaw13.FoldsOnce'. -/
def foldsOnceCard : Claim7 := { stood := { row := foldsOnceRow, standIns := [], harness := (true, "35a95268fe0c9f19d675131f7746082abbc85ce148de7a292cc7efc5f9f388b6"), looks := false }, kinds := [], alts := [], laidByText := true, laidKinds := [.data], laidTests := true, laidLooks := .later }
def FoldsOnceCardSaid : Prop := Claim7.holds Tryd.pinned (.plain (OpenSpec.ofChange foldsOnceSpec)) foldsOnceCard

/-- THE TIED CARD OF 'archipelagolaw13.FoldsEpochs'. -/
def foldsEpochsCard : Claim7 := { stood := { row := foldsEpochsRow, standIns := [], harness := (true, "35a95268fe0c9f19d675131f7746082abbc85ce148de7a292cc7efc5f9f388b6"), looks := false }, kinds := [], alts := [], laidByText := true, laidKinds := [.data], laidTests := true, laidLooks := .later }
def FoldsEpochsCardSaid : Prop := Claim7.holds Tryd.pinned (.plain (OpenSpec.ofChange foldsEpochsSpec)) foldsEpochsCard

/-- THE TIED CARD OF 'archipelagolaw13.FoldsNext'. -/
def foldsNextCard : Claim7 := { stood := { row := foldsNextRow, standIns := [], harness := (true, "35a95268fe0c9f19d675131f7746082abbc85ce148de7a292cc7efc5f9f388b6"), looks := false }, kinds := [], alts := [], laidByText := true, laidKinds := [.data], laidTests := true, laidLooks := .later }
def FoldsNextCardSaid : Prop := Claim7.holds Tryd.pinned (.plain (OpenSpec.ofChange foldsNextSpec)) foldsNextCard

/-- THE SECOND FORM's CARD OF 'archipelagolaw13.FoldsOf'. -/
def foldsOfUptoCard : Claim7 := { stood := { row := foldsOfUptoRow, standIns := [], harness := (true, "35a95268fe0c9f19d675131f7746082abbc85ce148de7a292cc7efc5f9f388b6"), looks := false }, kinds := [], alts := [], laidByText := true, laidKinds := [.data], laidTests := true, laidLooks := .later }
def FoldsOfUptoCardSaid : Prop := Claim7.holds Tryd.pinned (.plain (OpenSpec.upto foldsOfSpec)) foldsOfUptoCard

/-- THE SECOND FORM's CARD OF 'archipelagolaw13.FoldsFind'. -/
def foldsFindUptoCard : Claim7 := { stood := { row := foldsFindUptoRow, standIns := [], harness := (true, "35a95268fe0c9f19d675131f7746082abbc85ce148de7a292cc7efc5f9f388b6"), looks := false }, kinds := [], alts := [], laidByText := true, laidKinds := [.data], laidTests := true, laidLooks := .later }
def FoldsFindUptoCardSaid : Prop := Claim7.holds Tryd.pinned (.plain (OpenSpec.upto foldsFindSpec)) foldsFindUptoCard

/-- THE SECOND FORM's CARD OF 'archipelagolaw13.FoldsPrefix'. -/
def foldsPrefixUptoCard : Claim7 := { stood := { row := foldsPrefixUptoRow, standIns := [], harness := (true, "35a95268fe0c9f19d675131f7746082abbc85ce148de7a292cc7efc5f9f388b6"), looks := false }, kinds := [], alts := [], laidByText := true, laidKinds := [.data], laidTests := true, laidLooks := .later }
def FoldsPrefixUptoCardSaid : Prop := Claim7.holds Tryd.pinned (.plain (OpenSpec.upto foldsPrefixSpec)) foldsPrefixUptoCard

/-- THE SECOND FORM's CARD OF 'archipelagolaw13.FoldsState'. -/
def foldsStateUptoCard : Claim7 := { stood := { row := foldsStateUptoRow, standIns := [], harness := (true, "35a95268fe0c9f19d675131f7746082abbc85ce148de7a292cc7efc5f9f388b6"), looks := false }, kinds := [], alts := [], laidByText := true, laidKinds := [.data], laidTests := true, laidLooks := .later }
def FoldsStateUptoCardSaid : Prop := Claim7.holds Tryd.pinned (.plain (OpenSpec.upto foldsStateSpec)) foldsStateUptoCard

/-- THE SECOND FORM's CARD OF 'archipelagolaw13.FoldsOnce'. -/
def foldsOnceUptoCard : Claim7 := { stood := { row := foldsOnceUptoRow, standIns := [], harness := (true, "35a95268fe0c9f19d675131f7746082abbc85ce148de7a292cc7efc5f9f388b6"), looks := false }, kinds := [], alts := [], laidByText := true, laidKinds := [.data], laidTests := true, laidLooks := .later }
def FoldsOnceUptoCardSaid : Prop := Claim7.holds Tryd.pinned (.plain (OpenSpec.upto foldsOnceSpec)) foldsOnceUptoCard

/-- THE SECOND FORM's CARD OF 'archipelagolaw13.FoldsEpochs'. -/
def foldsEpochsUptoCard : Claim7 := { stood := { row := foldsEpochsUptoRow, standIns := [], harness := (true, "35a95268fe0c9f19d675131f7746082abbc85ce148de7a292cc7efc5f9f388b6"), looks := false }, kinds := [], alts := [], laidByText := true, laidKinds := [.data], laidTests := true, laidLooks := .later }
def FoldsEpochsUptoCardSaid : Prop := Claim7.holds Tryd.pinned (.plain (OpenSpec.upto foldsEpochsSpec)) foldsEpochsUptoCard

/-- THE SECOND FORM's CARD OF 'archipelagolaw13.FoldsNext'. -/
def foldsNextUptoCard : Claim7 := { stood := { row := foldsNextUptoRow, standIns := [], harness := (true, "35a95268fe0c9f19d675131f7746082abbc85ce148de7a292cc7efc5f9f388b6"), looks := false }, kinds := [], alts := [], laidByText := true, laidKinds := [.data], laidTests := true, laidLooks := .later }
def FoldsNextUptoCardSaid : Prop := Claim7.holds Tryd.pinned (.plain (OpenSpec.upto foldsNextSpec)) foldsNextUptoCard
end Rows
end Go.Proofs.YtafhjlfnhgkcoaaDoor
