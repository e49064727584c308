/-
  NARROWER THAN 'FOR EVERY INPUT', by the rows' own cells (each row's printed sentence says how): RegisterTells: laid · RegisterPlays: laid · RegisterStays: laid · RegisterBase: laid · RegisterTwice: laid · RegisterPieces: laid.
  DERIVED. THE GIVEN ROWS OF THIS SEAT. 6 by the template 'for every input the law returns true; each argument reads behind the call as it read before'; 0 by the template 'total and deterministic' (their statements: YtnbhdehpdfojlaaDoorTotals.lean).
  GIVEN WITH THE SEED: the statements are not yours to turn. If you find one false, say at which input.
  Laid BY PROGRAM, IN A SANDBOX (cutbox-rows.mjs): the forced cells as the released guide's own fill.sh prints them over the translation f92b4b407241e8a5… (all of the seat's roots in one cut). By AI agents, Wed Nov 11 2026. No macro, syntax, notation, axiom, sorry.
-/
import Derived.Test.YtnbhdehpdfojlaaDoorChecked
import GoSem.Claim
import GoSem.ClaimJoined
import GoSem.ClaimMapViews
import Derived.JoinedTies
import Derived.KernelRfl
namespace Go.Proofs.YtnbhdehpdfojlaaDoor
/- THE CELL 'sum', in the pinned program and in every row, IS THE sha256 OF THE DUMP (.gsa) THAT YtnbhdehpdfojlaaDoorProg.lean LOADS. Nothing in Lean hashes anything: it is a label: what it is worth is what the hold of that sum in a sandbox is worth. -/
noncomputable def Tryd.pinned : Pinned := { name := "ytnbhdehpdfojlaadoor", sum := "f92b4b407241e8a5249539b985d3655fd57c2a82761790639575704df45b016c", checked := Tryd.checked }
namespace Rows
def none {H : Type} : Left H := { results := [], args := [] }

/- WHAT THE LISTED PACKAGE-LEVEL VARIABLES READ AS WHEN THE CALL BEGINS. Each datum BY PROGRAM (the guide's laid-datum.mjs) off the statement by which the dump's own 'gosem.cut.vars' lays the variable. In a bare row this is a premise. The card (YtnbhdehpdfojlaaDoorCards.lean) ties it to the program's text. -/
def laid_archipelago_orders_asked {H : Type} : DataW H := .agg [.agg [.lit (.int .i64 1), .lit (.int .i64 2147483647)], .agg [.lit (.int .i64 0), .lit (.int .i64 3)], .agg [.lit (.int .i64 (-1)), .lit (.int .i64 2147483647)], .agg [.lit (.int .i64 1), .lit (.int .i64 4)], .agg [.lit (.int .i64 (-1048576)), .lit (.int .i64 1048576)]]

/-- 'archipelagolaw15.RegisterTells': WHATEVER THE INPUT: true; the input reads as it did. -/
def registerTellsSpec : ChangeSpec := { name := "registerTells", fn := fun _ => fun
  | [d1, d2] => { results := [.lit (.bool true)], args := [d1, d2] }
  | _ => none }
def registerTellsRow : OpenClaim := { program := "ytnbhdehpdfojlaadoor", sum := "f92b4b407241e8a5249539b985d3655fd57c2a82761790639575704df45b016c", func := "archipelago/archipelagolaw15.RegisterTells", spec := "registerTells", named := ["archipelago/orders.asked"], apart := false, laid := [("archipelago/orders.asked", laid_archipelago_orders_asked)] }
def RegisterTellsSaid : Prop := registerTellsRow.holds Tryd.pinned (OpenSpec.ofChange registerTellsSpec)

/-- ITS FALSE NEIGHBOUR: 'it returns false'. Refute it at one input. -/
def registerTellsWrong : ChangeSpec := { name := "registerTells", fn := fun _ => fun
  | [d1, d2] => { results := [.lit (.bool false)], args := [d1, d2] }
  | _ => none }
def RegisterTellsWrongFalsely : Prop := registerTellsRow.holds Tryd.pinned (OpenSpec.ofChange registerTellsWrong)

/-- 'archipelagolaw15.RegisterPlays': WHATEVER THE INPUT: true; the input reads as it did. -/
def registerPlaysSpec : ChangeSpec := { name := "registerPlays", fn := fun _ => fun
  | [d] => { results := [.lit (.bool true)], args := [d] }
  | _ => none }
def registerPlaysRow : OpenClaim := { program := "ytnbhdehpdfojlaadoor", sum := "f92b4b407241e8a5249539b985d3655fd57c2a82761790639575704df45b016c", func := "archipelago/archipelagolaw15.RegisterPlays", spec := "registerPlays", named := ["archipelago/orders.asked"], apart := false, laid := [("archipelago/orders.asked", laid_archipelago_orders_asked)] }
def RegisterPlaysSaid : Prop := registerPlaysRow.holds Tryd.pinned (OpenSpec.ofChange registerPlaysSpec)

/-- ITS FALSE NEIGHBOUR: 'it returns false'. Refute it at one input. -/
def registerPlaysWrong : ChangeSpec := { name := "registerPlays", fn := fun _ => fun
  | [d] => { results := [.lit (.bool false)], args := [d] }
  | _ => none }
def RegisterPlaysWrongFalsely : Prop := registerPlaysRow.holds Tryd.pinned (OpenSpec.ofChange registerPlaysWrong)

/-- 'archipelagolaw15.RegisterStays': WHATEVER THE INPUT: true; the input reads as it did. -/
def registerStaysSpec : ChangeSpec := { name := "registerStays", fn := fun _ => fun
  | [d] => { results := [.lit (.bool true)], args := [d] }
  | _ => none }
def registerStaysRow : OpenClaim := { program := "ytnbhdehpdfojlaadoor", sum := "f92b4b407241e8a5249539b985d3655fd57c2a82761790639575704df45b016c", func := "archipelago/archipelagolaw15.RegisterStays", spec := "registerStays", named := ["archipelago/orders.asked"], apart := false, laid := [("archipelago/orders.asked", laid_archipelago_orders_asked)] }
def RegisterStaysSaid : Prop := registerStaysRow.holds Tryd.pinned (OpenSpec.ofChange registerStaysSpec)

/-- ITS FALSE NEIGHBOUR: 'it returns false'. Refute it at one input. -/
def registerStaysWrong : ChangeSpec := { name := "registerStays", fn := fun _ => fun
  | [d] => { results := [.lit (.bool false)], args := [d] }
  | _ => none }
def RegisterStaysWrongFalsely : Prop := registerStaysRow.holds Tryd.pinned (OpenSpec.ofChange registerStaysWrong)

/-- 'archipelagolaw15.RegisterBase': WHATEVER THE INPUT: true; the input reads as it did. -/
def registerBaseSpec : ChangeSpec := { name := "registerBase", fn := fun _ => fun
  | [d1, d2] => { results := [.lit (.bool true)], args := [d1, d2] }
  | _ => none }
def registerBaseRow : OpenClaim := { program := "ytnbhdehpdfojlaadoor", sum := "f92b4b407241e8a5249539b985d3655fd57c2a82761790639575704df45b016c", func := "archipelago/archipelagolaw15.RegisterBase", spec := "registerBase", named := ["archipelago/orders.asked"], apart := false, laid := [("archipelago/orders.asked", laid_archipelago_orders_asked)] }
def RegisterBaseSaid : Prop := registerBaseRow.holds Tryd.pinned (OpenSpec.ofChange registerBaseSpec)

/-- ITS FALSE NEIGHBOUR: 'it returns false'. Refute it at one input. -/
def registerBaseWrong : ChangeSpec := { name := "registerBase", fn := fun _ => fun
  | [d1, d2] => { results := [.lit (.bool false)], args := [d1, d2] }
  | _ => none }
def RegisterBaseWrongFalsely : Prop := registerBaseRow.holds Tryd.pinned (OpenSpec.ofChange registerBaseWrong)

/-- 'archipelagolaw15.RegisterTwice': WHATEVER THE INPUT: true; the input reads as it did. -/
def registerTwiceSpec : ChangeSpec := { name := "registerTwice", fn := fun _ => fun
  | [d] => { results := [.lit (.bool true)], args := [d] }
  | _ => none }
def registerTwiceRow : OpenClaim := { program := "ytnbhdehpdfojlaadoor", sum := "f92b4b407241e8a5249539b985d3655fd57c2a82761790639575704df45b016c", func := "archipelago/archipelagolaw15.RegisterTwice", spec := "registerTwice", named := ["archipelago/orders.asked"], apart := false, laid := [("archipelago/orders.asked", laid_archipelago_orders_asked)] }
def RegisterTwiceSaid : Prop := registerTwiceRow.holds Tryd.pinned (OpenSpec.ofChange registerTwiceSpec)

/-- ITS FALSE NEIGHBOUR: 'it returns false'. Refute it at one input. -/
def registerTwiceWrong : ChangeSpec := { name := "registerTwice", fn := fun _ => fun
  | [d] => { results := [.lit (.bool false)], args := [d] }
  | _ => none }
def RegisterTwiceWrongFalsely : Prop := registerTwiceRow.holds Tryd.pinned (OpenSpec.ofChange registerTwiceWrong)

/-- 'archipelagolaw15.RegisterPieces': WHATEVER THE INPUT: true; the input reads as it did. -/
def registerPiecesSpec : ChangeSpec := { name := "registerPieces", fn := fun _ => fun
  | [d1, d2, d3] => { results := [.lit (.bool true)], args := [d1, d2, d3] }
  | _ => none }
def registerPiecesRow : OpenClaim := { program := "ytnbhdehpdfojlaadoor", sum := "f92b4b407241e8a5249539b985d3655fd57c2a82761790639575704df45b016c", func := "archipelago/archipelagolaw15.RegisterPieces", spec := "registerPieces", named := ["archipelago/orders.asked"], apart := false, laid := [("archipelago/orders.asked", laid_archipelago_orders_asked)] }
def RegisterPiecesSaid : Prop := registerPiecesRow.holds Tryd.pinned (OpenSpec.ofChange registerPiecesSpec)

/-- ITS FALSE NEIGHBOUR: 'it returns false'. Refute it at one input. -/
def registerPiecesWrong : ChangeSpec := { name := "registerPieces", fn := fun _ => fun
  | [d1, d2, d3] => { results := [.lit (.bool false)], args := [d1, d2, d3] }
  | _ => none }
def RegisterPiecesWrongFalsely : Prop := registerPiecesRow.holds Tryd.pinned (OpenSpec.ofChange registerPiecesWrong)

/- THE SECOND FORM. 'bulk': how many values and letters a reading holds, each counted each time it is reached (what is shared counts as often as it is met; a slice's spare places count too). A statement '..UptoSaid' is the law's where the arguments, and the package variables that the reading takes, are together of bulk at most 1048576: NARROWER than '..Said'. Prove '..Said' where nothing that the law and all that it calls make is longer than what came in: it says more and counts as full. Else prove '..UptoSaid'. A law counts once. -/
mutual
def uptoBulk {H : Type} : DataW H → Nat
  | .lit (.string bytes) => bytes.length + 1
  | .lit _ => 1
  | .nil => 1
  | .ptr d => uptoBulk d + 1
  | .slice elems spare => uptoBulkAll elems + uptoBulkAll spare + 1
  | .agg parts => uptoBulkAll parts + 1
  | .iface _ d => uptoBulk d + 1
  | .map entries => uptoBulkEntries entries + 1
  | .held _ => 1
def uptoBulkAll {H : Type} : List (DataW H) → Nat
  | [] => 0
  | d :: r => uptoBulk d + uptoBulkAll r
def uptoBulkEntries {H : Type} : List (Lit × DataW H) → Nat
  | [] => 0
  | x :: r => uptoBulkEntry x + uptoBulkEntries r
def uptoBulkEntry {H : Type} : Lit × DataW H → Nat
  | (.string bytes, d) => bytes.length + uptoBulk d + 1
  | (_, d) => uptoBulk d + 1
 end
def uptoSmall : (H : Type) → List (DataW H) → Bool := fun _ ds => decide (uptoBulkAll ds ≤ 1048576)
def OpenSpec.upto (s : _root_.Go.ChangeSpec) : _root_.Go.OpenSpec := { _root_.Go.OpenSpec.ofChange s with cond := some uptoSmall }

/-- 'archipelagolaw15.RegisterTells', WHERE WHAT IT READS IS OF BULK AT MOST 1048576: true; the input reads as it did. -/
def registerTellsUptoRow : OpenClaim := { program := "ytnbhdehpdfojlaadoor", sum := "f92b4b407241e8a5249539b985d3655fd57c2a82761790639575704df45b016c", func := "archipelago/archipelagolaw15.RegisterTells", spec := "registerTells", named := ["archipelago/orders.asked"], apart := false, laid := [("archipelago/orders.asked", laid_archipelago_orders_asked)], narrowed := true }
def RegisterTellsUptoSaid : Prop := registerTellsUptoRow.holds Tryd.pinned (OpenSpec.upto registerTellsSpec)

/-- 'archipelagolaw15.RegisterPlays', WHERE WHAT IT READS IS OF BULK AT MOST 1048576: true; the input reads as it did. -/
def registerPlaysUptoRow : OpenClaim := { program := "ytnbhdehpdfojlaadoor", sum := "f92b4b407241e8a5249539b985d3655fd57c2a82761790639575704df45b016c", func := "archipelago/archipelagolaw15.RegisterPlays", spec := "registerPlays", named := ["archipelago/orders.asked"], apart := false, laid := [("archipelago/orders.asked", laid_archipelago_orders_asked)], narrowed := true }
def RegisterPlaysUptoSaid : Prop := registerPlaysUptoRow.holds Tryd.pinned (OpenSpec.upto registerPlaysSpec)

/-- 'archipelagolaw15.RegisterStays', WHERE WHAT IT READS IS OF BULK AT MOST 1048576: true; the input reads as it did. -/
def registerStaysUptoRow : OpenClaim := { program := "ytnbhdehpdfojlaadoor", sum := "f92b4b407241e8a5249539b985d3655fd57c2a82761790639575704df45b016c", func := "archipelago/archipelagolaw15.RegisterStays", spec := "registerStays", named := ["archipelago/orders.asked"], apart := false, laid := [("archipelago/orders.asked", laid_archipelago_orders_asked)], narrowed := true }
def RegisterStaysUptoSaid : Prop := registerStaysUptoRow.holds Tryd.pinned (OpenSpec.upto registerStaysSpec)

/-- 'archipelagolaw15.RegisterBase', WHERE WHAT IT READS IS OF BULK AT MOST 1048576: true; the input reads as it did. -/
def registerBaseUptoRow : OpenClaim := { program := "ytnbhdehpdfojlaadoor", sum := "f92b4b407241e8a5249539b985d3655fd57c2a82761790639575704df45b016c", func := "archipelago/archipelagolaw15.RegisterBase", spec := "registerBase", named := ["archipelago/orders.asked"], apart := false, laid := [("archipelago/orders.asked", laid_archipelago_orders_asked)], narrowed := true }
def RegisterBaseUptoSaid : Prop := registerBaseUptoRow.holds Tryd.pinned (OpenSpec.upto registerBaseSpec)

/-- 'archipelagolaw15.RegisterTwice', WHERE WHAT IT READS IS OF BULK AT MOST 1048576: true; the input reads as it did. -/
def registerTwiceUptoRow : OpenClaim := { program := "ytnbhdehpdfojlaadoor", sum := "f92b4b407241e8a5249539b985d3655fd57c2a82761790639575704df45b016c", func := "archipelago/archipelagolaw15.RegisterTwice", spec := "registerTwice", named := ["archipelago/orders.asked"], apart := false, laid := [("archipelago/orders.asked", laid_archipelago_orders_asked)], narrowed := true }
def RegisterTwiceUptoSaid : Prop := registerTwiceUptoRow.holds Tryd.pinned (OpenSpec.upto registerTwiceSpec)

/-- 'archipelagolaw15.RegisterPieces', WHERE WHAT IT READS IS OF BULK AT MOST 1048576: true; the input reads as it did. -/
def registerPiecesUptoRow : OpenClaim := { program := "ytnbhdehpdfojlaadoor", sum := "f92b4b407241e8a5249539b985d3655fd57c2a82761790639575704df45b016c", func := "archipelago/archipelagolaw15.RegisterPieces", spec := "registerPieces", named := ["archipelago/orders.asked"], apart := false, laid := [("archipelago/orders.asked", laid_archipelago_orders_asked)], narrowed := true }
def RegisterPiecesUptoSaid : Prop := registerPiecesUptoRow.holds Tryd.pinned (OpenSpec.upto registerPiecesSpec)

end Rows
end Go.Proofs.YtnbhdehpdfojlaaDoor
