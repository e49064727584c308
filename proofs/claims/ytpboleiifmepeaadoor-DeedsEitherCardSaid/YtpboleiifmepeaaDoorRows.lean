/-
  NARROWER THAN 'FOR EVERY INPUT', by the rows' own cells (each row's printed sentence says how): DeedsDecide: laid · DeedsApply: laid · DeedsLead: laid · DeedsStay: laid · DeedsExpect: laid · DeedsEither: laid.
  DERIVED. THE GIVEN ROWS OF THIS SEAT. 6 by the template 'for every input the law returns true; each argument reads behind the call as it read before'; 0 by the template 'total and deterministic' (their statements: YtpboleiifmepeaaDoorTotals.lean).
  GIVEN WITH THE SEED: the statements are not yours to turn. If you find one false, say at which input.
  Laid BY PROGRAM, IN A SANDBOX (cutbox-rows.mjs): the forced cells as the released guide's own fill.sh prints them over the translation fe377b878edd2349… (all of the seat's roots in one cut). By AI agents, Wed Nov 11 2026. No macro, syntax, notation, axiom, sorry.
-/
import Derived.Test.YtpboleiifmepeaaDoorChecked
import GoSem.Claim
import GoSem.ClaimJoined
import GoSem.ClaimMapViews
import Derived.JoinedTies
import Derived.KernelRfl
namespace Go.Proofs.YtpboleiifmepeaaDoor
/- THE CELL 'sum', in the pinned program and in every row, IS THE sha256 OF THE DUMP (.gsa) THAT YtpboleiifmepeaaDoorProg.lean LOADS. Nothing in Lean hashes anything: it is a label: what it is worth is what the hold of that sum in a sandbox is worth. -/
noncomputable def Tryd.pinned : Pinned := { name := "ytpboleiifmepeaadoor", sum := "fe377b878edd2349243ad04cf56668ccf9cd98e272a7508d551b9d96c5d61751", checked := Tryd.checked }
namespace Rows
def none {H : Type} : Left H := { results := [], args := [] }

/- WHAT THE LISTED PACKAGE-LEVEL VARIABLES READ AS WHEN THE CALL BEGINS. Each datum BY PROGRAM (the guide's laid-datum.mjs) off the statement by which the dump's own 'gosem.cut.vars' lays the variable. In a bare row this is a premise. The card (YtpboleiifmepeaaDoorCards.lean) ties it to the program's text. -/
def laid_archipelago_orders_asked {H : Type} : DataW H := .agg [.agg [.lit (.int .i64 1), .lit (.int .i64 2147483647)], .agg [.lit (.int .i64 0), .lit (.int .i64 3)], .agg [.lit (.int .i64 (-1)), .lit (.int .i64 2147483647)], .agg [.lit (.int .i64 1), .lit (.int .i64 4)], .agg [.lit (.int .i64 (-1048576)), .lit (.int .i64 1048576)]]

/-- 'archipelagolaw12.DeedsDecide': WHATEVER THE INPUT: true; the input reads as it did. -/
def deedsDecideSpec : ChangeSpec := { name := "deedsDecide", fn := fun _ => fun
  | [d1, d2] => { results := [.lit (.bool true)], args := [d1, d2] }
  | _ => none }
def deedsDecideRow : OpenClaim := { program := "ytpboleiifmepeaadoor", sum := "fe377b878edd2349243ad04cf56668ccf9cd98e272a7508d551b9d96c5d61751", func := "archipelago/archipelagolaw12.DeedsDecide", spec := "deedsDecide", unfollowed := true, recurses := true, named := ["archipelago/orders.asked"], apart := false, laid := [("archipelago/orders.asked", laid_archipelago_orders_asked)] }
def DeedsDecideSaid : Prop := deedsDecideRow.holds Tryd.pinned (OpenSpec.ofChange deedsDecideSpec)

/-- ITS FALSE NEIGHBOUR: 'it returns false'. Refute it at one input. -/
def deedsDecideWrong : ChangeSpec := { name := "deedsDecide", fn := fun _ => fun
  | [d1, d2] => { results := [.lit (.bool false)], args := [d1, d2] }
  | _ => none }
def DeedsDecideWrongFalsely : Prop := deedsDecideRow.holds Tryd.pinned (OpenSpec.ofChange deedsDecideWrong)

/-- 'archipelagolaw12.DeedsApply': WHATEVER THE INPUT: true; the input reads as it did. -/
def deedsApplySpec : ChangeSpec := { name := "deedsApply", fn := fun _ => fun
  | [d1, d2] => { results := [.lit (.bool true)], args := [d1, d2] }
  | _ => none }
def deedsApplyRow : OpenClaim := { program := "ytpboleiifmepeaadoor", sum := "fe377b878edd2349243ad04cf56668ccf9cd98e272a7508d551b9d96c5d61751", func := "archipelago/archipelagolaw12.DeedsApply", spec := "deedsApply", unfollowed := true, recurses := true, named := ["archipelago/orders.asked"], apart := false, laid := [("archipelago/orders.asked", laid_archipelago_orders_asked)] }
def DeedsApplySaid : Prop := deedsApplyRow.holds Tryd.pinned (OpenSpec.ofChange deedsApplySpec)

/-- ITS FALSE NEIGHBOUR: 'it returns false'. Refute it at one input. -/
def deedsApplyWrong : ChangeSpec := { name := "deedsApply", fn := fun _ => fun
  | [d1, d2] => { results := [.lit (.bool false)], args := [d1, d2] }
  | _ => none }
def DeedsApplyWrongFalsely : Prop := deedsApplyRow.holds Tryd.pinned (OpenSpec.ofChange deedsApplyWrong)

/-- 'archipelagolaw12.DeedsLead': WHATEVER THE INPUT: true; the input reads as it did. -/
def deedsLeadSpec : ChangeSpec := { name := "deedsLead", fn := fun _ => fun
  | [d1, d2] => { results := [.lit (.bool true)], args := [d1, d2] }
  | _ => none }
def deedsLeadRow : OpenClaim := { program := "ytpboleiifmepeaadoor", sum := "fe377b878edd2349243ad04cf56668ccf9cd98e272a7508d551b9d96c5d61751", func := "archipelago/archipelagolaw12.DeedsLead", spec := "deedsLead", unfollowed := true, recurses := true, named := ["archipelago/orders.asked"], apart := false, laid := [("archipelago/orders.asked", laid_archipelago_orders_asked)] }
def DeedsLeadSaid : Prop := deedsLeadRow.holds Tryd.pinned (OpenSpec.ofChange deedsLeadSpec)

/-- ITS FALSE NEIGHBOUR: 'it returns false'. Refute it at one input. -/
def deedsLeadWrong : ChangeSpec := { name := "deedsLead", fn := fun _ => fun
  | [d1, d2] => { results := [.lit (.bool false)], args := [d1, d2] }
  | _ => none }
def DeedsLeadWrongFalsely : Prop := deedsLeadRow.holds Tryd.pinned (OpenSpec.ofChange deedsLeadWrong)

/-- 'archipelagolaw12.DeedsStay': WHATEVER THE INPUT: true; the input reads as it did. -/
def deedsStaySpec : ChangeSpec := { name := "deedsStay", fn := fun _ => fun
  | [d1, d2] => { results := [.lit (.bool true)], args := [d1, d2] }
  | _ => none }
def deedsStayRow : OpenClaim := { program := "ytpboleiifmepeaadoor", sum := "fe377b878edd2349243ad04cf56668ccf9cd98e272a7508d551b9d96c5d61751", func := "archipelago/archipelagolaw12.DeedsStay", spec := "deedsStay", unfollowed := true, recurses := true, named := ["archipelago/orders.asked"], apart := false, laid := [("archipelago/orders.asked", laid_archipelago_orders_asked)] }
def DeedsStaySaid : Prop := deedsStayRow.holds Tryd.pinned (OpenSpec.ofChange deedsStaySpec)

/-- ITS FALSE NEIGHBOUR: 'it returns false'. Refute it at one input. -/
def deedsStayWrong : ChangeSpec := { name := "deedsStay", fn := fun _ => fun
  | [d1, d2] => { results := [.lit (.bool false)], args := [d1, d2] }
  | _ => none }
def DeedsStayWrongFalsely : Prop := deedsStayRow.holds Tryd.pinned (OpenSpec.ofChange deedsStayWrong)

/-- 'archipelagolaw12.DeedsExpect': WHATEVER THE INPUT: true; the input reads as it did. -/
def deedsExpectSpec : ChangeSpec := { name := "deedsExpect", fn := fun _ => fun
  | [d1, d2, d3] => { results := [.lit (.bool true)], args := [d1, d2, d3] }
  | _ => none }
def deedsExpectRow : OpenClaim := { program := "ytpboleiifmepeaadoor", sum := "fe377b878edd2349243ad04cf56668ccf9cd98e272a7508d551b9d96c5d61751", func := "archipelago/archipelagolaw12.DeedsExpect", spec := "deedsExpect", unfollowed := true, recurses := true, named := ["archipelago/orders.asked"], apart := false, laid := [("archipelago/orders.asked", laid_archipelago_orders_asked)] }
def DeedsExpectSaid : Prop := deedsExpectRow.holds Tryd.pinned (OpenSpec.ofChange deedsExpectSpec)

/-- ITS FALSE NEIGHBOUR: 'it returns false'. Refute it at one input. -/
def deedsExpectWrong : ChangeSpec := { name := "deedsExpect", fn := fun _ => fun
  | [d1, d2, d3] => { results := [.lit (.bool false)], args := [d1, d2, d3] }
  | _ => none }
def DeedsExpectWrongFalsely : Prop := deedsExpectRow.holds Tryd.pinned (OpenSpec.ofChange deedsExpectWrong)

/-- 'archipelagolaw12.DeedsEither': WHATEVER THE INPUT: true; the input reads as it did. -/
def deedsEitherSpec : ChangeSpec := { name := "deedsEither", fn := fun _ => fun
  | [d1, d2] => { results := [.lit (.bool true)], args := [d1, d2] }
  | _ => none }
def deedsEitherRow : OpenClaim := { program := "ytpboleiifmepeaadoor", sum := "fe377b878edd2349243ad04cf56668ccf9cd98e272a7508d551b9d96c5d61751", func := "archipelago/archipelagolaw12.DeedsEither", spec := "deedsEither", unfollowed := true, recurses := true, named := ["archipelago/orders.asked"], apart := false, laid := [("archipelago/orders.asked", laid_archipelago_orders_asked)] }
def DeedsEitherSaid : Prop := deedsEitherRow.holds Tryd.pinned (OpenSpec.ofChange deedsEitherSpec)

/-- ITS FALSE NEIGHBOUR: 'it returns false'. Refute it at one input. -/
def deedsEitherWrong : ChangeSpec := { name := "deedsEither", fn := fun _ => fun
  | [d1, d2] => { results := [.lit (.bool false)], args := [d1, d2] }
  | _ => none }
def DeedsEitherWrongFalsely : Prop := deedsEitherRow.holds Tryd.pinned (OpenSpec.ofChange deedsEitherWrong)

/- THE SECOND FORM. 'bulk': how many values and letters a reading holds, each counted each time it is reached (what is shared counts as often as it is met; a slice's spare places count too). A statement '..UptoSaid' is the law's where the arguments, and the package variables that the reading takes, are together of bulk at most 1048576: NARROWER than '..Said'. Prove '..Said' where nothing that the law and all that it calls make is longer than what came in: it says more and counts as full. Else prove '..UptoSaid'. A law counts once. -/
mutual
def uptoBulk {H : Type} : DataW H → Nat
  | .lit (.string bytes) => bytes.length + 1
  | .lit _ => 1
  | .nil => 1
  | .ptr d => uptoBulk d + 1
  | .slice elems spare => uptoBulkAll elems + uptoBulkAll spare + 1
  | .agg parts => uptoBulkAll parts + 1
  | .iface _ d => uptoBulk d + 1
  | .map entries => uptoBulkEntries entries + 1
  | .held _ => 1
def uptoBulkAll {H : Type} : List (DataW H) → Nat
  | [] => 0
  | d :: r => uptoBulk d + uptoBulkAll r
def uptoBulkEntries {H : Type} : List (Lit × DataW H) → Nat
  | [] => 0
  | x :: r => uptoBulkEntry x + uptoBulkEntries r
def uptoBulkEntry {H : Type} : Lit × DataW H → Nat
  | (.string bytes, d) => bytes.length + uptoBulk d + 1
  | (_, d) => uptoBulk d + 1
 end
def uptoSmall : (H : Type) → List (DataW H) → Bool := fun _ ds => decide (uptoBulkAll ds ≤ 1048576)
def OpenSpec.upto (s : _root_.Go.ChangeSpec) : _root_.Go.OpenSpec := { _root_.Go.OpenSpec.ofChange s with cond := some uptoSmall }

/-- 'archipelagolaw12.DeedsDecide', WHERE WHAT IT READS IS OF BULK AT MOST 1048576: true; the input reads as it did. -/
def deedsDecideUptoRow : OpenClaim := { program := "ytpboleiifmepeaadoor", sum := "fe377b878edd2349243ad04cf56668ccf9cd98e272a7508d551b9d96c5d61751", func := "archipelago/archipelagolaw12.DeedsDecide", spec := "deedsDecide", unfollowed := true, recurses := true, named := ["archipelago/orders.asked"], apart := false, laid := [("archipelago/orders.asked", laid_archipelago_orders_asked)], narrowed := true }
def DeedsDecideUptoSaid : Prop := deedsDecideUptoRow.holds Tryd.pinned (OpenSpec.upto deedsDecideSpec)

/-- 'archipelagolaw12.DeedsApply', WHERE WHAT IT READS IS OF BULK AT MOST 1048576: true; the input reads as it did. -/
def deedsApplyUptoRow : OpenClaim := { program := "ytpboleiifmepeaadoor", sum := "fe377b878edd2349243ad04cf56668ccf9cd98e272a7508d551b9d96c5d61751", func := "archipelago/archipelagolaw12.DeedsApply", spec := "deedsApply", unfollowed := true, recurses := true, named := ["archipelago/orders.asked"], apart := false, laid := [("archipelago/orders.asked", laid_archipelago_orders_asked)], narrowed := true }
def DeedsApplyUptoSaid : Prop := deedsApplyUptoRow.holds Tryd.pinned (OpenSpec.upto deedsApplySpec)

/-- 'archipelagolaw12.DeedsLead', WHERE WHAT IT READS IS OF BULK AT MOST 1048576: true; the input reads as it did. -/
def deedsLeadUptoRow : OpenClaim := { program := "ytpboleiifmepeaadoor", sum := "fe377b878edd2349243ad04cf56668ccf9cd98e272a7508d551b9d96c5d61751", func := "archipelago/archipelagolaw12.DeedsLead", spec := "deedsLead", unfollowed := true, recurses := true, named := ["archipelago/orders.asked"], apart := false, laid := [("archipelago/orders.asked", laid_archipelago_orders_asked)], narrowed := true }
def DeedsLeadUptoSaid : Prop := deedsLeadUptoRow.holds Tryd.pinned (OpenSpec.upto deedsLeadSpec)

/-- 'archipelagolaw12.DeedsStay', WHERE WHAT IT READS IS OF BULK AT MOST 1048576: true; the input reads as it did. -/
def deedsStayUptoRow : OpenClaim := { program := "ytpboleiifmepeaadoor", sum := "fe377b878edd2349243ad04cf56668ccf9cd98e272a7508d551b9d96c5d61751", func := "archipelago/archipelagolaw12.DeedsStay", spec := "deedsStay", unfollowed := true, recurses := true, named := ["archipelago/orders.asked"], apart := false, laid := [("archipelago/orders.asked", laid_archipelago_orders_asked)], narrowed := true }
def DeedsStayUptoSaid : Prop := deedsStayUptoRow.holds Tryd.pinned (OpenSpec.upto deedsStaySpec)

/-- 'archipelagolaw12.DeedsExpect', WHERE WHAT IT READS IS OF BULK AT MOST 1048576: true; the input reads as it did. -/
def deedsExpectUptoRow : OpenClaim := { program := "ytpboleiifmepeaadoor", sum := "fe377b878edd2349243ad04cf56668ccf9cd98e272a7508d551b9d96c5d61751", func := "archipelago/archipelagolaw12.DeedsExpect", spec := "deedsExpect", unfollowed := true, recurses := true, named := ["archipelago/orders.asked"], apart := false, laid := [("archipelago/orders.asked", laid_archipelago_orders_asked)], narrowed := true }
def DeedsExpectUptoSaid : Prop := deedsExpectUptoRow.holds Tryd.pinned (OpenSpec.upto deedsExpectSpec)

/-- 'archipelagolaw12.DeedsEither', WHERE WHAT IT READS IS OF BULK AT MOST 1048576: true; the input reads as it did. -/
def deedsEitherUptoRow : OpenClaim := { program := "ytpboleiifmepeaadoor", sum := "fe377b878edd2349243ad04cf56668ccf9cd98e272a7508d551b9d96c5d61751", func := "archipelago/archipelagolaw12.DeedsEither", spec := "deedsEither", unfollowed := true, recurses := true, named := ["archipelago/orders.asked"], apart := false, laid := [("archipelago/orders.asked", laid_archipelago_orders_asked)], narrowed := true }
def DeedsEitherUptoSaid : Prop := deedsEitherUptoRow.holds Tryd.pinned (OpenSpec.upto deedsEitherSpec)

end Rows
end Go.Proofs.YtpboleiifmepeaaDoor
