/-
  NARROWER THAN 'FOR EVERY INPUT', by the rows' own cells (each row's printed sentence says how): FoldsOf: laid · FoldsFind: laid · FoldsPrefix: laid · FoldsState: laid · FoldsOnce: laid · FoldsEpochs: laid · FoldsNext: laid.
  DERIVED. THE GIVEN ROWS OF THIS SEAT. 7 by the template 'for every input the law returns true; each argument reads behind the call as it read before'; 0 by the template 'total and deterministic' (their statements: YtafhjlfnhgkcoaaDoorTotals.lean).
  GIVEN WITH THE SEED: the statements are not yours to turn. If you find one false, say at which input.
  Laid BY PROGRAM, IN A SANDBOX (cutbox-rows.mjs): the forced cells as the released guide's own fill.sh prints them over the translation 5961d9eb19b636bf… (all of the seat's roots in one cut). By AI agents, Wed Nov 11 2026. No macro, syntax, notation, axiom, sorry.
-/
import Derived.Test.YtafhjlfnhgkcoaaDoorChecked
import GoSem.Claim
import GoSem.ClaimJoined
import GoSem.ClaimMapViews
import Derived.JoinedTies
import Derived.KernelRfl
namespace Go.Proofs.YtafhjlfnhgkcoaaDoor
/- THE CELL 'sum', in the pinned program and in every row, IS THE sha256 OF THE DUMP (.gsa) THAT YtafhjlfnhgkcoaaDoorProg.lean LOADS. Nothing in Lean hashes anything: it is a label: what it is worth is what the hold of that sum in a sandbox is worth. -/
noncomputable def Tryd.pinned : Pinned := { name := "ytafhjlfnhgkcoaadoor", sum := "5961d9eb19b636bf9c5e6c9c01c9018a3314cb48cdfe2fa0e98eb5215ca81133", checked := Tryd.checked }
namespace Rows
def none {H : Type} : Left H := { results := [], args := [] }

/- WHAT THE LISTED PACKAGE-LEVEL VARIABLES READ AS WHEN THE CALL BEGINS. Each datum BY PROGRAM (the guide's laid-datum.mjs) off the statement by which the dump's own 'gosem.cut.vars' lays the variable. In a bare row this is a premise. The card (YtafhjlfnhgkcoaaDoorCards.lean) ties it to the program's text. -/
def laid_archipelago_orders_asked {H : Type} : DataW H := .agg [.agg [.lit (.int .i64 1), .lit (.int .i64 2147483647)], .agg [.lit (.int .i64 0), .lit (.int .i64 3)], .agg [.lit (.int .i64 (-1)), .lit (.int .i64 2147483647)], .agg [.lit (.int .i64 1), .lit (.int .i64 4)], .agg [.lit (.int .i64 (-1048576)), .lit (.int .i64 1048576)]]

/-- 'archipelagolaw13.FoldsOf': WHATEVER THE INPUT: true; the input reads as it did. -/
def foldsOfSpec : ChangeSpec := { name := "foldsOf", fn := fun _ => fun
  | [d] => { results := [.lit (.bool true)], args := [d] }
  | _ => none }
def foldsOfRow : OpenClaim := { program := "ytafhjlfnhgkcoaadoor", sum := "5961d9eb19b636bf9c5e6c9c01c9018a3314cb48cdfe2fa0e98eb5215ca81133", func := "archipelago/archipelagolaw13.FoldsOf", spec := "foldsOf", unfollowed := true, recurses := true, named := ["archipelago/orders.asked"], plainKeys := false, apart := false, laid := [("archipelago/orders.asked", laid_archipelago_orders_asked)] }
def FoldsOfSaid : Prop := foldsOfRow.holds Tryd.pinned (OpenSpec.ofChange foldsOfSpec)

/-- ITS FALSE NEIGHBOUR: 'it returns false'. Refute it at one input. -/
def foldsOfWrong : ChangeSpec := { name := "foldsOf", fn := fun _ => fun
  | [d] => { results := [.lit (.bool false)], args := [d] }
  | _ => none }
def FoldsOfWrongFalsely : Prop := foldsOfRow.holds Tryd.pinned (OpenSpec.ofChange foldsOfWrong)

/-- 'archipelagolaw13.FoldsFind': WHATEVER THE INPUT: true; the input reads as it did. -/
def foldsFindSpec : ChangeSpec := { name := "foldsFind", fn := fun _ => fun
  | [d1, d2] => { results := [.lit (.bool true)], args := [d1, d2] }
  | _ => none }
def foldsFindRow : OpenClaim := { program := "ytafhjlfnhgkcoaadoor", sum := "5961d9eb19b636bf9c5e6c9c01c9018a3314cb48cdfe2fa0e98eb5215ca81133", func := "archipelago/archipelagolaw13.FoldsFind", spec := "foldsFind", unfollowed := true, recurses := true, named := ["archipelago/orders.asked"], plainKeys := false, apart := false, laid := [("archipelago/orders.asked", laid_archipelago_orders_asked)] }
def FoldsFindSaid : Prop := foldsFindRow.holds Tryd.pinned (OpenSpec.ofChange foldsFindSpec)

/-- ITS FALSE NEIGHBOUR: 'it returns false'. Refute it at one input. -/
def foldsFindWrong : ChangeSpec := { name := "foldsFind", fn := fun _ => fun
  | [d1, d2] => { results := [.lit (.bool false)], args := [d1, d2] }
  | _ => none }
def FoldsFindWrongFalsely : Prop := foldsFindRow.holds Tryd.pinned (OpenSpec.ofChange foldsFindWrong)

/-- 'archipelagolaw13.FoldsPrefix': WHATEVER THE INPUT: true; the input reads as it did. -/
def foldsPrefixSpec : ChangeSpec := { name := "foldsPrefix", fn := fun _ => fun
  | [d1, d2] => { results := [.lit (.bool true)], args := [d1, d2] }
  | _ => none }
def foldsPrefixRow : OpenClaim := { program := "ytafhjlfnhgkcoaadoor", sum := "5961d9eb19b636bf9c5e6c9c01c9018a3314cb48cdfe2fa0e98eb5215ca81133", func := "archipelago/archipelagolaw13.FoldsPrefix", spec := "foldsPrefix", unfollowed := true, recurses := true, named := ["archipelago/orders.asked"], plainKeys := false, apart := false, laid := [("archipelago/orders.asked", laid_archipelago_orders_asked)] }
def FoldsPrefixSaid : Prop := foldsPrefixRow.holds Tryd.pinned (OpenSpec.ofChange foldsPrefixSpec)

/-- ITS FALSE NEIGHBOUR: 'it returns false'. Refute it at one input. -/
def foldsPrefixWrong : ChangeSpec := { name := "foldsPrefix", fn := fun _ => fun
  | [d1, d2] => { results := [.lit (.bool false)], args := [d1, d2] }
  | _ => none }
def FoldsPrefixWrongFalsely : Prop := foldsPrefixRow.holds Tryd.pinned (OpenSpec.ofChange foldsPrefixWrong)

/-- 'archipelagolaw13.FoldsState': WHATEVER THE INPUT: true; the input reads as it did. -/
def foldsStateSpec : ChangeSpec := { name := "foldsState", fn := fun _ => fun
  | [d] => { results := [.lit (.bool true)], args := [d] }
  | _ => none }
def foldsStateRow : OpenClaim := { program := "ytafhjlfnhgkcoaadoor", sum := "5961d9eb19b636bf9c5e6c9c01c9018a3314cb48cdfe2fa0e98eb5215ca81133", func := "archipelago/archipelagolaw13.FoldsState", spec := "foldsState", unfollowed := true, recurses := true, named := ["archipelago/orders.asked"], plainKeys := false, apart := false, laid := [("archipelago/orders.asked", laid_archipelago_orders_asked)] }
def FoldsStateSaid : Prop := foldsStateRow.holds Tryd.pinned (OpenSpec.ofChange foldsStateSpec)

/-- ITS FALSE NEIGHBOUR: 'it returns false'. Refute it at one input. -/
def foldsStateWrong : ChangeSpec := { name := "foldsState", fn := fun _ => fun
  | [d] => { results := [.lit (.bool false)], args := [d] }
  | _ => none }
def FoldsStateWrongFalsely : Prop := foldsStateRow.holds Tryd.pinned (OpenSpec.ofChange foldsStateWrong)

/-- 'archipelagolaw13.FoldsOnce': WHATEVER THE INPUT: true; the input reads as it did. -/
def foldsOnceSpec : ChangeSpec := { name := "foldsOnce", fn := fun _ => fun
  | [d1, d2, d3] => { results := [.lit (.bool true)], args := [d1, d2, d3] }
  | _ => none }
def foldsOnceRow : OpenClaim := { program := "ytafhjlfnhgkcoaadoor", sum := "5961d9eb19b636bf9c5e6c9c01c9018a3314cb48cdfe2fa0e98eb5215ca81133", func := "archipelago/archipelagolaw13.FoldsOnce", spec := "foldsOnce", unfollowed := true, recurses := true, named := ["archipelago/orders.asked"], plainKeys := false, apart := false, laid := [("archipelago/orders.asked", laid_archipelago_orders_asked)] }
def FoldsOnceSaid : Prop := foldsOnceRow.holds Tryd.pinned (OpenSpec.ofChange foldsOnceSpec)

/-- ITS FALSE NEIGHBOUR: 'it returns false'. Refute it at one input. -/
def foldsOnceWrong : ChangeSpec := { name := "foldsOnce", fn := fun _ => fun
  | [d1, d2, d3] => { results := [.lit (.bool false)], args := [d1, d2, d3] }
  | _ => none }
def FoldsOnceWrongFalsely : Prop := foldsOnceRow.holds Tryd.pinned (OpenSpec.ofChange foldsOnceWrong)

/-- 'archipelagolaw13.FoldsEpochs': WHATEVER THE INPUT: true; the input reads as it did. -/
def foldsEpochsSpec : ChangeSpec := { name := "foldsEpochs", fn := fun _ => fun
  | [d1, d2] => { results := [.lit (.bool true)], args := [d1, d2] }
  | _ => none }
def foldsEpochsRow : OpenClaim := { program := "ytafhjlfnhgkcoaadoor", sum := "5961d9eb19b636bf9c5e6c9c01c9018a3314cb48cdfe2fa0e98eb5215ca81133", func := "archipelago/archipelagolaw13.FoldsEpochs", spec := "foldsEpochs", unfollowed := true, recurses := true, named := ["archipelago/orders.asked"], plainKeys := false, apart := false, laid := [("archipelago/orders.asked", laid_archipelago_orders_asked)] }
def FoldsEpochsSaid : Prop := foldsEpochsRow.holds Tryd.pinned (OpenSpec.ofChange foldsEpochsSpec)

/-- ITS FALSE NEIGHBOUR: 'it returns false'. Refute it at one input. -/
def foldsEpochsWrong : ChangeSpec := { name := "foldsEpochs", fn := fun _ => fun
  | [d1, d2] => { results := [.lit (.bool false)], args := [d1, d2] }
  | _ => none }
def FoldsEpochsWrongFalsely : Prop := foldsEpochsRow.holds Tryd.pinned (OpenSpec.ofChange foldsEpochsWrong)

/-- 'archipelagolaw13.FoldsNext': WHATEVER THE INPUT: true; the input reads as it did. -/
def foldsNextSpec : ChangeSpec := { name := "foldsNext", fn := fun _ => fun
  | [d1, d2] => { results := [.lit (.bool true)], args := [d1, d2] }
  | _ => none }
def foldsNextRow : OpenClaim := { program := "ytafhjlfnhgkcoaadoor", sum := "5961d9eb19b636bf9c5e6c9c01c9018a3314cb48cdfe2fa0e98eb5215ca81133", func := "archipelago/archipelagolaw13.FoldsNext", spec := "foldsNext", unfollowed := true, recurses := true, named := ["archipelago/orders.asked"], plainKeys := false, apart := false, laid := [("archipelago/orders.asked", laid_archipelago_orders_asked)] }
def FoldsNextSaid : Prop := foldsNextRow.holds Tryd.pinned (OpenSpec.ofChange foldsNextSpec)

/-- ITS FALSE NEIGHBOUR: 'it returns false'. Refute it at one input. -/
def foldsNextWrong : ChangeSpec := { name := "foldsNext", fn := fun _ => fun
  | [d1, d2] => { results := [.lit (.bool false)], args := [d1, d2] }
  | _ => none }
def FoldsNextWrongFalsely : Prop := foldsNextRow.holds Tryd.pinned (OpenSpec.ofChange foldsNextWrong)

/- THE SECOND FORM. 'bulk': how many values and letters a reading holds, each counted each time it is reached (what is shared counts as often as it is met; a slice's spare places count too). A statement '..UptoSaid' is the law's where the arguments, and the package variables that the reading takes, are together of bulk at most 1048576: NARROWER than '..Said'. Prove '..Said' where nothing that the law and all that it calls make is longer than what came in: it says more and counts as full. Else prove '..UptoSaid'. A law counts once. -/
mutual
def uptoBulk {H : Type} : DataW H → Nat
  | .lit (.string bytes) => bytes.length + 1
  | .lit _ => 1
  | .nil => 1
  | .ptr d => uptoBulk d + 1
  | .slice elems spare => uptoBulkAll elems + uptoBulkAll spare + 1
  | .agg parts => uptoBulkAll parts + 1
  | .iface _ d => uptoBulk d + 1
  | .map entries => uptoBulkEntries entries + 1
  | .held _ => 1
def uptoBulkAll {H : Type} : List (DataW H) → Nat
  | [] => 0
  | d :: r => uptoBulk d + uptoBulkAll r
def uptoBulkEntries {H : Type} : List (Lit × DataW H) → Nat
  | [] => 0
  | x :: r => uptoBulkEntry x + uptoBulkEntries r
def uptoBulkEntry {H : Type} : Lit × DataW H → Nat
  | (.string bytes, d) => bytes.length + uptoBulk d + 1
  | (_, d) => uptoBulk d + 1
 end
def uptoSmall : (H : Type) → List (DataW H) → Bool := fun _ ds => decide (uptoBulkAll ds ≤ 1048576)
def OpenSpec.upto (s : _root_.Go.ChangeSpec) : _root_.Go.OpenSpec := { _root_.Go.OpenSpec.ofChange s with cond := some uptoSmall }

/-- 'archipelagolaw13.FoldsOf', WHERE WHAT IT READS IS OF BULK AT MOST 1048576: true; the input reads as it did. -/
def foldsOfUptoRow : OpenClaim := { program := "ytafhjlfnhgkcoaadoor", sum := "5961d9eb19b636bf9c5e6c9c01c9018a3314cb48cdfe2fa0e98eb5215ca81133", func := "archipelago/archipelagolaw13.FoldsOf", spec := "foldsOf", unfollowed := true, recurses := true, named := ["archipelago/orders.asked"], plainKeys := false, apart := false, laid := [("archipelago/orders.asked", laid_archipelago_orders_asked)], narrowed := true }
def FoldsOfUptoSaid : Prop := foldsOfUptoRow.holds Tryd.pinned (OpenSpec.upto foldsOfSpec)

/-- 'archipelagolaw13.FoldsFind', WHERE WHAT IT READS IS OF BULK AT MOST 1048576: true; the input reads as it did. -/
def foldsFindUptoRow : OpenClaim := { program := "ytafhjlfnhgkcoaadoor", sum := "5961d9eb19b636bf9c5e6c9c01c9018a3314cb48cdfe2fa0e98eb5215ca81133", func := "archipelago/archipelagolaw13.FoldsFind", spec := "foldsFind", unfollowed := true, recurses := true, named := ["archipelago/orders.asked"], plainKeys := false, apart := false, laid := [("archipelago/orders.asked", laid_archipelago_orders_asked)], narrowed := true }
def FoldsFindUptoSaid : Prop := foldsFindUptoRow.holds Tryd.pinned (OpenSpec.upto foldsFindSpec)

/-- 'archipelagolaw13.FoldsPrefix', WHERE WHAT IT READS IS OF BULK AT MOST 1048576: true; the input reads as it did. -/
def foldsPrefixUptoRow : OpenClaim := { program := "ytafhjlfnhgkcoaadoor", sum := "5961d9eb19b636bf9c5e6c9c01c9018a3314cb48cdfe2fa0e98eb5215ca81133", func := "archipelago/archipelagolaw13.FoldsPrefix", spec := "foldsPrefix", unfollowed := true, recurses := true, named := ["archipelago/orders.asked"], plainKeys := false, apart := false, laid := [("archipelago/orders.asked", laid_archipelago_orders_asked)], narrowed := true }
def FoldsPrefixUptoSaid : Prop := foldsPrefixUptoRow.holds Tryd.pinned (OpenSpec.upto foldsPrefixSpec)

/-- 'archipelagolaw13.FoldsState', WHERE WHAT IT READS IS OF BULK AT MOST 1048576: true; the input reads as it did. -/
def foldsStateUptoRow : OpenClaim := { program := "ytafhjlfnhgkcoaadoor", sum := "5961d9eb19b636bf9c5e6c9c01c9018a3314cb48cdfe2fa0e98eb5215ca81133", func := "archipelago/archipelagolaw13.FoldsState", spec := "foldsState", unfollowed := true, recurses := true, named := ["archipelago/orders.asked"], plainKeys := false, apart := false, laid := [("archipelago/orders.asked", laid_archipelago_orders_asked)], narrowed := true }
def FoldsStateUptoSaid : Prop := foldsStateUptoRow.holds Tryd.pinned (OpenSpec.upto foldsStateSpec)

/-- 'archipelagolaw13.FoldsOnce', WHERE WHAT IT READS IS OF BULK AT MOST 1048576: true; the input reads as it did. -/
def foldsOnceUptoRow : OpenClaim := { program := "ytafhjlfnhgkcoaadoor", sum := "5961d9eb19b636bf9c5e6c9c01c9018a3314cb48cdfe2fa0e98eb5215ca81133", func := "archipelago/archipelagolaw13.FoldsOnce", spec := "foldsOnce", unfollowed := true, recurses := true, named := ["archipelago/orders.asked"], plainKeys := false, apart := false, laid := [("archipelago/orders.asked", laid_archipelago_orders_asked)], narrowed := true }
def FoldsOnceUptoSaid : Prop := foldsOnceUptoRow.holds Tryd.pinned (OpenSpec.upto foldsOnceSpec)

/-- 'archipelagolaw13.FoldsEpochs', WHERE WHAT IT READS IS OF BULK AT MOST 1048576: true; the input reads as it did. -/
def foldsEpochsUptoRow : OpenClaim := { program := "ytafhjlfnhgkcoaadoor", sum := "5961d9eb19b636bf9c5e6c9c01c9018a3314cb48cdfe2fa0e98eb5215ca81133", func := "archipelago/archipelagolaw13.FoldsEpochs", spec := "foldsEpochs", unfollowed := true, recurses := true, named := ["archipelago/orders.asked"], plainKeys := false, apart := false, laid := [("archipelago/orders.asked", laid_archipelago_orders_asked)], narrowed := true }
def FoldsEpochsUptoSaid : Prop := foldsEpochsUptoRow.holds Tryd.pinned (OpenSpec.upto foldsEpochsSpec)

/-- 'archipelagolaw13.FoldsNext', WHERE WHAT IT READS IS OF BULK AT MOST 1048576: true; the input reads as it did. -/
def foldsNextUptoRow : OpenClaim := { program := "ytafhjlfnhgkcoaadoor", sum := "5961d9eb19b636bf9c5e6c9c01c9018a3314cb48cdfe2fa0e98eb5215ca81133", func := "archipelago/archipelagolaw13.FoldsNext", spec := "foldsNext", unfollowed := true, recurses := true, named := ["archipelago/orders.asked"], plainKeys := false, apart := false, laid := [("archipelago/orders.asked", laid_archipelago_orders_asked)], narrowed := true }
def FoldsNextUptoSaid : Prop := foldsNextUptoRow.holds Tryd.pinned (OpenSpec.upto foldsNextSpec)

end Rows
end Go.Proofs.YtafhjlfnhgkcoaaDoor
