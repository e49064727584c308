/-
  NARROWER THAN 'FOR EVERY INPUT', by the rows' own cells (each row's printed sentence says how): OrdersEncode: laid · OrdersDecode: laid · OrdersBack: laid · OrdersApart: laid · OrdersParts: laid · OrdersField: laid.
  DERIVED. THE GIVEN ROWS OF THIS SEAT. 6 by the template 'for every input the law returns true; each argument reads behind the call as it read before'; 0 by the template 'total and deterministic' (their statements: YtncbjekmkihilaaDoorTotals.lean).
  GIVEN WITH THE SEED: the statements are not yours to turn. If you find one false, say at which input.
  Laid BY PROGRAM, IN A SANDBOX (cutbox-rows.mjs): the forced cells as the released guide's own fill.sh prints them over the translation 26468fa3942fd407… (all of the seat's roots in one cut). By AI agents, Wed Nov 11 2026. No macro, syntax, notation, axiom, sorry.
-/
import Derived.Test.YtncbjekmkihilaaDoorChecked
import GoSem.Claim
import GoSem.ClaimJoined
import GoSem.ClaimMapViews
import Derived.JoinedTies
import Derived.KernelRfl
namespace Go.Proofs.YtncbjekmkihilaaDoor
/- THE CELL 'sum', in the pinned program and in every row, IS THE sha256 OF THE DUMP (.gsa) THAT YtncbjekmkihilaaDoorProg.lean LOADS. Nothing in Lean hashes anything: it is a label: what it is worth is what the hold of that sum in a sandbox is worth. -/
noncomputable def Tryd.pinned : Pinned := { name := "ytncbjekmkihilaadoor", sum := "26468fa3942fd407238bb179f704345c76bf5c385ebe434d1cef45678fbc8f9d", checked := Tryd.checked }
namespace Rows
def none {H : Type} : Left H := { results := [], args := [] }

/- WHAT THE LISTED PACKAGE-LEVEL VARIABLES READ AS WHEN THE CALL BEGINS. Each datum BY PROGRAM (the guide's laid-datum.mjs) off the statement by which the dump's own 'gosem.cut.vars' lays the variable. In a bare row this is a premise. The card (YtncbjekmkihilaaDoorCards.lean) ties it to the program's text. -/
def laid_archipelago_orders_asked {H : Type} : DataW H := .agg [.agg [.lit (.int .i64 1), .lit (.int .i64 2147483647)], .agg [.lit (.int .i64 0), .lit (.int .i64 3)], .agg [.lit (.int .i64 (-1)), .lit (.int .i64 2147483647)], .agg [.lit (.int .i64 1), .lit (.int .i64 4)], .agg [.lit (.int .i64 (-1048576)), .lit (.int .i64 1048576)]]

/-- 'archipelagolaw09.OrdersEncode': WHATEVER THE INPUT: true; the input reads as it did. -/
def ordersEncodeSpec : ChangeSpec := { name := "ordersEncode", fn := fun _ => fun
  | [d] => { results := [.lit (.bool true)], args := [d] }
  | _ => none }
def ordersEncodeRow : OpenClaim := { program := "ytncbjekmkihilaadoor", sum := "26468fa3942fd407238bb179f704345c76bf5c385ebe434d1cef45678fbc8f9d", func := "archipelago/archipelagolaw09.OrdersEncode", spec := "ordersEncode", named := ["archipelago/orders.asked"], apart := false, laid := [("archipelago/orders.asked", laid_archipelago_orders_asked)] }
def OrdersEncodeSaid : Prop := ordersEncodeRow.holds Tryd.pinned (OpenSpec.ofChange ordersEncodeSpec)

/-- ITS FALSE NEIGHBOUR: 'it returns false'. Refute it at one input. -/
def ordersEncodeWrong : ChangeSpec := { name := "ordersEncode", fn := fun _ => fun
  | [d] => { results := [.lit (.bool false)], args := [d] }
  | _ => none }
def OrdersEncodeWrongFalsely : Prop := ordersEncodeRow.holds Tryd.pinned (OpenSpec.ofChange ordersEncodeWrong)

/-- 'archipelagolaw09.OrdersDecode': WHATEVER THE INPUT: true; the input reads as it did. -/
def ordersDecodeSpec : ChangeSpec := { name := "ordersDecode", fn := fun _ => fun
  | [d] => { results := [.lit (.bool true)], args := [d] }
  | _ => none }
def ordersDecodeRow : OpenClaim := { program := "ytncbjekmkihilaadoor", sum := "26468fa3942fd407238bb179f704345c76bf5c385ebe434d1cef45678fbc8f9d", func := "archipelago/archipelagolaw09.OrdersDecode", spec := "ordersDecode", named := ["archipelago/orders.asked"], apart := false, laid := [("archipelago/orders.asked", laid_archipelago_orders_asked)] }
def OrdersDecodeSaid : Prop := ordersDecodeRow.holds Tryd.pinned (OpenSpec.ofChange ordersDecodeSpec)

/-- ITS FALSE NEIGHBOUR: 'it returns false'. Refute it at one input. -/
def ordersDecodeWrong : ChangeSpec := { name := "ordersDecode", fn := fun _ => fun
  | [d] => { results := [.lit (.bool false)], args := [d] }
  | _ => none }
def OrdersDecodeWrongFalsely : Prop := ordersDecodeRow.holds Tryd.pinned (OpenSpec.ofChange ordersDecodeWrong)

/-- 'archipelagolaw09.OrdersBack': WHATEVER THE INPUT: true; the input reads as it did. -/
def ordersBackSpec : ChangeSpec := { name := "ordersBack", fn := fun _ => fun
  | [d1, d2] => { results := [.lit (.bool true)], args := [d1, d2] }
  | _ => none }
def ordersBackRow : OpenClaim := { program := "ytncbjekmkihilaadoor", sum := "26468fa3942fd407238bb179f704345c76bf5c385ebe434d1cef45678fbc8f9d", func := "archipelago/archipelagolaw09.OrdersBack", spec := "ordersBack", named := ["archipelago/orders.asked"], apart := false, laid := [("archipelago/orders.asked", laid_archipelago_orders_asked)] }
def OrdersBackSaid : Prop := ordersBackRow.holds Tryd.pinned (OpenSpec.ofChange ordersBackSpec)

/-- ITS FALSE NEIGHBOUR: 'it returns false'. Refute it at one input. -/
def ordersBackWrong : ChangeSpec := { name := "ordersBack", fn := fun _ => fun
  | [d1, d2] => { results := [.lit (.bool false)], args := [d1, d2] }
  | _ => none }
def OrdersBackWrongFalsely : Prop := ordersBackRow.holds Tryd.pinned (OpenSpec.ofChange ordersBackWrong)

/-- 'archipelagolaw09.OrdersApart': WHATEVER THE INPUT: true; the input reads as it did. -/
def ordersApartSpec : ChangeSpec := { name := "ordersApart", fn := fun _ => fun
  | [d1, d2, d3] => { results := [.lit (.bool true)], args := [d1, d2, d3] }
  | _ => none }
def ordersApartRow : OpenClaim := { program := "ytncbjekmkihilaadoor", sum := "26468fa3942fd407238bb179f704345c76bf5c385ebe434d1cef45678fbc8f9d", func := "archipelago/archipelagolaw09.OrdersApart", spec := "ordersApart", named := ["archipelago/orders.asked"], apart := false, laid := [("archipelago/orders.asked", laid_archipelago_orders_asked)] }
def OrdersApartSaid : Prop := ordersApartRow.holds Tryd.pinned (OpenSpec.ofChange ordersApartSpec)

/-- ITS FALSE NEIGHBOUR: 'it returns false'. Refute it at one input. -/
def ordersApartWrong : ChangeSpec := { name := "ordersApart", fn := fun _ => fun
  | [d1, d2, d3] => { results := [.lit (.bool false)], args := [d1, d2, d3] }
  | _ => none }
def OrdersApartWrongFalsely : Prop := ordersApartRow.holds Tryd.pinned (OpenSpec.ofChange ordersApartWrong)

/-- 'archipelagolaw09.OrdersParts': WHATEVER THE INPUT: true; the input reads as it did. -/
def ordersPartsSpec : ChangeSpec := { name := "ordersParts", fn := fun _ => fun
  | [d] => { results := [.lit (.bool true)], args := [d] }
  | _ => none }
def ordersPartsRow : OpenClaim := { program := "ytncbjekmkihilaadoor", sum := "26468fa3942fd407238bb179f704345c76bf5c385ebe434d1cef45678fbc8f9d", func := "archipelago/archipelagolaw09.OrdersParts", spec := "ordersParts", named := ["archipelago/orders.asked"], apart := false, laid := [("archipelago/orders.asked", laid_archipelago_orders_asked)] }
def OrdersPartsSaid : Prop := ordersPartsRow.holds Tryd.pinned (OpenSpec.ofChange ordersPartsSpec)

/-- ITS FALSE NEIGHBOUR: 'it returns false'. Refute it at one input. -/
def ordersPartsWrong : ChangeSpec := { name := "ordersParts", fn := fun _ => fun
  | [d] => { results := [.lit (.bool false)], args := [d] }
  | _ => none }
def OrdersPartsWrongFalsely : Prop := ordersPartsRow.holds Tryd.pinned (OpenSpec.ofChange ordersPartsWrong)

/-- 'archipelagolaw09.OrdersField': WHATEVER THE INPUT: true; the input reads as it did. -/
def ordersFieldSpec : ChangeSpec := { name := "ordersField", fn := fun _ => fun
  | [d1, d2, d3] => { results := [.lit (.bool true)], args := [d1, d2, d3] }
  | _ => none }
def ordersFieldRow : OpenClaim := { program := "ytncbjekmkihilaadoor", sum := "26468fa3942fd407238bb179f704345c76bf5c385ebe434d1cef45678fbc8f9d", func := "archipelago/archipelagolaw09.OrdersField", spec := "ordersField", named := ["archipelago/orders.asked"], apart := false, laid := [("archipelago/orders.asked", laid_archipelago_orders_asked)] }
def OrdersFieldSaid : Prop := ordersFieldRow.holds Tryd.pinned (OpenSpec.ofChange ordersFieldSpec)

/-- ITS FALSE NEIGHBOUR: 'it returns false'. Refute it at one input. -/
def ordersFieldWrong : ChangeSpec := { name := "ordersField", fn := fun _ => fun
  | [d1, d2, d3] => { results := [.lit (.bool false)], args := [d1, d2, d3] }
  | _ => none }
def OrdersFieldWrongFalsely : Prop := ordersFieldRow.holds Tryd.pinned (OpenSpec.ofChange ordersFieldWrong)

/- THE SECOND FORM. 'bulk': how many values and letters a reading holds, each counted each time it is reached (what is shared counts as often as it is met; a slice's spare places count too). A statement '..UptoSaid' is the law's where the arguments, and the package variables that the reading takes, are together of bulk at most 1048576: NARROWER than '..Said'. Prove '..Said' where nothing that the law and all that it calls make is longer than what came in: it says more and counts as full. Else prove '..UptoSaid'. A law counts once. -/
mutual
def uptoBulk {H : Type} : DataW H → Nat
  | .lit (.string bytes) => bytes.length + 1
  | .lit _ => 1
  | .nil => 1
  | .ptr d => uptoBulk d + 1
  | .slice elems spare => uptoBulkAll elems + uptoBulkAll spare + 1
  | .agg parts => uptoBulkAll parts + 1
  | .iface _ d => uptoBulk d + 1
  | .map entries => uptoBulkEntries entries + 1
  | .held _ => 1
def uptoBulkAll {H : Type} : List (DataW H) → Nat
  | [] => 0
  | d :: r => uptoBulk d + uptoBulkAll r
def uptoBulkEntries {H : Type} : List (Lit × DataW H) → Nat
  | [] => 0
  | x :: r => uptoBulkEntry x + uptoBulkEntries r
def uptoBulkEntry {H : Type} : Lit × DataW H → Nat
  | (.string bytes, d) => bytes.length + uptoBulk d + 1
  | (_, d) => uptoBulk d + 1
 end
def uptoSmall : (H : Type) → List (DataW H) → Bool := fun _ ds => decide (uptoBulkAll ds ≤ 1048576)
def OpenSpec.upto (s : _root_.Go.ChangeSpec) : _root_.Go.OpenSpec := { _root_.Go.OpenSpec.ofChange s with cond := some uptoSmall }

/-- 'archipelagolaw09.OrdersEncode', WHERE WHAT IT READS IS OF BULK AT MOST 1048576: true; the input reads as it did. -/
def ordersEncodeUptoRow : OpenClaim := { program := "ytncbjekmkihilaadoor", sum := "26468fa3942fd407238bb179f704345c76bf5c385ebe434d1cef45678fbc8f9d", func := "archipelago/archipelagolaw09.OrdersEncode", spec := "ordersEncode", named := ["archipelago/orders.asked"], apart := false, laid := [("archipelago/orders.asked", laid_archipelago_orders_asked)], narrowed := true }
def OrdersEncodeUptoSaid : Prop := ordersEncodeUptoRow.holds Tryd.pinned (OpenSpec.upto ordersEncodeSpec)

/-- 'archipelagolaw09.OrdersDecode', WHERE WHAT IT READS IS OF BULK AT MOST 1048576: true; the input reads as it did. -/
def ordersDecodeUptoRow : OpenClaim := { program := "ytncbjekmkihilaadoor", sum := "26468fa3942fd407238bb179f704345c76bf5c385ebe434d1cef45678fbc8f9d", func := "archipelago/archipelagolaw09.OrdersDecode", spec := "ordersDecode", named := ["archipelago/orders.asked"], apart := false, laid := [("archipelago/orders.asked", laid_archipelago_orders_asked)], narrowed := true }
def OrdersDecodeUptoSaid : Prop := ordersDecodeUptoRow.holds Tryd.pinned (OpenSpec.upto ordersDecodeSpec)

/-- 'archipelagolaw09.OrdersBack', WHERE WHAT IT READS IS OF BULK AT MOST 1048576: true; the input reads as it did. -/
def ordersBackUptoRow : OpenClaim := { program := "ytncbjekmkihilaadoor", sum := "26468fa3942fd407238bb179f704345c76bf5c385ebe434d1cef45678fbc8f9d", func := "archipelago/archipelagolaw09.OrdersBack", spec := "ordersBack", named := ["archipelago/orders.asked"], apart := false, laid := [("archipelago/orders.asked", laid_archipelago_orders_asked)], narrowed := true }
def OrdersBackUptoSaid : Prop := ordersBackUptoRow.holds Tryd.pinned (OpenSpec.upto ordersBackSpec)

/-- 'archipelagolaw09.OrdersApart', WHERE WHAT IT READS IS OF BULK AT MOST 1048576: true; the input reads as it did. -/
def ordersApartUptoRow : OpenClaim := { program := "ytncbjekmkihilaadoor", sum := "26468fa3942fd407238bb179f704345c76bf5c385ebe434d1cef45678fbc8f9d", func := "archipelago/archipelagolaw09.OrdersApart", spec := "ordersApart", named := ["archipelago/orders.asked"], apart := false, laid := [("archipelago/orders.asked", laid_archipelago_orders_asked)], narrowed := true }
def OrdersApartUptoSaid : Prop := ordersApartUptoRow.holds Tryd.pinned (OpenSpec.upto ordersApartSpec)

/-- 'archipelagolaw09.OrdersParts', WHERE WHAT IT READS IS OF BULK AT MOST 1048576: true; the input reads as it did. -/
def ordersPartsUptoRow : OpenClaim := { program := "ytncbjekmkihilaadoor", sum := "26468fa3942fd407238bb179f704345c76bf5c385ebe434d1cef45678fbc8f9d", func := "archipelago/archipelagolaw09.OrdersParts", spec := "ordersParts", named := ["archipelago/orders.asked"], apart := false, laid := [("archipelago/orders.asked", laid_archipelago_orders_asked)], narrowed := true }
def OrdersPartsUptoSaid : Prop := ordersPartsUptoRow.holds Tryd.pinned (OpenSpec.upto ordersPartsSpec)

/-- 'archipelagolaw09.OrdersField', WHERE WHAT IT READS IS OF BULK AT MOST 1048576: true; the input reads as it did. -/
def ordersFieldUptoRow : OpenClaim := { program := "ytncbjekmkihilaadoor", sum := "26468fa3942fd407238bb179f704345c76bf5c385ebe434d1cef45678fbc8f9d", func := "archipelago/archipelagolaw09.OrdersField", spec := "ordersField", named := ["archipelago/orders.asked"], apart := false, laid := [("archipelago/orders.asked", laid_archipelago_orders_asked)], narrowed := true }
def OrdersFieldUptoSaid : Prop := ordersFieldUptoRow.holds Tryd.pinned (OpenSpec.upto ordersFieldSpec)

end Rows
end Go.Proofs.YtncbjekmkihilaaDoor
