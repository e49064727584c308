/-
  NARROWER THAN 'FOR EVERY INPUT', by the rows' own cells (each row's printed sentence says how): RecordsEncode: laid · RecordsDecode: laid · MailEncode: laid · MailDecode: laid.
  DERIVED. THE GIVEN ROWS OF THIS SEAT. 4 by the template 'for every input the law returns true; each argument reads behind the call as it read before'; 0 by the template 'total and deterministic' (their statements: YtkdnhfeamibmdaaDoorTotals.lean).
  GIVEN WITH THE SEED: the statements are not yours to turn. If you find one false, say at which input.
  Laid BY PROGRAM, IN A SANDBOX (cutbox-rows.mjs): the forced cells as the released guide's own fill.sh prints them over the translation 189b2221484d8ce9… (all of the seat's roots in one cut). By AI agents, Wed Nov 11 2026. No macro, syntax, notation, axiom, sorry.
-/
import Derived.Test.YtkdnhfeamibmdaaDoorChecked
import GoSem.Claim
import GoSem.ClaimJoined
import GoSem.ClaimMapViews
import Derived.JoinedTies
import Derived.KernelRfl
namespace Go.Proofs.YtkdnhfeamibmdaaDoor
/- THE CELL 'sum', in the pinned program and in every row, IS THE sha256 OF THE DUMP (.gsa) THAT YtkdnhfeamibmdaaDoorProg.lean LOADS. Nothing in Lean hashes anything: it is a label: what it is worth is what the hold of that sum in a sandbox is worth. -/
noncomputable def Tryd.pinned : Pinned := { name := "ytkdnhfeamibmdaadoor", sum := "189b2221484d8ce97f7032500f898b093f5da20326c051a9f58e7fc42bab791e", checked := Tryd.checked }
namespace Rows
def none {H : Type} : Left H := { results := [], args := [] }

/- WHAT THE LISTED PACKAGE-LEVEL VARIABLES READ AS WHEN THE CALL BEGINS. Each datum BY PROGRAM (the guide's laid-datum.mjs) off the statement by which the dump's own 'gosem.cut.vars' lays the variable. In a bare row this is a premise. The card (YtkdnhfeamibmdaaDoorCards.lean) ties it to the program's text. -/
def laid_archipelago_orders_asked {H : Type} : DataW H := .agg [.agg [.lit (.int .i64 1), .lit (.int .i64 2147483647)], .agg [.lit (.int .i64 0), .lit (.int .i64 3)], .agg [.lit (.int .i64 (-1)), .lit (.int .i64 2147483647)], .agg [.lit (.int .i64 1), .lit (.int .i64 4)], .agg [.lit (.int .i64 (-1048576)), .lit (.int .i64 1048576)]]
def laid_archipelago_records_streams {H : Type} : DataW H := .agg [.lit (.int .i64 0), .lit (.int .i64 3)]
def laid_archipelago_records_epochs {H : Type} : DataW H := .agg [.lit (.int .i64 1), .lit (.int .i64 1048576)]
def laid_archipelago_records_epochsOrNone {H : Type} : DataW H := .agg [.lit (.int .i64 0), .lit (.int .i64 1048576)]
def laid_archipelago_records_logs {H : Type} : DataW H := .agg [.lit (.int .i64 0), .lit (.int .i64 64)]
def laid_archipelago_records_indices {H : Type} : DataW H := .agg [.lit (.int .i64 0), .lit (.int .i64 63)]
def laid_archipelago_records_feeds {H : Type} : DataW H := .agg [.lit (.int .i64 0), .lit (.int .i64 256)]
def laid_archipelago_mail_kinds {H : Type} : DataW H := .agg [.lit (.int .u64 0), .lit (.int .u64 35), .lit (.int .u64 119), .lit (.int .u64 3), .lit (.int .u64 123), .lit (.int .u64 51), .lit (.int .u64 19), .lit (.int .u64 128), .lit (.int .u64 257), .lit (.int .u64 3), .lit (.int .u64 3)]
def laid_archipelago_mail_asked {H : Type} : DataW H := .agg [.agg [.lit (.int .u64 1), .lit (.int .i64 0), .lit (.int .i64 3)], .agg [.lit (.int .u64 2), .lit (.int .i64 1), .lit (.int .i64 1048576)], .agg [.lit (.int .u64 4), .lit (.int .i64 0), .lit (.int .i64 1048576)], .agg [.lit (.int .u64 8), .lit (.int .i64 0), .lit (.int .i64 64)], .agg [.lit (.int .u64 16), .lit (.int .i64 0), .lit (.int .i64 64)], .agg [.lit (.int .u64 32), .lit (.int .i64 0), .lit (.int .i64 1073741824)]]

/-- 'archipelagolaw10.RecordsEncode': WHATEVER THE INPUT: true; the input reads as it did. -/
def recordsEncodeSpec : ChangeSpec := { name := "recordsEncode", fn := fun _ => fun
  | [d] => { results := [.lit (.bool true)], args := [d] }
  | _ => none }
def recordsEncodeRow : OpenClaim := { program := "ytkdnhfeamibmdaadoor", sum := "189b2221484d8ce97f7032500f898b093f5da20326c051a9f58e7fc42bab791e", func := "archipelago/archipelagolaw10.RecordsEncode", spec := "recordsEncode", inPlace := ["internal/abi.NoEscape"], unfollowed := true, recurses := true, named := ["archipelago/records.streams", "archipelago/records.epochs", "archipelago/records.logs", "archipelago/records.epochsOrNone", "archipelago/records.feeds", "archipelago/orders.asked", "archipelago/records.indices"], apart := false, laid := [("archipelago/orders.asked", laid_archipelago_orders_asked), ("archipelago/records.streams", laid_archipelago_records_streams), ("archipelago/records.epochs", laid_archipelago_records_epochs), ("archipelago/records.epochsOrNone", laid_archipelago_records_epochsOrNone), ("archipelago/records.logs", laid_archipelago_records_logs), ("archipelago/records.indices", laid_archipelago_records_indices), ("archipelago/records.feeds", laid_archipelago_records_feeds)] }
def RecordsEncodeSaid : Prop := recordsEncodeRow.holds Tryd.pinned (OpenSpec.ofChange recordsEncodeSpec)

/-- ITS FALSE NEIGHBOUR: 'it returns false'. Refute it at one input. -/
def recordsEncodeWrong : ChangeSpec := { name := "recordsEncode", fn := fun _ => fun
  | [d] => { results := [.lit (.bool false)], args := [d] }
  | _ => none }
def RecordsEncodeWrongFalsely : Prop := recordsEncodeRow.holds Tryd.pinned (OpenSpec.ofChange recordsEncodeWrong)

/-- 'archipelagolaw10.RecordsDecode': WHATEVER THE INPUT: true; the input reads as it did. -/
def recordsDecodeSpec : ChangeSpec := { name := "recordsDecode", fn := fun _ => fun
  | [d] => { results := [.lit (.bool true)], args := [d] }
  | _ => none }
def recordsDecodeRow : OpenClaim := { program := "ytkdnhfeamibmdaadoor", sum := "189b2221484d8ce97f7032500f898b093f5da20326c051a9f58e7fc42bab791e", func := "archipelago/archipelagolaw10.RecordsDecode", spec := "recordsDecode", inPlace := ["internal/abi.NoEscape"], unfollowed := true, recurses := true, named := ["archipelago/records.logs", "archipelago/records.feeds", "archipelago/records.streams", "archipelago/records.epochs", "archipelago/records.epochsOrNone", "archipelago/orders.asked", "archipelago/records.indices"], apart := false, laid := [("archipelago/orders.asked", laid_archipelago_orders_asked), ("archipelago/records.streams", laid_archipelago_records_streams), ("archipelago/records.epochs", laid_archipelago_records_epochs), ("archipelago/records.epochsOrNone", laid_archipelago_records_epochsOrNone), ("archipelago/records.logs", laid_archipelago_records_logs), ("archipelago/records.indices", laid_archipelago_records_indices), ("archipelago/records.feeds", laid_archipelago_records_feeds)] }
def RecordsDecodeSaid : Prop := recordsDecodeRow.holds Tryd.pinned (OpenSpec.ofChange recordsDecodeSpec)

/-- ITS FALSE NEIGHBOUR: 'it returns false'. Refute it at one input. -/
def recordsDecodeWrong : ChangeSpec := { name := "recordsDecode", fn := fun _ => fun
  | [d] => { results := [.lit (.bool false)], args := [d] }
  | _ => none }
def RecordsDecodeWrongFalsely : Prop := recordsDecodeRow.holds Tryd.pinned (OpenSpec.ofChange recordsDecodeWrong)

/-- 'archipelagolaw11.MailEncode': WHATEVER THE INPUT: true; the input reads as it did. -/
def mailEncodeSpec : ChangeSpec := { name := "mailEncode", fn := fun _ => fun
  | [d1, d2] => { results := [.lit (.bool true)], args := [d1, d2] }
  | _ => none }
def mailEncodeRow : OpenClaim := { program := "ytkdnhfeamibmdaadoor", sum := "189b2221484d8ce97f7032500f898b093f5da20326c051a9f58e7fc42bab791e", func := "archipelago/archipelagolaw11.MailEncode", spec := "mailEncode", inPlace := ["internal/abi.NoEscape"], named := ["archipelago/mail.kinds", "archipelago/mail.asked", "archipelago/records.streams", "archipelago/records.epochs", "archipelago/records.logs", "archipelago/records.epochsOrNone", "archipelago/records.feeds", "archipelago/orders.asked", "archipelago/records.indices"], apart := false, laid := [("archipelago/orders.asked", laid_archipelago_orders_asked), ("archipelago/records.streams", laid_archipelago_records_streams), ("archipelago/records.epochs", laid_archipelago_records_epochs), ("archipelago/records.epochsOrNone", laid_archipelago_records_epochsOrNone), ("archipelago/records.logs", laid_archipelago_records_logs), ("archipelago/records.indices", laid_archipelago_records_indices), ("archipelago/records.feeds", laid_archipelago_records_feeds), ("archipelago/mail.kinds", laid_archipelago_mail_kinds), ("archipelago/mail.asked", laid_archipelago_mail_asked)] }
def MailEncodeSaid : Prop := mailEncodeRow.holds Tryd.pinned (OpenSpec.ofChange mailEncodeSpec)

/-- ITS FALSE NEIGHBOUR: 'it returns false'. Refute it at one input. -/
def mailEncodeWrong : ChangeSpec := { name := "mailEncode", fn := fun _ => fun
  | [d1, d2] => { results := [.lit (.bool false)], args := [d1, d2] }
  | _ => none }
def MailEncodeWrongFalsely : Prop := mailEncodeRow.holds Tryd.pinned (OpenSpec.ofChange mailEncodeWrong)

/-- 'archipelagolaw11.MailDecode': WHATEVER THE INPUT: true; the input reads as it did. -/
def mailDecodeSpec : ChangeSpec := { name := "mailDecode", fn := fun _ => fun
  | [d1, d2] => { results := [.lit (.bool true)], args := [d1, d2] }
  | _ => none }
def mailDecodeRow : OpenClaim := { program := "ytkdnhfeamibmdaadoor", sum := "189b2221484d8ce97f7032500f898b093f5da20326c051a9f58e7fc42bab791e", func := "archipelago/archipelagolaw11.MailDecode", spec := "mailDecode", inPlace := ["internal/abi.NoEscape"], named := ["archipelago/mail.kinds", "archipelago/mail.asked", "archipelago/records.streams", "archipelago/records.epochs", "archipelago/records.logs", "archipelago/records.epochsOrNone", "archipelago/records.feeds", "archipelago/orders.asked", "archipelago/records.indices"], apart := false, laid := [("archipelago/orders.asked", laid_archipelago_orders_asked), ("archipelago/records.streams", laid_archipelago_records_streams), ("archipelago/records.epochs", laid_archipelago_records_epochs), ("archipelago/records.epochsOrNone", laid_archipelago_records_epochsOrNone), ("archipelago/records.logs", laid_archipelago_records_logs), ("archipelago/records.indices", laid_archipelago_records_indices), ("archipelago/records.feeds", laid_archipelago_records_feeds), ("archipelago/mail.kinds", laid_archipelago_mail_kinds), ("archipelago/mail.asked", laid_archipelago_mail_asked)] }
def MailDecodeSaid : Prop := mailDecodeRow.holds Tryd.pinned (OpenSpec.ofChange mailDecodeSpec)

/-- ITS FALSE NEIGHBOUR: 'it returns false'. Refute it at one input. -/
def mailDecodeWrong : ChangeSpec := { name := "mailDecode", fn := fun _ => fun
  | [d1, d2] => { results := [.lit (.bool false)], args := [d1, d2] }
  | _ => none }
def MailDecodeWrongFalsely : Prop := mailDecodeRow.holds Tryd.pinned (OpenSpec.ofChange mailDecodeWrong)

/- THE SECOND FORM. 'bulk': how many values and letters a reading holds, each counted each time it is reached (what is shared counts as often as it is met; a slice's spare places count too). A statement '..UptoSaid' is the law's where the arguments, and the package variables that the reading takes, are together of bulk at most 1048576: NARROWER than '..Said'. Prove '..Said' where nothing that the law and all that it calls make is longer than what came in: it says more and counts as full. Else prove '..UptoSaid'. A law counts once. -/
mutual
def uptoBulk {H : Type} : DataW H → Nat
  | .lit (.string bytes) => bytes.length + 1
  | .lit _ => 1
  | .nil => 1
  | .ptr d => uptoBulk d + 1
  | .slice elems spare => uptoBulkAll elems + uptoBulkAll spare + 1
  | .agg parts => uptoBulkAll parts + 1
  | .iface _ d => uptoBulk d + 1
  | .map entries => uptoBulkEntries entries + 1
  | .held _ => 1
def uptoBulkAll {H : Type} : List (DataW H) → Nat
  | [] => 0
  | d :: r => uptoBulk d + uptoBulkAll r
def uptoBulkEntries {H : Type} : List (Lit × DataW H) → Nat
  | [] => 0
  | x :: r => uptoBulkEntry x + uptoBulkEntries r
def uptoBulkEntry {H : Type} : Lit × DataW H → Nat
  | (.string bytes, d) => bytes.length + uptoBulk d + 1
  | (_, d) => uptoBulk d + 1
 end
def uptoSmall : (H : Type) → List (DataW H) → Bool := fun _ ds => decide (uptoBulkAll ds ≤ 1048576)
def OpenSpec.upto (s : _root_.Go.ChangeSpec) : _root_.Go.OpenSpec := { _root_.Go.OpenSpec.ofChange s with cond := some uptoSmall }

/-- 'archipelagolaw10.RecordsEncode', WHERE WHAT IT READS IS OF BULK AT MOST 1048576: true; the input reads as it did. -/
def recordsEncodeUptoRow : OpenClaim := { program := "ytkdnhfeamibmdaadoor", sum := "189b2221484d8ce97f7032500f898b093f5da20326c051a9f58e7fc42bab791e", func := "archipelago/archipelagolaw10.RecordsEncode", spec := "recordsEncode", inPlace := ["internal/abi.NoEscape"], unfollowed := true, recurses := true, named := ["archipelago/records.streams", "archipelago/records.epochs", "archipelago/records.logs", "archipelago/records.epochsOrNone", "archipelago/records.feeds", "archipelago/orders.asked", "archipelago/records.indices"], apart := false, laid := [("archipelago/orders.asked", laid_archipelago_orders_asked), ("archipelago/records.streams", laid_archipelago_records_streams), ("archipelago/records.epochs", laid_archipelago_records_epochs), ("archipelago/records.epochsOrNone", laid_archipelago_records_epochsOrNone), ("archipelago/records.logs", laid_archipelago_records_logs), ("archipelago/records.indices", laid_archipelago_records_indices), ("archipelago/records.feeds", laid_archipelago_records_feeds)], narrowed := true }
def RecordsEncodeUptoSaid : Prop := recordsEncodeUptoRow.holds Tryd.pinned (OpenSpec.upto recordsEncodeSpec)

/-- 'archipelagolaw10.RecordsDecode', WHERE WHAT IT READS IS OF BULK AT MOST 1048576: true; the input reads as it did. -/
def recordsDecodeUptoRow : OpenClaim := { program := "ytkdnhfeamibmdaadoor", sum := "189b2221484d8ce97f7032500f898b093f5da20326c051a9f58e7fc42bab791e", func := "archipelago/archipelagolaw10.RecordsDecode", spec := "recordsDecode", inPlace := ["internal/abi.NoEscape"], unfollowed := true, recurses := true, named := ["archipelago/records.logs", "archipelago/records.feeds", "archipelago/records.streams", "archipelago/records.epochs", "archipelago/records.epochsOrNone", "archipelago/orders.asked", "archipelago/records.indices"], apart := false, laid := [("archipelago/orders.asked", laid_archipelago_orders_asked), ("archipelago/records.streams", laid_archipelago_records_streams), ("archipelago/records.epochs", laid_archipelago_records_epochs), ("archipelago/records.epochsOrNone", laid_archipelago_records_epochsOrNone), ("archipelago/records.logs", laid_archipelago_records_logs), ("archipelago/records.indices", laid_archipelago_records_indices), ("archipelago/records.feeds", laid_archipelago_records_feeds)], narrowed := true }
def RecordsDecodeUptoSaid : Prop := recordsDecodeUptoRow.holds Tryd.pinned (OpenSpec.upto recordsDecodeSpec)

/-- 'archipelagolaw11.MailEncode', WHERE WHAT IT READS IS OF BULK AT MOST 1048576: true; the input reads as it did. -/
def mailEncodeUptoRow : OpenClaim := { program := "ytkdnhfeamibmdaadoor", sum := "189b2221484d8ce97f7032500f898b093f5da20326c051a9f58e7fc42bab791e", func := "archipelago/archipelagolaw11.MailEncode", spec := "mailEncode", inPlace := ["internal/abi.NoEscape"], named := ["archipelago/mail.kinds", "archipelago/mail.asked", "archipelago/records.streams", "archipelago/records.epochs", "archipelago/records.logs", "archipelago/records.epochsOrNone", "archipelago/records.feeds", "archipelago/orders.asked", "archipelago/records.indices"], apart := false, laid := [("archipelago/orders.asked", laid_archipelago_orders_asked), ("archipelago/records.streams", laid_archipelago_records_streams), ("archipelago/records.epochs", laid_archipelago_records_epochs), ("archipelago/records.epochsOrNone", laid_archipelago_records_epochsOrNone), ("archipelago/records.logs", laid_archipelago_records_logs), ("archipelago/records.indices", laid_archipelago_records_indices), ("archipelago/records.feeds", laid_archipelago_records_feeds), ("archipelago/mail.kinds", laid_archipelago_mail_kinds), ("archipelago/mail.asked", laid_archipelago_mail_asked)], narrowed := true }
def MailEncodeUptoSaid : Prop := mailEncodeUptoRow.holds Tryd.pinned (OpenSpec.upto mailEncodeSpec)

/-- 'archipelagolaw11.MailDecode', WHERE WHAT IT READS IS OF BULK AT MOST 1048576: true; the input reads as it did. -/
def mailDecodeUptoRow : OpenClaim := { program := "ytkdnhfeamibmdaadoor", sum := "189b2221484d8ce97f7032500f898b093f5da20326c051a9f58e7fc42bab791e", func := "archipelago/archipelagolaw11.MailDecode", spec := "mailDecode", inPlace := ["internal/abi.NoEscape"], named := ["archipelago/mail.kinds", "archipelago/mail.asked", "archipelago/records.streams", "archipelago/records.epochs", "archipelago/records.logs", "archipelago/records.epochsOrNone", "archipelago/records.feeds", "archipelago/orders.asked", "archipelago/records.indices"], apart := false, laid := [("archipelago/orders.asked", laid_archipelago_orders_asked), ("archipelago/records.streams", laid_archipelago_records_streams), ("archipelago/records.epochs", laid_archipelago_records_epochs), ("archipelago/records.epochsOrNone", laid_archipelago_records_epochsOrNone), ("archipelago/records.logs", laid_archipelago_records_logs), ("archipelago/records.indices", laid_archipelago_records_indices), ("archipelago/records.feeds", laid_archipelago_records_feeds), ("archipelago/mail.kinds", laid_archipelago_mail_kinds), ("archipelago/mail.asked", laid_archipelago_mail_asked)], narrowed := true }
def MailDecodeUptoSaid : Prop := mailDecodeUptoRow.holds Tryd.pinned (OpenSpec.upto mailDecodeSpec)

end Rows
end Go.Proofs.YtkdnhfeamibmdaaDoor
