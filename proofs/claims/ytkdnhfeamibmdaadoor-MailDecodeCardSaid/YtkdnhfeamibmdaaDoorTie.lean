/-
  DERIVED. GIVEN WITH THE SEED: THE PROGRAM's TIES (one call each: nine closed facts by the kernel) AND EACH ROW's TIE, after the 31st guide's Derived/Test/Toyas{Tie, Card}.lean. No idea stands in it: it is a product of the set-up. Laid BY PROGRAM, IN A SANDBOX (cutbox-door.mjs). By AI agents, Wed Nov 11 2026. No macro, syntax, notation, axiom, sorry.
-/
import Derived.Test.YtkdnhfeamibmdaaDoorRows
import Derived.LaidByTextLater
import Derived.SevenTiedAt
import Derived.LaidSub
import Derived.LaidOnce
namespace Go.Proofs.YtkdnhfeamibmdaaDoor
open Go
set_option maxRecDepth 100000
theorem seatTie1 : Tryd.prog.laidByTextLater [("archipelago/orders.asked", Rows.laid_archipelago_orders_asked), ("archipelago/records.streams", Rows.laid_archipelago_records_streams), ("archipelago/records.epochs", Rows.laid_archipelago_records_epochs), ("archipelago/records.epochsOrNone", Rows.laid_archipelago_records_epochsOrNone), ("archipelago/records.logs", Rows.laid_archipelago_records_logs), ("archipelago/records.indices", Rows.laid_archipelago_records_indices), ("archipelago/records.feeds", Rows.laid_archipelago_records_feeds), ("archipelago/mail.kinds", Rows.laid_archipelago_mail_kinds), ("archipelago/mail.asked", Rows.laid_archipelago_mail_asked)] [.data, .wider, .wider, .data, .data, .wider, .data, .data, .data] true :=
  Program.laidByTextLater_by_one 65 8 19 (by kernel_rfl) (by kernel_rfl) (by kernel_rfl) (by kernel_rfl) (by kernel_rfl) (by kernel_rfl) (fun _ _ => by kernel_rfl)
theorem noOwnUnsafe : Tryd.pinned.checked.prog.headLifts.contains "ownunsafe" = false := by kernel_rfl
theorem tie : Tryd.prog.laidByTextLater [("archipelago/orders.asked", Rows.laid_archipelago_orders_asked), ("archipelago/records.streams", Rows.laid_archipelago_records_streams), ("archipelago/records.epochs", Rows.laid_archipelago_records_epochs), ("archipelago/records.epochsOrNone", Rows.laid_archipelago_records_epochsOrNone), ("archipelago/records.logs", Rows.laid_archipelago_records_logs), ("archipelago/records.indices", Rows.laid_archipelago_records_indices), ("archipelago/records.feeds", Rows.laid_archipelago_records_feeds)] [.data, .wider, .wider, .data, .data, .wider, .data] true :=
  Program.laidByTextLater.sub seatTie1 ["archipelago/orders.asked", "archipelago/records.streams", "archipelago/records.epochs", "archipelago/records.epochsOrNone", "archipelago/records.logs", "archipelago/records.indices", "archipelago/records.feeds"] (by kernel_rfl) (by kernel_rfl)
theorem recordsEncode_row_tie : Rows.recordsEncodeRow.laidByTextAt .later Tryd.pinned [.data, .wider, .wider, .data, .data, .wider, .data] true :=
  OpenClaim.laidByTextAt_later rfl rfl tie noOwnUnsafe
theorem recordsDecode_row_tie : Rows.recordsDecodeRow.laidByTextAt .later Tryd.pinned [.data, .wider, .wider, .data, .data, .wider, .data] true :=
  OpenClaim.laidByTextAt_later rfl rfl tie noOwnUnsafe
theorem tie2 : Tryd.prog.laidByTextLater [("archipelago/orders.asked", Rows.laid_archipelago_orders_asked), ("archipelago/records.streams", Rows.laid_archipelago_records_streams), ("archipelago/records.epochs", Rows.laid_archipelago_records_epochs), ("archipelago/records.epochsOrNone", Rows.laid_archipelago_records_epochsOrNone), ("archipelago/records.logs", Rows.laid_archipelago_records_logs), ("archipelago/records.indices", Rows.laid_archipelago_records_indices), ("archipelago/records.feeds", Rows.laid_archipelago_records_feeds), ("archipelago/mail.kinds", Rows.laid_archipelago_mail_kinds), ("archipelago/mail.asked", Rows.laid_archipelago_mail_asked)] [.data, .wider, .wider, .data, .data, .wider, .data, .data, .data] true :=
  Program.laidByTextLater.sub seatTie1 ["archipelago/orders.asked", "archipelago/records.streams", "archipelago/records.epochs", "archipelago/records.epochsOrNone", "archipelago/records.logs", "archipelago/records.indices", "archipelago/records.feeds", "archipelago/mail.kinds", "archipelago/mail.asked"] (by kernel_rfl) (by kernel_rfl)
theorem mailEncode_row_tie : Rows.mailEncodeRow.laidByTextAt .later Tryd.pinned [.data, .wider, .wider, .data, .data, .wider, .data, .data, .data] true :=
  OpenClaim.laidByTextAt_later rfl rfl tie2 noOwnUnsafe
theorem mailDecode_row_tie : Rows.mailDecodeRow.laidByTextAt .later Tryd.pinned [.data, .wider, .wider, .data, .data, .wider, .data, .data, .data] true :=
  OpenClaim.laidByTextAt_later rfl rfl tie2 noOwnUnsafe
theorem recordsEncodeUpto_row_tie : Rows.recordsEncodeUptoRow.laidByTextAt .later Tryd.pinned [.data, .wider, .wider, .data, .data, .wider, .data] true :=
  OpenClaim.laidByTextAt_later rfl rfl tie noOwnUnsafe
theorem recordsDecodeUpto_row_tie : Rows.recordsDecodeUptoRow.laidByTextAt .later Tryd.pinned [.data, .wider, .wider, .data, .data, .wider, .data] true :=
  OpenClaim.laidByTextAt_later rfl rfl tie noOwnUnsafe
theorem mailEncodeUpto_row_tie : Rows.mailEncodeUptoRow.laidByTextAt .later Tryd.pinned [.data, .wider, .wider, .data, .data, .wider, .data, .data, .data] true :=
  OpenClaim.laidByTextAt_later rfl rfl tie2 noOwnUnsafe
theorem mailDecodeUpto_row_tie : Rows.mailDecodeUptoRow.laidByTextAt .later Tryd.pinned [.data, .wider, .wider, .data, .data, .wider, .data, .data, .data] true :=
  OpenClaim.laidByTextAt_later rfl rfl tie2 noOwnUnsafe
end Go.Proofs.YtkdnhfeamibmdaaDoor
