/-
  DERIVED. GIVEN WITH THE SEED: THE PROGRAM's TIES (one call each: nine closed facts by the kernel) AND EACH ROW's TIE, after the 31st guide's Derived/Test/Toyas{Tie, Card}.lean. No idea stands in it: it is a product of the set-up. Laid BY PROGRAM, IN A SANDBOX (cutbox-door.mjs). By AI agents, Wed Nov 11 2026. No macro, syntax, notation, axiom, sorry.
-/
import Derived.Test.YtcipgnocmilkpaaDoorRows
import Derived.LaidByTextLater
import Derived.SevenTiedAt
import Derived.LaidSub
import Derived.LaidOnce
namespace Go.Proofs.YtcipgnocmilkpaaDoor
open Go
set_option maxRecDepth 100000
theorem seatTie1 : Tryd.prog.laidByTextLater [("estuary/digest.crcNibbles", Rows.laid_estuary_digest_crcNibbles), ("estuary/digest.firstState", Rows.laid_estuary_digest_firstState), ("estuary/digest.roundKeys", Rows.laid_estuary_digest_roundKeys)] [.data, .data, .data] true :=
  Program.laidByTextLater_by_one 24 8 65 (by kernel_rfl) (by kernel_rfl) (by kernel_rfl) (by kernel_rfl) (by kernel_rfl) (by kernel_rfl) (fun _ _ => by kernel_rfl)
theorem noOwnUnsafe : Tryd.pinned.checked.prog.headLifts.contains "ownunsafe" = false := by kernel_rfl
theorem tie : Tryd.prog.laidByTextLater [("estuary/digest.firstState", Rows.laid_estuary_digest_firstState), ("estuary/digest.roundKeys", Rows.laid_estuary_digest_roundKeys)] [.data, .data] true :=
  Program.laidByTextLater.sub seatTie1 ["estuary/digest.firstState", "estuary/digest.roundKeys"] (by kernel_rfl) (by kernel_rfl)
theorem topNames_row_tie : Rows.topNamesRow.laidByTextAt .later Tryd.pinned [.data, .data] true :=
  OpenClaim.laidByTextAt_later rfl rfl tie noOwnUnsafe
theorem tie2 : Tryd.prog.laidByTextLater [("estuary/digest.crcNibbles", Rows.laid_estuary_digest_crcNibbles)] [.data] true :=
  Program.laidByTextLater.sub seatTie1 ["estuary/digest.crcNibbles"] (by kernel_rfl) (by kernel_rfl)
theorem topTorn_row_tie : Rows.topTornRow.laidByTextAt .later Tryd.pinned [.data] true :=
  OpenClaim.laidByTextAt_later rfl rfl tie2 noOwnUnsafe
theorem topNamesUpto_row_tie : Rows.topNamesUptoRow.laidByTextAt .later Tryd.pinned [.data, .data] true :=
  OpenClaim.laidByTextAt_later rfl rfl tie noOwnUnsafe
theorem topTornUpto_row_tie : Rows.topTornUptoRow.laidByTextAt .later Tryd.pinned [.data] true :=
  OpenClaim.laidByTextAt_later rfl rfl tie2 noOwnUnsafe
end Go.Proofs.YtcipgnocmilkpaaDoor
