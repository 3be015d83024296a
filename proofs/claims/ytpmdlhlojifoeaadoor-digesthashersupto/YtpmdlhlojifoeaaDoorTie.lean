/-
  DERIVED. GIVEN WITH THE SEED: THE PROGRAM's TIES (one call each: nine closed facts by the kernel) AND EACH ROW's TIE, after the 31st guide's Derived/Test/Toyas{Tie, Card}.lean. No idea stands in it: it is a product of the set-up. Laid BY PROGRAM, IN A SANDBOX (cutbox-door.mjs). By AI agents, Wed Nov 11 2026. No macro, syntax, notation, axiom, sorry.
-/
import Derived.Test.YtpmdlhlojifoeaaDoorRows
import Derived.LaidByTextLater
import Derived.SevenTiedAt
import Derived.LaidSub
import Derived.LaidOnce
namespace Go.Proofs.YtpmdlhlojifoeaaDoor
open Go
set_option maxRecDepth 100000
theorem seatTie1 : Tryd.prog.laidByTextLater [("estuary/estuaryref01.roots", Rows.laid_estuary_estuaryref01_roots), ("estuary/estuaryref01.rounds", Rows.laid_estuary_estuaryref01_rounds), ("estuary/digest.crcNibbles", Rows.laid_estuary_digest_crcNibbles), ("estuary/digest.firstState", Rows.laid_estuary_digest_firstState), ("estuary/digest.roundKeys", Rows.laid_estuary_digest_roundKeys)] [.data, .data, .data, .data, .data] true :=
  Program.laidByTextLater_by_one 34 8 65 (by kernel_rfl) (by kernel_rfl) (by kernel_rfl) (by kernel_rfl) (by kernel_rfl) (by kernel_rfl) (fun _ _ => by kernel_rfl)
theorem noOwnUnsafe : Tryd.pinned.checked.prog.headLifts.contains "ownunsafe" = false := by kernel_rfl
theorem tie : Tryd.prog.laidByTextLater [("estuary/digest.crcNibbles", Rows.laid_estuary_digest_crcNibbles), ("estuary/digest.firstState", Rows.laid_estuary_digest_firstState), ("estuary/digest.roundKeys", Rows.laid_estuary_digest_roundKeys)] [.data, .data, .data] true :=
  Program.laidByTextLater.sub seatTie1 ["estuary/digest.crcNibbles", "estuary/digest.firstState", "estuary/digest.roundKeys"] (by kernel_rfl) (by kernel_rfl)
theorem digestKnown_row_tie : Rows.digestKnownRow.laidByTextAt .later Tryd.pinned [.data, .data, .data] true :=
  OpenClaim.laidByTextAt_later rfl rfl tie noOwnUnsafe
theorem digestPieces_row_tie : Rows.digestPiecesRow.laidByTextAt .later Tryd.pinned [.data, .data, .data] true :=
  OpenClaim.laidByTextAt_later rfl rfl tie noOwnUnsafe
theorem tie2 : Tryd.prog.laidByTextLater [("estuary/estuaryref01.roots", Rows.laid_estuary_estuaryref01_roots), ("estuary/estuaryref01.rounds", Rows.laid_estuary_estuaryref01_rounds), ("estuary/digest.crcNibbles", Rows.laid_estuary_digest_crcNibbles), ("estuary/digest.firstState", Rows.laid_estuary_digest_firstState), ("estuary/digest.roundKeys", Rows.laid_estuary_digest_roundKeys)] [.data, .data, .data, .data, .data] true :=
  Program.laidByTextLater.sub seatTie1 ["estuary/estuaryref01.roots", "estuary/estuaryref01.rounds", "estuary/digest.crcNibbles", "estuary/digest.firstState", "estuary/digest.roundKeys"] (by kernel_rfl) (by kernel_rfl)
theorem digestSums_row_tie : Rows.digestSumsRow.laidByTextAt .later Tryd.pinned [.data, .data, .data, .data, .data] true :=
  OpenClaim.laidByTextAt_later rfl rfl tie2 noOwnUnsafe
theorem tie3 : Tryd.prog.laidByTextLater [("estuary/estuaryref01.roots", Rows.laid_estuary_estuaryref01_roots), ("estuary/estuaryref01.rounds", Rows.laid_estuary_estuaryref01_rounds), ("estuary/digest.firstState", Rows.laid_estuary_digest_firstState), ("estuary/digest.roundKeys", Rows.laid_estuary_digest_roundKeys)] [.data, .data, .data, .data] true :=
  Program.laidByTextLater.sub seatTie1 ["estuary/estuaryref01.roots", "estuary/estuaryref01.rounds", "estuary/digest.firstState", "estuary/digest.roundKeys"] (by kernel_rfl) (by kernel_rfl)
theorem digestMacs_row_tie : Rows.digestMacsRow.laidByTextAt .later Tryd.pinned [.data, .data, .data, .data] true :=
  OpenClaim.laidByTextAt_later rfl rfl tie3 noOwnUnsafe
theorem digestHashers_row_tie : Rows.digestHashersRow.laidByTextAt .later Tryd.pinned [.data, .data, .data, .data] true :=
  OpenClaim.laidByTextAt_later rfl rfl tie3 noOwnUnsafe
theorem tie4 : Tryd.prog.laidByTextLater [("estuary/digest.crcNibbles", Rows.laid_estuary_digest_crcNibbles)] [.data] true :=
  Program.laidByTextLater.sub seatTie1 ["estuary/digest.crcNibbles"] (by kernel_rfl) (by kernel_rfl)
theorem digestLinear_row_tie : Rows.digestLinearRow.laidByTextAt .later Tryd.pinned [.data] true :=
  OpenClaim.laidByTextAt_later rfl rfl tie4 noOwnUnsafe
theorem digestKnownUpto_row_tie : Rows.digestKnownUptoRow.laidByTextAt .later Tryd.pinned [.data, .data, .data] true :=
  OpenClaim.laidByTextAt_later rfl rfl tie noOwnUnsafe
theorem digestSumsUpto_row_tie : Rows.digestSumsUptoRow.laidByTextAt .later Tryd.pinned [.data, .data, .data, .data, .data] true :=
  OpenClaim.laidByTextAt_later rfl rfl tie2 noOwnUnsafe
theorem digestMacsUpto_row_tie : Rows.digestMacsUptoRow.laidByTextAt .later Tryd.pinned [.data, .data, .data, .data] true :=
  OpenClaim.laidByTextAt_later rfl rfl tie3 noOwnUnsafe
theorem digestHashersUpto_row_tie : Rows.digestHashersUptoRow.laidByTextAt .later Tryd.pinned [.data, .data, .data, .data] true :=
  OpenClaim.laidByTextAt_later rfl rfl tie3 noOwnUnsafe
theorem digestPiecesUpto_row_tie : Rows.digestPiecesUptoRow.laidByTextAt .later Tryd.pinned [.data, .data, .data] true :=
  OpenClaim.laidByTextAt_later rfl rfl tie noOwnUnsafe
theorem digestLinearUpto_row_tie : Rows.digestLinearUptoRow.laidByTextAt .later Tryd.pinned [.data] true :=
  OpenClaim.laidByTextAt_later rfl rfl tie4 noOwnUnsafe
end Go.Proofs.YtpmdlhlojifoeaaDoor
