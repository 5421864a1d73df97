/-
  DERIVED. GIVEN WITH THE SEED: THE PROGRAM's TIES (one call each: nine closed facts by the kernel) AND EACH ROW's TIE, after the 31st guide's Derived/Test/Toyas{Tie, Card}.lean. No idea stands in it: it is a product of the set-up. Laid BY PROGRAM, IN A SANDBOX (cutbox-door.mjs). By AI agents, Wed Nov 11 2026. No macro, syntax, notation, axiom, sorry.
-/
import Derived.Test.YtohaghlhdkfkbacDoorRows
import Derived.LaidByTextLater
import Derived.SevenTiedAt
import Derived.LaidSub
import Derived.LaidOnce
namespace Go.Proofs.YtohaghlhdkfkbacDoor
open Go
set_option maxRecDepth 100000
theorem seatTie1 : Tryd.prog.laidByTextLater [("loop.example/g00651/impl.dayNames", Rows.laid_loop_example_g00651_impl_dayNames), ("loop.example/g00651/impl.monthNames", Rows.laid_loop_example_g00651_impl_monthNames), ("loop.example/g00651/impl.monthLengths", Rows.laid_loop_example_g00651_impl_monthLengths)] [.data, .data, .data] true :=
  Program.laidByTextLater_by_one 24 8 14 (by kernel_rfl) (by kernel_rfl) (by kernel_rfl) (by kernel_rfl) (by kernel_rfl) (by kernel_rfl) (fun _ _ => by kernel_rfl)
theorem noOwnUnsafe : Tryd.pinned.checked.prog.headLifts.contains "ownunsafe" = false := by kernel_rfl
theorem tie : Tryd.prog.laidByTextLater [("loop.example/g00651/impl.dayNames", Rows.laid_loop_example_g00651_impl_dayNames), ("loop.example/g00651/impl.monthNames", Rows.laid_loop_example_g00651_impl_monthNames), ("loop.example/g00651/impl.monthLengths", Rows.laid_loop_example_g00651_impl_monthLengths)] [.data, .data, .data] true :=
  Program.laidByTextLater.sub seatTie1 ["loop.example/g00651/impl.dayNames", "loop.example/g00651/impl.monthNames", "loop.example/g00651/impl.monthLengths"] (by kernel_rfl) (by kernel_rfl)
theorem fnExactReadHttpDate_row_tie : Rows.fnExactReadHttpDateRow.laidByTextAt .later Tryd.pinned [.data, .data, .data] true :=
  OpenClaim.laidByTextAt_later rfl rfl tie noOwnUnsafe
theorem tie2 : Tryd.prog.laidByTextLater [("loop.example/g00651/impl.monthLengths", Rows.laid_loop_example_g00651_impl_monthLengths)] [.data] true :=
  Program.laidByTextLater.sub seatTie1 ["loop.example/g00651/impl.monthLengths"] (by kernel_rfl) (by kernel_rfl)
theorem fnExactWarcDate_row_tie : Rows.fnExactWarcDateRow.laidByTextAt .later Tryd.pinned [.data] true :=
  OpenClaim.laidByTextAt_later rfl rfl tie2 noOwnUnsafe
theorem fnExactReadWarcDate_row_tie : Rows.fnExactReadWarcDateRow.laidByTextAt .later Tryd.pinned [.data] true :=
  OpenClaim.laidByTextAt_later rfl rfl tie2 noOwnUnsafe
theorem fnExactStamp_row_tie : Rows.fnExactStampRow.laidByTextAt .later Tryd.pinned [.data] true :=
  OpenClaim.laidByTextAt_later rfl rfl tie2 noOwnUnsafe
theorem fnExactReadStamp_row_tie : Rows.fnExactReadStampRow.laidByTextAt .later Tryd.pinned [.data] true :=
  OpenClaim.laidByTextAt_later rfl rfl tie2 noOwnUnsafe
theorem fnExactReadHttpDateUpto_row_tie : Rows.fnExactReadHttpDateUptoRow.laidByTextAt .later Tryd.pinned [.data, .data, .data] true :=
  OpenClaim.laidByTextAt_later rfl rfl tie noOwnUnsafe
theorem fnExactWarcDateUpto_row_tie : Rows.fnExactWarcDateUptoRow.laidByTextAt .later Tryd.pinned [.data] true :=
  OpenClaim.laidByTextAt_later rfl rfl tie2 noOwnUnsafe
theorem fnExactReadWarcDateUpto_row_tie : Rows.fnExactReadWarcDateUptoRow.laidByTextAt .later Tryd.pinned [.data] true :=
  OpenClaim.laidByTextAt_later rfl rfl tie2 noOwnUnsafe
theorem fnExactStampUpto_row_tie : Rows.fnExactStampUptoRow.laidByTextAt .later Tryd.pinned [.data] true :=
  OpenClaim.laidByTextAt_later rfl rfl tie2 noOwnUnsafe
theorem fnExactReadStampUpto_row_tie : Rows.fnExactReadStampUptoRow.laidByTextAt .later Tryd.pinned [.data] true :=
  OpenClaim.laidByTextAt_later rfl rfl tie2 noOwnUnsafe
end Go.Proofs.YtohaghlhdkfkbacDoor
