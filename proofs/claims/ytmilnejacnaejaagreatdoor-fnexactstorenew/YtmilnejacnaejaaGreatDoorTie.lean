/-
  DERIVED. GIVEN WITH THE SEED: THE PROGRAM's TIES (one call each: nine closed facts by the kernel) AND EACH ROW's TIE, after the 31st guide's Derived/Test/Toyas{Tie, Card}.lean. No idea stands in it: it is a product of the set-up. Laid BY PROGRAM, IN A SANDBOX (cutbox-door.mjs). By AI agents, Wed Nov 11 2026. No macro, syntax, notation, axiom, sorry.
-/
import Derived.Test.YtmilnejacnaejaaGreatDoorRows
import Derived.LaidByTextLater
import Derived.SevenTiedAt
import Derived.LaidSub
import Derived.LaidOnce
namespace Go.Proofs.YtmilnejacnaejaaGreatDoor
open Go
set_option maxRecDepth 100000
theorem seatTie1 : Tryz.prog.laidByTextLater [("loop.example/g00392/impl.errNoNumber", Rows.laid_loop_example_g00392_impl_errNoNumber), ("loop.example/g00392/impl.errTooLong", Rows.laid_loop_example_g00392_impl_errTooLong), ("loop.example/g00392/impl.errNoSize", Rows.laid_loop_example_g00392_impl_errNoSize), ("loop.example/g00392/impl.errNoPage", Rows.laid_loop_example_g00392_impl_errNoPage)] [.sentinel, .sentinel, .sentinel, .sentinel] true :=
  Program.laidByTextLater_by_one 85 8 2 (by kernel_rfl) (by kernel_rfl) (by kernel_rfl) (by kernel_rfl) (by kernel_rfl) (by kernel_rfl) (fun _ _ => by kernel_rfl)
theorem noOwnUnsafe : Tryz.pinned.checked.prog.headLifts.contains "ownunsafe" = false := by kernel_rfl
theorem tie : Tryz.prog.laidByTextLater [("loop.example/g00392/impl.errNoNumber", Rows.laid_loop_example_g00392_impl_errNoNumber), ("loop.example/g00392/impl.errTooLong", Rows.laid_loop_example_g00392_impl_errTooLong), ("loop.example/g00392/impl.errNoSize", Rows.laid_loop_example_g00392_impl_errNoSize), ("loop.example/g00392/impl.errNoPage", Rows.laid_loop_example_g00392_impl_errNoPage)] [.sentinel, .sentinel, .sentinel, .sentinel] true :=
  Program.laidByTextLater.sub seatTie1 ["loop.example/g00392/impl.errNoNumber", "loop.example/g00392/impl.errTooLong", "loop.example/g00392/impl.errNoSize", "loop.example/g00392/impl.errNoPage"] (by kernel_rfl) (by kernel_rfl)
theorem fnExactStoreNew_row_tie : Rows.fnExactStoreNewRow.laidByTextAt .later Tryz.pinned [.sentinel, .sentinel, .sentinel, .sentinel] true :=
  OpenClaim.laidByTextAt_later rfl rfl tie noOwnUnsafe
theorem fnExactLay_row_tie : Rows.fnExactLayRow.laidByTextAt .later Tryz.pinned [.sentinel, .sentinel, .sentinel, .sentinel] true :=
  OpenClaim.laidByTextAt_later rfl rfl tie noOwnUnsafe
theorem fnExactPlanOf_row_tie : Rows.fnExactPlanOfRow.laidByTextAt .later Tryz.pinned [.sentinel, .sentinel, .sentinel, .sentinel] true :=
  OpenClaim.laidByTextAt_later rfl rfl tie noOwnUnsafe
theorem fnExactStoreNewUpto_row_tie : Rows.fnExactStoreNewUptoRow.laidByTextAt .later Tryz.pinned [.sentinel, .sentinel, .sentinel, .sentinel] true :=
  OpenClaim.laidByTextAt_later rfl rfl tie noOwnUnsafe
theorem fnExactLayUpto_row_tie : Rows.fnExactLayUptoRow.laidByTextAt .later Tryz.pinned [.sentinel, .sentinel, .sentinel, .sentinel] true :=
  OpenClaim.laidByTextAt_later rfl rfl tie noOwnUnsafe
theorem fnExactPlanOfUpto_row_tie : Rows.fnExactPlanOfUptoRow.laidByTextAt .later Tryz.pinned [.sentinel, .sentinel, .sentinel, .sentinel] true :=
  OpenClaim.laidByTextAt_later rfl rfl tie noOwnUnsafe
end Go.Proofs.YtmilnejacnaejaaGreatDoor
