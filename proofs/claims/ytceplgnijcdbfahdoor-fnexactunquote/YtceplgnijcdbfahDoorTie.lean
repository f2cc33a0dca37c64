/-
  DERIVED. GIVEN WITH THE SEED: THE PROGRAM's TIES (one call each: nine closed facts by the kernel) AND EACH ROW's TIE, after the 31st guide's Derived/Test/Toyas{Tie, Card}.lean. No idea stands in it: it is a product of the set-up. Laid BY PROGRAM, IN A SANDBOX (cutbox-door.mjs). By AI agents, Wed Nov 11 2026. No macro, syntax, notation, axiom, sorry.
-/
import Derived.Test.YtceplgnijcdbfahDoorRows
import Derived.LaidByTextLater
import Derived.SevenTiedAt
import Derived.LaidSub
import Derived.LaidOnce
namespace Go.Proofs.YtceplgnijcdbfahDoor
open Go
set_option maxRecDepth 100000
theorem seatTie1 : Tryd.prog.laidByTextLater [("loop.example/g00392/impl.errNoNumber", Rows.laid_loop_example_g00392_impl_errNoNumber), ("loop.example/g00392/impl.errTooLong", Rows.laid_loop_example_g00392_impl_errTooLong), ("loop.example/g00392/impl.errNoSize", Rows.laid_loop_example_g00392_impl_errNoSize), ("loop.example/g00392/impl.errNoQuote", Rows.laid_loop_example_g00392_impl_errNoQuote)] [.sentinel, .sentinel, .sentinel, .sentinel] true :=
  Program.laidByTextLater_by_one 85 8 2 (by kernel_rfl) (by kernel_rfl) (by kernel_rfl) (by kernel_rfl) (by kernel_rfl) (by kernel_rfl) (fun _ _ => by kernel_rfl)
theorem noOwnUnsafe : Tryd.pinned.checked.prog.headLifts.contains "ownunsafe" = false := by kernel_rfl
theorem tie : Tryd.prog.laidByTextLater [("loop.example/g00392/impl.errNoNumber", Rows.laid_loop_example_g00392_impl_errNoNumber), ("loop.example/g00392/impl.errTooLong", Rows.laid_loop_example_g00392_impl_errTooLong)] [.sentinel, .sentinel] true :=
  Program.laidByTextLater.sub seatTie1 ["loop.example/g00392/impl.errNoNumber", "loop.example/g00392/impl.errTooLong"] (by kernel_rfl) (by kernel_rfl)
theorem fnExactPutText_row_tie : Rows.fnExactPutTextRow.laidByTextAt .later Tryd.pinned [.sentinel, .sentinel] true :=
  OpenClaim.laidByTextAt_later rfl rfl tie noOwnUnsafe
theorem tie2 : Tryd.prog.laidByTextLater [("loop.example/g00392/impl.errTooLong", Rows.laid_loop_example_g00392_impl_errTooLong), ("loop.example/g00392/impl.errNoSize", Rows.laid_loop_example_g00392_impl_errNoSize)] [.sentinel, .sentinel] true :=
  Program.laidByTextLater.sub seatTie1 ["loop.example/g00392/impl.errTooLong", "loop.example/g00392/impl.errNoSize"] (by kernel_rfl) (by kernel_rfl)
theorem fnExactFill_row_tie : Rows.fnExactFillRow.laidByTextAt .later Tryd.pinned [.sentinel, .sentinel] true :=
  OpenClaim.laidByTextAt_later rfl rfl tie2 noOwnUnsafe
theorem tie3 : Tryd.prog.laidByTextLater [("loop.example/g00392/impl.errTooLong", Rows.laid_loop_example_g00392_impl_errTooLong)] [.sentinel] true :=
  Program.laidByTextLater.sub seatTie1 ["loop.example/g00392/impl.errTooLong"] (by kernel_rfl) (by kernel_rfl)
theorem fnExactQuote_row_tie : Rows.fnExactQuoteRow.laidByTextAt .later Tryd.pinned [.sentinel] true :=
  OpenClaim.laidByTextAt_later rfl rfl tie3 noOwnUnsafe
theorem tie4 : Tryd.prog.laidByTextLater [("loop.example/g00392/impl.errTooLong", Rows.laid_loop_example_g00392_impl_errTooLong), ("loop.example/g00392/impl.errNoQuote", Rows.laid_loop_example_g00392_impl_errNoQuote)] [.sentinel, .sentinel] true :=
  Program.laidByTextLater.sub seatTie1 ["loop.example/g00392/impl.errTooLong", "loop.example/g00392/impl.errNoQuote"] (by kernel_rfl) (by kernel_rfl)
theorem fnExactUnquote_row_tie : Rows.fnExactUnquoteRow.laidByTextAt .later Tryd.pinned [.sentinel, .sentinel] true :=
  OpenClaim.laidByTextAt_later rfl rfl tie4 noOwnUnsafe
theorem fnExactPutTextUpto_row_tie : Rows.fnExactPutTextUptoRow.laidByTextAt .later Tryd.pinned [.sentinel, .sentinel] true :=
  OpenClaim.laidByTextAt_later rfl rfl tie noOwnUnsafe
theorem fnExactFillUpto_row_tie : Rows.fnExactFillUptoRow.laidByTextAt .later Tryd.pinned [.sentinel, .sentinel] true :=
  OpenClaim.laidByTextAt_later rfl rfl tie2 noOwnUnsafe
theorem fnExactQuoteUpto_row_tie : Rows.fnExactQuoteUptoRow.laidByTextAt .later Tryd.pinned [.sentinel] true :=
  OpenClaim.laidByTextAt_later rfl rfl tie3 noOwnUnsafe
theorem fnExactUnquoteUpto_row_tie : Rows.fnExactUnquoteUptoRow.laidByTextAt .later Tryd.pinned [.sentinel, .sentinel] true :=
  OpenClaim.laidByTextAt_later rfl rfl tie4 noOwnUnsafe
end Go.Proofs.YtceplgnijcdbfahDoor
