/-
  NARROWER THAN 'FOR EVERY INPUT', by the rows' own cells (each row's printed sentence says how): FnExactPutText: ifaces, laid · FnExactFill: ifaces, laid · FnExactQuote: ifaces, laid · FnExactUnquote: ifaces, laid.
  DERIVED. THE GIVEN ROWS OF THIS SEAT. 4 by the template 'for every input the law returns true; each argument reads behind the call as it read before'; 0 by the template 'total and deterministic' (their statements: YtceplgnijcdbfahDoorTotals.lean).
  GIVEN WITH THE SEED: the statements are not yours to turn. If you find one false, say at which input.
  Laid BY PROGRAM, IN A SANDBOX (cutbox-rows.mjs): the forced cells as the released guide's own fill.sh prints them over the translation ad28f870f03a52dd… (all of the seat's roots in one cut). By AI agents, Wed Nov 11 2026. No macro, syntax, notation, axiom, sorry.
-/
import Derived.Test.YtceplgnijcdbfahDoorChecked
import GoSem.Claim
import GoSem.ClaimJoined
import GoSem.ClaimMapViews
import Derived.JoinedTies
import Derived.KernelRfl
namespace Go.Proofs.YtceplgnijcdbfahDoor
/- THE CELL 'sum', in the pinned program and in every row, IS THE sha256 OF THE DUMP (.gsa) THAT YtceplgnijcdbfahDoorProg.lean LOADS. Nothing in Lean hashes anything: it is a label: what it is worth is what the hold of that sum in a sandbox is worth. -/
noncomputable def Tryd.pinned : Pinned := { name := "ytceplgnijcdbfahdoor", sum := "ad28f870f03a52dd695eeadc8d718c53226072a6bbd5aa7542a47b6126119188", checked := Tryd.checked }
namespace Rows
def none {H : Type} : Left H := { results := [], args := [] }

/- WHAT THE LISTED PACKAGE-LEVEL VARIABLES READ AS WHEN THE CALL BEGINS. Each datum BY PROGRAM (the guide's laid-datum.mjs) off the statement by which the dump's own 'gosem.cut.vars' lays the variable. In a bare row this is a premise. The card (YtceplgnijcdbfahDoorCards.lean) ties it to the program's text. -/
def laid_loop_example_g00392_impl_errNoNumber {H : Type} : DataW H := .iface "*errors.errorString" (.ptr (.agg [.lit (.string [98, 121, 116, 101, 115, 58, 32, 110, 111, 116, 32, 97, 32, 110, 117, 109, 98, 101, 114])]))
def laid_loop_example_g00392_impl_errTooLong {H : Type} : DataW H := .iface "*errors.errorString" (.ptr (.agg [.lit (.string [98, 121, 116, 101, 115, 58, 32, 116, 111, 111, 32, 109, 97, 110, 121, 32, 98, 121, 116, 101, 115])]))
def laid_loop_example_g00392_impl_errNoSize {H : Type} : DataW H := .iface "*errors.errorString" (.ptr (.agg [.lit (.string [98, 121, 116, 101, 115, 58, 32, 110, 111, 116, 32, 97, 32, 115, 105, 122, 101])]))
def laid_loop_example_g00392_impl_errNoQuote {H : Type} : DataW H := .iface "*errors.errorString" (.ptr (.agg [.lit (.string [98, 121, 116, 101, 115, 58, 32, 110, 111, 116, 32, 97, 32, 113, 117, 111, 116, 101])]))

/-- 'laws.FnExactPutText': WHATEVER THE INPUT: true; the input reads as it did. -/
def fnExactPutTextSpec : ChangeSpec := { name := "fnExactPutText", vars := ["loop.example/g00392/impl.errTooLong", "loop.example/g00392/impl.errNoNumber"], fn := fun _ => fun
  | [d1, d2, g1, g2] => { results := [.lit (.bool true)], args := [d1, d2], vars := [g1, g2] }
  | _ => none }
def fnExactPutTextRow : OpenClaim := { program := "ytceplgnijcdbfahdoor", sum := "ad28f870f03a52dd695eeadc8d718c53226072a6bbd5aa7542a47b6126119188", func := "loop.example/g00392/laws.FnExactPutText", spec := "fnExactPutText", named := ["loop.example/g00392/impl.errTooLong", "loop.example/g00392/impl.errNoNumber"], ifaces := true, apart := false, laid := [("loop.example/g00392/impl.errNoNumber", laid_loop_example_g00392_impl_errNoNumber), ("loop.example/g00392/impl.errTooLong", laid_loop_example_g00392_impl_errTooLong)] }
def FnExactPutTextSaid : Prop := fnExactPutTextRow.holds Tryd.pinned (OpenSpec.ofChange fnExactPutTextSpec)

/-- ITS FALSE NEIGHBOUR: 'it returns false'. Refute it at one input. -/
def fnExactPutTextWrong : ChangeSpec := { name := "fnExactPutText", vars := ["loop.example/g00392/impl.errTooLong", "loop.example/g00392/impl.errNoNumber"], fn := fun _ => fun
  | [d1, d2, g1, g2] => { results := [.lit (.bool false)], args := [d1, d2], vars := [g1, g2] }
  | _ => none }
def FnExactPutTextWrongFalsely : Prop := fnExactPutTextRow.holds Tryd.pinned (OpenSpec.ofChange fnExactPutTextWrong)

/-- 'laws.FnExactFill': WHATEVER THE INPUT: true; the input reads as it did. -/
def fnExactFillSpec : ChangeSpec := { name := "fnExactFill", vars := ["loop.example/g00392/impl.errTooLong", "loop.example/g00392/impl.errNoSize"], fn := fun _ => fun
  | [d1, d2, g1, g2] => { results := [.lit (.bool true)], args := [d1, d2], vars := [g1, g2] }
  | _ => none }
def fnExactFillRow : OpenClaim := { program := "ytceplgnijcdbfahdoor", sum := "ad28f870f03a52dd695eeadc8d718c53226072a6bbd5aa7542a47b6126119188", func := "loop.example/g00392/laws.FnExactFill", spec := "fnExactFill", named := ["loop.example/g00392/impl.errTooLong", "loop.example/g00392/impl.errNoSize"], ifaces := true, apart := false, laid := [("loop.example/g00392/impl.errTooLong", laid_loop_example_g00392_impl_errTooLong), ("loop.example/g00392/impl.errNoSize", laid_loop_example_g00392_impl_errNoSize)] }
def FnExactFillSaid : Prop := fnExactFillRow.holds Tryd.pinned (OpenSpec.ofChange fnExactFillSpec)

/-- ITS FALSE NEIGHBOUR: 'it returns false'. Refute it at one input. -/
def fnExactFillWrong : ChangeSpec := { name := "fnExactFill", vars := ["loop.example/g00392/impl.errTooLong", "loop.example/g00392/impl.errNoSize"], fn := fun _ => fun
  | [d1, d2, g1, g2] => { results := [.lit (.bool false)], args := [d1, d2], vars := [g1, g2] }
  | _ => none }
def FnExactFillWrongFalsely : Prop := fnExactFillRow.holds Tryd.pinned (OpenSpec.ofChange fnExactFillWrong)

/-- 'laws.FnExactQuote': WHATEVER THE INPUT: true; the input reads as it did. -/
def fnExactQuoteSpec : ChangeSpec := { name := "fnExactQuote", vars := ["loop.example/g00392/impl.errTooLong"], fn := fun _ => fun
  | [d, g1] => { results := [.lit (.bool true)], args := [d], vars := [g1] }
  | _ => none }
def fnExactQuoteRow : OpenClaim := { program := "ytceplgnijcdbfahdoor", sum := "ad28f870f03a52dd695eeadc8d718c53226072a6bbd5aa7542a47b6126119188", func := "loop.example/g00392/laws.FnExactQuote", spec := "fnExactQuote", named := ["loop.example/g00392/impl.errTooLong"], ifaces := true, apart := false, laid := [("loop.example/g00392/impl.errTooLong", laid_loop_example_g00392_impl_errTooLong)] }
def FnExactQuoteSaid : Prop := fnExactQuoteRow.holds Tryd.pinned (OpenSpec.ofChange fnExactQuoteSpec)

/-- ITS FALSE NEIGHBOUR: 'it returns false'. Refute it at one input. -/
def fnExactQuoteWrong : ChangeSpec := { name := "fnExactQuote", vars := ["loop.example/g00392/impl.errTooLong"], fn := fun _ => fun
  | [d, g1] => { results := [.lit (.bool false)], args := [d], vars := [g1] }
  | _ => none }
def FnExactQuoteWrongFalsely : Prop := fnExactQuoteRow.holds Tryd.pinned (OpenSpec.ofChange fnExactQuoteWrong)

/-- 'laws.FnExactUnquote': WHATEVER THE INPUT: true; the input reads as it did. -/
def fnExactUnquoteSpec : ChangeSpec := { name := "fnExactUnquote", vars := ["loop.example/g00392/impl.errTooLong", "loop.example/g00392/impl.errNoQuote"], fn := fun _ => fun
  | [d, g1, g2] => { results := [.lit (.bool true)], args := [d], vars := [g1, g2] }
  | _ => none }
def fnExactUnquoteRow : OpenClaim := { program := "ytceplgnijcdbfahdoor", sum := "ad28f870f03a52dd695eeadc8d718c53226072a6bbd5aa7542a47b6126119188", func := "loop.example/g00392/laws.FnExactUnquote", spec := "fnExactUnquote", inPlace := ["internal/bytealg.IndexByteString"], named := ["loop.example/g00392/impl.errTooLong", "loop.example/g00392/impl.errNoQuote"], ifaces := true, apart := false, laid := [("loop.example/g00392/impl.errTooLong", laid_loop_example_g00392_impl_errTooLong), ("loop.example/g00392/impl.errNoQuote", laid_loop_example_g00392_impl_errNoQuote)] }
def FnExactUnquoteSaid : Prop := fnExactUnquoteRow.holds Tryd.pinned (OpenSpec.ofChange fnExactUnquoteSpec)

/-- ITS FALSE NEIGHBOUR: 'it returns false'. Refute it at one input. -/
def fnExactUnquoteWrong : ChangeSpec := { name := "fnExactUnquote", vars := ["loop.example/g00392/impl.errTooLong", "loop.example/g00392/impl.errNoQuote"], fn := fun _ => fun
  | [d, g1, g2] => { results := [.lit (.bool false)], args := [d], vars := [g1, g2] }
  | _ => none }
def FnExactUnquoteWrongFalsely : Prop := fnExactUnquoteRow.holds Tryd.pinned (OpenSpec.ofChange fnExactUnquoteWrong)

/- THE SECOND FORM. 'bulk': how many values and letters a reading holds, each counted each time it is reached (what is shared counts as often as it is met; a slice's spare places count too). A statement '..UptoSaid' is the law's where the arguments, and the package variables that the reading takes, are together of bulk at most 1048576: NARROWER than '..Said'. Prove '..Said' where nothing that the law and all that it calls make is longer than what came in: it says more and counts as full. Else prove '..UptoSaid'. A law counts once. -/
mutual
def uptoBulk {H : Type} : DataW H → Nat
  | .lit (.string bytes) => bytes.length + 1
  | .lit _ => 1
  | .nil => 1
  | .ptr d => uptoBulk d + 1
  | .slice elems spare => uptoBulkAll elems + uptoBulkAll spare + 1
  | .agg parts => uptoBulkAll parts + 1
  | .iface _ d => uptoBulk d + 1
  | .map entries => uptoBulkEntries entries + 1
  | .held _ => 1
def uptoBulkAll {H : Type} : List (DataW H) → Nat
  | [] => 0
  | d :: r => uptoBulk d + uptoBulkAll r
def uptoBulkEntries {H : Type} : List (Lit × DataW H) → Nat
  | [] => 0
  | x :: r => uptoBulkEntry x + uptoBulkEntries r
def uptoBulkEntry {H : Type} : Lit × DataW H → Nat
  | (.string bytes, d) => bytes.length + uptoBulk d + 1
  | (_, d) => uptoBulk d + 1
 end
def uptoSmall : (H : Type) → List (DataW H) → Bool := fun _ ds => decide (uptoBulkAll ds ≤ 1048576)
def OpenSpec.upto (s : _root_.Go.ChangeSpec) : _root_.Go.OpenSpec := { _root_.Go.OpenSpec.ofChange s with cond := some uptoSmall }

/-- 'laws.FnExactPutText', WHERE WHAT IT READS IS OF BULK AT MOST 1048576: true; the input reads as it did. -/
def fnExactPutTextUptoRow : OpenClaim := { program := "ytceplgnijcdbfahdoor", sum := "ad28f870f03a52dd695eeadc8d718c53226072a6bbd5aa7542a47b6126119188", func := "loop.example/g00392/laws.FnExactPutText", spec := "fnExactPutText", named := ["loop.example/g00392/impl.errTooLong", "loop.example/g00392/impl.errNoNumber"], ifaces := true, apart := false, laid := [("loop.example/g00392/impl.errNoNumber", laid_loop_example_g00392_impl_errNoNumber), ("loop.example/g00392/impl.errTooLong", laid_loop_example_g00392_impl_errTooLong)], narrowed := true }
def FnExactPutTextUptoSaid : Prop := fnExactPutTextUptoRow.holds Tryd.pinned (OpenSpec.upto fnExactPutTextSpec)

/-- 'laws.FnExactFill', WHERE WHAT IT READS IS OF BULK AT MOST 1048576: true; the input reads as it did. -/
def fnExactFillUptoRow : OpenClaim := { program := "ytceplgnijcdbfahdoor", sum := "ad28f870f03a52dd695eeadc8d718c53226072a6bbd5aa7542a47b6126119188", func := "loop.example/g00392/laws.FnExactFill", spec := "fnExactFill", named := ["loop.example/g00392/impl.errTooLong", "loop.example/g00392/impl.errNoSize"], ifaces := true, apart := false, laid := [("loop.example/g00392/impl.errTooLong", laid_loop_example_g00392_impl_errTooLong), ("loop.example/g00392/impl.errNoSize", laid_loop_example_g00392_impl_errNoSize)], narrowed := true }
def FnExactFillUptoSaid : Prop := fnExactFillUptoRow.holds Tryd.pinned (OpenSpec.upto fnExactFillSpec)

/-- 'laws.FnExactQuote', WHERE WHAT IT READS IS OF BULK AT MOST 1048576: true; the input reads as it did. -/
def fnExactQuoteUptoRow : OpenClaim := { program := "ytceplgnijcdbfahdoor", sum := "ad28f870f03a52dd695eeadc8d718c53226072a6bbd5aa7542a47b6126119188", func := "loop.example/g00392/laws.FnExactQuote", spec := "fnExactQuote", named := ["loop.example/g00392/impl.errTooLong"], ifaces := true, apart := false, laid := [("loop.example/g00392/impl.errTooLong", laid_loop_example_g00392_impl_errTooLong)], narrowed := true }
def FnExactQuoteUptoSaid : Prop := fnExactQuoteUptoRow.holds Tryd.pinned (OpenSpec.upto fnExactQuoteSpec)

/-- 'laws.FnExactUnquote', WHERE WHAT IT READS IS OF BULK AT MOST 1048576: true; the input reads as it did. -/
def fnExactUnquoteUptoRow : OpenClaim := { program := "ytceplgnijcdbfahdoor", sum := "ad28f870f03a52dd695eeadc8d718c53226072a6bbd5aa7542a47b6126119188", func := "loop.example/g00392/laws.FnExactUnquote", spec := "fnExactUnquote", inPlace := ["internal/bytealg.IndexByteString"], named := ["loop.example/g00392/impl.errTooLong", "loop.example/g00392/impl.errNoQuote"], ifaces := true, apart := false, laid := [("loop.example/g00392/impl.errTooLong", laid_loop_example_g00392_impl_errTooLong), ("loop.example/g00392/impl.errNoQuote", laid_loop_example_g00392_impl_errNoQuote)], narrowed := true }
def FnExactUnquoteUptoSaid : Prop := fnExactUnquoteUptoRow.holds Tryd.pinned (OpenSpec.upto fnExactUnquoteSpec)

end Rows
end Go.Proofs.YtceplgnijcdbfahDoor
