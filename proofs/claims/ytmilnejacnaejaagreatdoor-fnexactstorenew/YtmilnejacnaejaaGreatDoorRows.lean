/-
  NARROWER THAN 'FOR EVERY INPUT', by the rows' own cells (each row's printed sentence says how): FnExactStoreNew: ifaces, laid · FnExactLay: ifaces, laid · FnExactPlanOf: ifaces, laid.
  DERIVED. THE GIVEN ROWS OF THIS SEAT. 3 by the template 'for every input the law returns true; each argument reads behind the call as it read before'; 0 by the template 'total and deterministic' (their statements: YtmilnejacnaejaaGreatDoorTotals.lean).
  GIVEN WITH THE SEED: the statements are not yours to turn. If you find one false, say at which input.
  Laid BY PROGRAM, IN A SANDBOX (cutbox-rows.mjs): the forced cells as the released guide's own fill.sh prints them over the translation 6c07309328771160… (all of the seat's roots in one cut). By AI agents, Wed Nov 11 2026. No macro, syntax, notation, axiom, sorry.
-/
import Derived.Test.YtmilnejacnaejaaGreatDoorChecked
import GoSem.Claim
import GoSem.ClaimJoined
import GoSem.ClaimMapViews
import Derived.JoinedTies
import Derived.KernelRfl
namespace Go.Proofs.YtmilnejacnaejaaGreatDoor
/- THE CELL 'sum', in the pinned program and in every row, IS THE sha256 OF THE DUMP (.gsa) THAT YtmilnejacnaejaaGreatDoorProg.lean LOADS. Nothing in Lean hashes anything: it is a label: what it is worth is what the hold of that sum in a sandbox is worth. -/
noncomputable def Tryz.pinned : Pinned := { name := "ytmilnejacnaejaagreatdoor", sum := "6c0730932877116098f77265527f081ffe787cae0546bba8129dd7c3157ceeda", checked := Tryz.checked }
namespace Rows
def none {H : Type} : Left H := { results := [], args := [] }

/- WHAT THE LISTED PACKAGE-LEVEL VARIABLES READ AS WHEN THE CALL BEGINS. Each datum BY PROGRAM (the guide's laid-datum.mjs) off the statement by which the dump's own 'gosem.cut.vars' lays the variable. In a bare row this is a premise. The card (YtmilnejacnaejaaGreatDoorCards.lean) ties it to the program's text. -/
def laid_loop_example_g00392_impl_errNoNumber {H : Type} : DataW H := .iface "*errors.errorString" (.ptr (.agg [.lit (.string [98, 121, 116, 101, 115, 58, 32, 110, 111, 116, 32, 97, 32, 110, 117, 109, 98, 101, 114])]))
def laid_loop_example_g00392_impl_errTooLong {H : Type} : DataW H := .iface "*errors.errorString" (.ptr (.agg [.lit (.string [98, 121, 116, 101, 115, 58, 32, 116, 111, 111, 32, 109, 97, 110, 121, 32, 98, 121, 116, 101, 115])]))
def laid_loop_example_g00392_impl_errNoSize {H : Type} : DataW H := .iface "*errors.errorString" (.ptr (.agg [.lit (.string [98, 121, 116, 101, 115, 58, 32, 110, 111, 116, 32, 97, 32, 115, 105, 122, 101])]))
def laid_loop_example_g00392_impl_errNoPage {H : Type} : DataW H := .iface "*errors.errorString" (.ptr (.agg [.lit (.string [112, 97, 103, 101, 58, 32, 110, 111, 116, 32, 97, 32, 112, 97, 103, 101])]))

/-- 'laws.FnExactStoreNew': WHATEVER THE INPUT: true; the input reads as it did. -/
def fnExactStoreNewSpec : ChangeSpec := { name := "fnExactStoreNew", vars := ["loop.example/g00392/impl.errTooLong", "loop.example/g00392/impl.errNoSize", "loop.example/g00392/impl.errNoPage", "loop.example/g00392/impl.errNoNumber"], fn := fun _ => fun
  | [d, g1, g2, g3, g4] => { results := [.lit (.bool true)], args := [d], vars := [g1, g2, g3, g4] }
  | _ => none }
def fnExactStoreNewRow : OpenClaim := { program := "ytmilnejacnaejaagreatdoor", sum := "6c0730932877116098f77265527f081ffe787cae0546bba8129dd7c3157ceeda", func := "loop.example/g00392/laws.FnExactStoreNew", spec := "fnExactStoreNew", unfollowed := true, recurses := true, named := ["loop.example/g00392/impl.errTooLong", "loop.example/g00392/impl.errNoSize", "loop.example/g00392/impl.errNoPage", "loop.example/g00392/impl.errNoNumber"], ifaces := true, apart := false, laid := [("loop.example/g00392/impl.errNoNumber", laid_loop_example_g00392_impl_errNoNumber), ("loop.example/g00392/impl.errTooLong", laid_loop_example_g00392_impl_errTooLong), ("loop.example/g00392/impl.errNoSize", laid_loop_example_g00392_impl_errNoSize), ("loop.example/g00392/impl.errNoPage", laid_loop_example_g00392_impl_errNoPage)] }
def FnExactStoreNewSaid : Prop := fnExactStoreNewRow.holds Tryz.pinned (OpenSpec.ofChange fnExactStoreNewSpec)

/-- ITS FALSE NEIGHBOUR: 'it returns false'. Refute it at one input. -/
def fnExactStoreNewWrong : ChangeSpec := { name := "fnExactStoreNew", vars := ["loop.example/g00392/impl.errTooLong", "loop.example/g00392/impl.errNoSize", "loop.example/g00392/impl.errNoPage", "loop.example/g00392/impl.errNoNumber"], fn := fun _ => fun
  | [d, g1, g2, g3, g4] => { results := [.lit (.bool false)], args := [d], vars := [g1, g2, g3, g4] }
  | _ => none }
def FnExactStoreNewWrongFalsely : Prop := fnExactStoreNewRow.holds Tryz.pinned (OpenSpec.ofChange fnExactStoreNewWrong)

/-- 'laws.FnExactLay': WHATEVER THE INPUT: true; the input reads as it did. -/
def fnExactLaySpec : ChangeSpec := { name := "fnExactLay", vars := ["loop.example/g00392/impl.errTooLong", "loop.example/g00392/impl.errNoSize", "loop.example/g00392/impl.errNoPage", "loop.example/g00392/impl.errNoNumber"], fn := fun _ => fun
  | [d1, d2, g1, g2, g3, g4] => { results := [.lit (.bool true)], args := [d1, d2], vars := [g1, g2, g3, g4] }
  | _ => none }
def fnExactLayRow : OpenClaim := { program := "ytmilnejacnaejaagreatdoor", sum := "6c0730932877116098f77265527f081ffe787cae0546bba8129dd7c3157ceeda", func := "loop.example/g00392/laws.FnExactLay", spec := "fnExactLay", unfollowed := true, recurses := true, named := ["loop.example/g00392/impl.errTooLong", "loop.example/g00392/impl.errNoSize", "loop.example/g00392/impl.errNoPage", "loop.example/g00392/impl.errNoNumber"], ifaces := true, apart := false, laid := [("loop.example/g00392/impl.errNoNumber", laid_loop_example_g00392_impl_errNoNumber), ("loop.example/g00392/impl.errTooLong", laid_loop_example_g00392_impl_errTooLong), ("loop.example/g00392/impl.errNoSize", laid_loop_example_g00392_impl_errNoSize), ("loop.example/g00392/impl.errNoPage", laid_loop_example_g00392_impl_errNoPage)] }
def FnExactLaySaid : Prop := fnExactLayRow.holds Tryz.pinned (OpenSpec.ofChange fnExactLaySpec)

/-- ITS FALSE NEIGHBOUR: 'it returns false'. Refute it at one input. -/
def fnExactLayWrong : ChangeSpec := { name := "fnExactLay", vars := ["loop.example/g00392/impl.errTooLong", "loop.example/g00392/impl.errNoSize", "loop.example/g00392/impl.errNoPage", "loop.example/g00392/impl.errNoNumber"], fn := fun _ => fun
  | [d1, d2, g1, g2, g3, g4] => { results := [.lit (.bool false)], args := [d1, d2], vars := [g1, g2, g3, g4] }
  | _ => none }
def FnExactLayWrongFalsely : Prop := fnExactLayRow.holds Tryz.pinned (OpenSpec.ofChange fnExactLayWrong)

/-- 'laws.FnExactPlanOf': WHATEVER THE INPUT: true; the input reads as it did. -/
def fnExactPlanOfSpec : ChangeSpec := { name := "fnExactPlanOf", vars := ["loop.example/g00392/impl.errTooLong", "loop.example/g00392/impl.errNoSize", "loop.example/g00392/impl.errNoPage", "loop.example/g00392/impl.errNoNumber"], fn := fun _ => fun
  | [d1, d2, g1, g2, g3, g4] => { results := [.lit (.bool true)], args := [d1, d2], vars := [g1, g2, g3, g4] }
  | _ => none }
def fnExactPlanOfRow : OpenClaim := { program := "ytmilnejacnaejaagreatdoor", sum := "6c0730932877116098f77265527f081ffe787cae0546bba8129dd7c3157ceeda", func := "loop.example/g00392/laws.FnExactPlanOf", spec := "fnExactPlanOf", inPlace := ["internal/bytealg.abigen_runtime_cmpstring", "slices.overlaps[loop.example/g00392/impl.Pair]", "slices.overlaps[*loop.example/g00392/impl.limb]"], unfollowed := true, recurses := true, named := ["loop.example/g00392/impl.errTooLong", "loop.example/g00392/impl.errNoSize", "loop.example/g00392/impl.errNoPage", "loop.example/g00392/impl.errNoNumber"], ifaces := true, apart := false, laid := [("loop.example/g00392/impl.errNoNumber", laid_loop_example_g00392_impl_errNoNumber), ("loop.example/g00392/impl.errTooLong", laid_loop_example_g00392_impl_errTooLong), ("loop.example/g00392/impl.errNoSize", laid_loop_example_g00392_impl_errNoSize), ("loop.example/g00392/impl.errNoPage", laid_loop_example_g00392_impl_errNoPage)] }
def FnExactPlanOfSaid : Prop := fnExactPlanOfRow.holds Tryz.pinned (OpenSpec.ofChange fnExactPlanOfSpec)

/-- ITS FALSE NEIGHBOUR: 'it returns false'. Refute it at one input. -/
def fnExactPlanOfWrong : ChangeSpec := { name := "fnExactPlanOf", vars := ["loop.example/g00392/impl.errTooLong", "loop.example/g00392/impl.errNoSize", "loop.example/g00392/impl.errNoPage", "loop.example/g00392/impl.errNoNumber"], fn := fun _ => fun
  | [d1, d2, g1, g2, g3, g4] => { results := [.lit (.bool false)], args := [d1, d2], vars := [g1, g2, g3, g4] }
  | _ => none }
def FnExactPlanOfWrongFalsely : Prop := fnExactPlanOfRow.holds Tryz.pinned (OpenSpec.ofChange fnExactPlanOfWrong)

/- THE SECOND FORM. 'bulk': how many values and letters a reading holds, each counted each time it is reached (what is shared counts as often as it is met; a slice's spare places count too). A statement '..UptoSaid' is the law's where the arguments, and the package variables that the reading takes, are together of bulk at most 1048576: NARROWER than '..Said'. Prove '..Said' where nothing that the law and all that it calls make is longer than what came in: it says more and counts as full. Else prove '..UptoSaid'. A law counts once. -/
mutual
def uptoBulk {H : Type} : DataW H → Nat
  | .lit (.string bytes) => bytes.length + 1
  | .lit _ => 1
  | .nil => 1
  | .ptr d => uptoBulk d + 1
  | .slice elems spare => uptoBulkAll elems + uptoBulkAll spare + 1
  | .agg parts => uptoBulkAll parts + 1
  | .iface _ d => uptoBulk d + 1
  | .map entries => uptoBulkEntries entries + 1
  | .held _ => 1
def uptoBulkAll {H : Type} : List (DataW H) → Nat
  | [] => 0
  | d :: r => uptoBulk d + uptoBulkAll r
def uptoBulkEntries {H : Type} : List (Lit × DataW H) → Nat
  | [] => 0
  | x :: r => uptoBulkEntry x + uptoBulkEntries r
def uptoBulkEntry {H : Type} : Lit × DataW H → Nat
  | (.string bytes, d) => bytes.length + uptoBulk d + 1
  | (_, d) => uptoBulk d + 1
 end
def uptoSmall : (H : Type) → List (DataW H) → Bool := fun _ ds => decide (uptoBulkAll ds ≤ 1048576)
def OpenSpec.upto (s : _root_.Go.ChangeSpec) : _root_.Go.OpenSpec := { _root_.Go.OpenSpec.ofChange s with cond := some uptoSmall }

/-- 'laws.FnExactStoreNew', WHERE WHAT IT READS IS OF BULK AT MOST 1048576: true; the input reads as it did. -/
def fnExactStoreNewUptoRow : OpenClaim := { program := "ytmilnejacnaejaagreatdoor", sum := "6c0730932877116098f77265527f081ffe787cae0546bba8129dd7c3157ceeda", func := "loop.example/g00392/laws.FnExactStoreNew", spec := "fnExactStoreNew", unfollowed := true, recurses := true, named := ["loop.example/g00392/impl.errTooLong", "loop.example/g00392/impl.errNoSize", "loop.example/g00392/impl.errNoPage", "loop.example/g00392/impl.errNoNumber"], ifaces := true, apart := false, laid := [("loop.example/g00392/impl.errNoNumber", laid_loop_example_g00392_impl_errNoNumber), ("loop.example/g00392/impl.errTooLong", laid_loop_example_g00392_impl_errTooLong), ("loop.example/g00392/impl.errNoSize", laid_loop_example_g00392_impl_errNoSize), ("loop.example/g00392/impl.errNoPage", laid_loop_example_g00392_impl_errNoPage)], narrowed := true }
def FnExactStoreNewUptoSaid : Prop := fnExactStoreNewUptoRow.holds Tryz.pinned (OpenSpec.upto fnExactStoreNewSpec)

/-- 'laws.FnExactLay', WHERE WHAT IT READS IS OF BULK AT MOST 1048576: true; the input reads as it did. -/
def fnExactLayUptoRow : OpenClaim := { program := "ytmilnejacnaejaagreatdoor", sum := "6c0730932877116098f77265527f081ffe787cae0546bba8129dd7c3157ceeda", func := "loop.example/g00392/laws.FnExactLay", spec := "fnExactLay", unfollowed := true, recurses := true, named := ["loop.example/g00392/impl.errTooLong", "loop.example/g00392/impl.errNoSize", "loop.example/g00392/impl.errNoPage", "loop.example/g00392/impl.errNoNumber"], ifaces := true, apart := false, laid := [("loop.example/g00392/impl.errNoNumber", laid_loop_example_g00392_impl_errNoNumber), ("loop.example/g00392/impl.errTooLong", laid_loop_example_g00392_impl_errTooLong), ("loop.example/g00392/impl.errNoSize", laid_loop_example_g00392_impl_errNoSize), ("loop.example/g00392/impl.errNoPage", laid_loop_example_g00392_impl_errNoPage)], narrowed := true }
def FnExactLayUptoSaid : Prop := fnExactLayUptoRow.holds Tryz.pinned (OpenSpec.upto fnExactLaySpec)

/-- 'laws.FnExactPlanOf', WHERE WHAT IT READS IS OF BULK AT MOST 1048576: true; the input reads as it did. -/
def fnExactPlanOfUptoRow : OpenClaim := { program := "ytmilnejacnaejaagreatdoor", sum := "6c0730932877116098f77265527f081ffe787cae0546bba8129dd7c3157ceeda", func := "loop.example/g00392/laws.FnExactPlanOf", spec := "fnExactPlanOf", inPlace := ["internal/bytealg.abigen_runtime_cmpstring", "slices.overlaps[loop.example/g00392/impl.Pair]", "slices.overlaps[*loop.example/g00392/impl.limb]"], unfollowed := true, recurses := true, named := ["loop.example/g00392/impl.errTooLong", "loop.example/g00392/impl.errNoSize", "loop.example/g00392/impl.errNoPage", "loop.example/g00392/impl.errNoNumber"], ifaces := true, apart := false, laid := [("loop.example/g00392/impl.errNoNumber", laid_loop_example_g00392_impl_errNoNumber), ("loop.example/g00392/impl.errTooLong", laid_loop_example_g00392_impl_errTooLong), ("loop.example/g00392/impl.errNoSize", laid_loop_example_g00392_impl_errNoSize), ("loop.example/g00392/impl.errNoPage", laid_loop_example_g00392_impl_errNoPage)], narrowed := true }
def FnExactPlanOfUptoSaid : Prop := fnExactPlanOfUptoRow.holds Tryz.pinned (OpenSpec.upto fnExactPlanOfSpec)

end Rows
end Go.Proofs.YtmilnejacnaejaaGreatDoor
