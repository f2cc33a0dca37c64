/-
  No cell of these rows narrows 'for every input' (looked for: loops, veiled, ifaces, maps, wideKeys, modest, calm, conditions, laid).
  DERIVED. THE GIVEN ROWS OF THIS SEAT. 4 by the template 'for every input the law returns true; each argument reads behind the call as it read before'; 0 by the template 'total and deterministic' (their statements: YtgnjknbgahickaaTotals.lean).
  GIVEN WITH THE SEED: the statements are not yours to turn. If you find one false, say at which input.
  Laid BY PROGRAM, IN A SANDBOX (cutbox-rows.mjs): the forced cells as the released guide's own fill.sh prints them over the translation 220a5102be9da2d2… (all of the seat's roots in one cut). By AI agents, Wed Nov 11 2026. No macro, syntax, notation, axiom, sorry.
-/
import Derived.Test.YtgnjknbgahickaaChecked
import GoSem.Claim
import GoSem.ClaimJoined
import GoSem.ClaimMapViews
import Derived.JoinedTies
import Derived.KernelRfl
namespace Go.Proofs.Ytgnjknbgahickaa
/- THE CELL 'sum', in the pinned program and in every row, IS THE sha256 OF THE DUMP (.gsa) THAT YtgnjknbgahickaaProg.lean LOADS. Nothing in Lean hashes anything: it is a label: what it is worth is what the hold of that sum in a sandbox is worth. -/
noncomputable def Try.pinned : Pinned := { name := "ytgnjknbgahickaa", sum := "220a5102be9da2d21205b7680eadf2efa6586651ec99a97334a29f41fa604af7", checked := Try.checked }
namespace Rows
def none {H : Type} : Left H := { results := [], args := [] }

/-- 'laws.FnLocks': WHATEVER THE INPUT: true; the input reads as it did. -/
def fnLocksSpec : ChangeSpec := { name := "fnLocks", fn := fun _ => fun
  | [d] => { results := [.lit (.bool true)], args := [d] }
  | _ => none }
def fnLocksRow : OpenClaim := { program := "ytgnjknbgahickaa", sum := "220a5102be9da2d21205b7680eadf2efa6586651ec99a97334a29f41fa604af7", func := "loop.example/g00392/laws.FnLocks", spec := "fnLocks", unfollowed := true, recurses := true, apart := false }
def FnLocksSaid : Prop := fnLocksRow.holds Try.pinned (OpenSpec.ofChange fnLocksSpec)

/-- ITS FALSE NEIGHBOUR: 'it returns false'. Refute it at one input. -/
def fnLocksWrong : ChangeSpec := { name := "fnLocks", fn := fun _ => fun
  | [d] => { results := [.lit (.bool false)], args := [d] }
  | _ => none }
def FnLocksWrongFalsely : Prop := fnLocksRow.holds Try.pinned (OpenSpec.ofChange fnLocksWrong)

/-- 'laws.FnFree': WHATEVER THE INPUT: true; the input reads as it did. -/
def fnFreeSpec : ChangeSpec := { name := "fnFree", fn := fun _ => fun
  | [d] => { results := [.lit (.bool true)], args := [d] }
  | _ => none }
def fnFreeRow : OpenClaim := { program := "ytgnjknbgahickaa", sum := "220a5102be9da2d21205b7680eadf2efa6586651ec99a97334a29f41fa604af7", func := "loop.example/g00392/laws.FnFree", spec := "fnFree", unfollowed := true, recurses := true, apart := false }
def FnFreeSaid : Prop := fnFreeRow.holds Try.pinned (OpenSpec.ofChange fnFreeSpec)

/-- ITS FALSE NEIGHBOUR: 'it returns false'. Refute it at one input. -/
def fnFreeWrong : ChangeSpec := { name := "fnFree", fn := fun _ => fun
  | [d] => { results := [.lit (.bool false)], args := [d] }
  | _ => none }
def FnFreeWrongFalsely : Prop := fnFreeRow.holds Try.pinned (OpenSpec.ofChange fnFreeWrong)

/-- 'laws.FnExactUserOk': WHATEVER THE INPUT: true; the input reads as it did. -/
def fnExactUserOkSpec : ChangeSpec := { name := "fnExactUserOk", fn := fun _ => fun
  | [d] => { results := [.lit (.bool true)], args := [d] }
  | _ => none }
def fnExactUserOkRow : OpenClaim := { program := "ytgnjknbgahickaa", sum := "220a5102be9da2d21205b7680eadf2efa6586651ec99a97334a29f41fa604af7", func := "loop.example/g00392/laws.FnExactUserOk", spec := "fnExactUserOk", apart := false }
def FnExactUserOkSaid : Prop := fnExactUserOkRow.holds Try.pinned (OpenSpec.ofChange fnExactUserOkSpec)

/-- ITS FALSE NEIGHBOUR: 'it returns false'. Refute it at one input. -/
def fnExactUserOkWrong : ChangeSpec := { name := "fnExactUserOk", fn := fun _ => fun
  | [d] => { results := [.lit (.bool false)], args := [d] }
  | _ => none }
def FnExactUserOkWrongFalsely : Prop := fnExactUserOkRow.holds Try.pinned (OpenSpec.ofChange fnExactUserOkWrong)

/-- 'laws.FnExactUvalOk': WHATEVER THE INPUT: true; the input reads as it did. -/
def fnExactUvalOkSpec : ChangeSpec := { name := "fnExactUvalOk", fn := fun _ => fun
  | [d] => { results := [.lit (.bool true)], args := [d] }
  | _ => none }
def fnExactUvalOkRow : OpenClaim := { program := "ytgnjknbgahickaa", sum := "220a5102be9da2d21205b7680eadf2efa6586651ec99a97334a29f41fa604af7", func := "loop.example/g00392/laws.FnExactUvalOk", spec := "fnExactUvalOk", apart := false }
def FnExactUvalOkSaid : Prop := fnExactUvalOkRow.holds Try.pinned (OpenSpec.ofChange fnExactUvalOkSpec)

/-- ITS FALSE NEIGHBOUR: 'it returns false'. Refute it at one input. -/
def fnExactUvalOkWrong : ChangeSpec := { name := "fnExactUvalOk", fn := fun _ => fun
  | [d] => { results := [.lit (.bool false)], args := [d] }
  | _ => none }
def FnExactUvalOkWrongFalsely : Prop := fnExactUvalOkRow.holds Try.pinned (OpenSpec.ofChange fnExactUvalOkWrong)

/- THE SECOND FORM. 'bulk': how many values and letters a reading holds, each counted each time it is reached (what is shared counts as often as it is met; a slice's spare places count too). A statement '..UptoSaid' is the law's where the arguments, and the package variables that the reading takes, are together of bulk at most 1048576: NARROWER than '..Said'. Prove '..Said' where nothing that the law and all that it calls make is longer than what came in: it says more and counts as full. Else prove '..UptoSaid'. A law counts once. -/
mutual
def uptoBulk {H : Type} : DataW H → Nat
  | .lit (.string bytes) => bytes.length + 1
  | .lit _ => 1
  | .nil => 1
  | .ptr d => uptoBulk d + 1
  | .slice elems spare => uptoBulkAll elems + uptoBulkAll spare + 1
  | .agg parts => uptoBulkAll parts + 1
  | .iface _ d => uptoBulk d + 1
  | .map entries => uptoBulkEntries entries + 1
  | .held _ => 1
def uptoBulkAll {H : Type} : List (DataW H) → Nat
  | [] => 0
  | d :: r => uptoBulk d + uptoBulkAll r
def uptoBulkEntries {H : Type} : List (Lit × DataW H) → Nat
  | [] => 0
  | x :: r => uptoBulkEntry x + uptoBulkEntries r
def uptoBulkEntry {H : Type} : Lit × DataW H → Nat
  | (.string bytes, d) => bytes.length + uptoBulk d + 1
  | (_, d) => uptoBulk d + 1
 end
def uptoSmall : (H : Type) → List (DataW H) → Bool := fun _ ds => decide (uptoBulkAll ds ≤ 1048576)
def OpenSpec.upto (s : _root_.Go.ChangeSpec) : _root_.Go.OpenSpec := { _root_.Go.OpenSpec.ofChange s with cond := some uptoSmall }

/-- 'laws.FnLocks', WHERE WHAT IT READS IS OF BULK AT MOST 1048576: true; the input reads as it did. -/
def fnLocksUptoRow : OpenClaim := { program := "ytgnjknbgahickaa", sum := "220a5102be9da2d21205b7680eadf2efa6586651ec99a97334a29f41fa604af7", func := "loop.example/g00392/laws.FnLocks", spec := "fnLocks", unfollowed := true, recurses := true, apart := false, narrowed := true }
def FnLocksUptoSaid : Prop := fnLocksUptoRow.holds Try.pinned (OpenSpec.upto fnLocksSpec)

/-- 'laws.FnFree', WHERE WHAT IT READS IS OF BULK AT MOST 1048576: true; the input reads as it did. -/
def fnFreeUptoRow : OpenClaim := { program := "ytgnjknbgahickaa", sum := "220a5102be9da2d21205b7680eadf2efa6586651ec99a97334a29f41fa604af7", func := "loop.example/g00392/laws.FnFree", spec := "fnFree", unfollowed := true, recurses := true, apart := false, narrowed := true }
def FnFreeUptoSaid : Prop := fnFreeUptoRow.holds Try.pinned (OpenSpec.upto fnFreeSpec)

/-- 'laws.FnExactUserOk', WHERE WHAT IT READS IS OF BULK AT MOST 1048576: true; the input reads as it did. -/
def fnExactUserOkUptoRow : OpenClaim := { program := "ytgnjknbgahickaa", sum := "220a5102be9da2d21205b7680eadf2efa6586651ec99a97334a29f41fa604af7", func := "loop.example/g00392/laws.FnExactUserOk", spec := "fnExactUserOk", apart := false, narrowed := true }
def FnExactUserOkUptoSaid : Prop := fnExactUserOkUptoRow.holds Try.pinned (OpenSpec.upto fnExactUserOkSpec)

/-- 'laws.FnExactUvalOk', WHERE WHAT IT READS IS OF BULK AT MOST 1048576: true; the input reads as it did. -/
def fnExactUvalOkUptoRow : OpenClaim := { program := "ytgnjknbgahickaa", sum := "220a5102be9da2d21205b7680eadf2efa6586651ec99a97334a29f41fa604af7", func := "loop.example/g00392/laws.FnExactUvalOk", spec := "fnExactUvalOk", apart := false, narrowed := true }
def FnExactUvalOkUptoSaid : Prop := fnExactUvalOkUptoRow.holds Try.pinned (OpenSpec.upto fnExactUvalOkSpec)

end Rows
end Go.Proofs.Ytgnjknbgahickaa
