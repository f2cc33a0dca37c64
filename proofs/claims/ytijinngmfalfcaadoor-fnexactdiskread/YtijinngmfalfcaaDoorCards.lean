/-
  DERIVED. GIVEN WITH THE SEED: THE CARDS: each row of YtijinngmfalfcaaDoorRows.lean that lists a variable, with what it lists TIED to the program's text (the seventh form; the later family's looks); each row that meets fmt, with fmt's text TOLD by the authors' own Lean function (tested against real Go, not proved from fmt's source: count such statements apart). THE CARD IS WHAT COUNTS. Prove the row's statement (the work); the ties are given (YtijinngmfalfcaaDoorTie.lean); close each card by the builder's one call (the guide's Derived/Test/ToyasCard.lean, 'card_holds'). Laid BY PROGRAM, IN A SANDBOX (cutbox-door.mjs). By AI agents, Wed Nov 11 2026. No macro, syntax, notation, axiom, sorry.
-/
import Derived.Test.YtijinngmfalfcaaDoorRows
import GoSem.ClaimSeven
namespace Go.Proofs.YtijinngmfalfcaaDoor
namespace Rows

/-- THE TIED CARD OF 'laws.FnExactDiskRead'. -/
def fnExactDiskReadCard : Claim7 := { stood := { row := fnExactDiskReadRow, standIns := [], harness := (true, "eb55d97147e7a7588fc0488f5140ef70bd6a54122b598a8402c6f3e0f3680458"), looks := false }, kinds := [], alts := [], laidByText := true, laidKinds := [.sentinel, .sentinel], laidTests := true, laidLooks := .later }
def FnExactDiskReadCardSaid : Prop := Claim7.holds Tryd.pinned (.plain (OpenSpec.ofChange fnExactDiskReadSpec)) fnExactDiskReadCard

/-- THE SECOND FORM's CARD OF 'laws.FnExactDiskRead'. -/
def fnExactDiskReadUptoCard : Claim7 := { stood := { row := fnExactDiskReadUptoRow, standIns := [], harness := (true, "eb55d97147e7a7588fc0488f5140ef70bd6a54122b598a8402c6f3e0f3680458"), looks := false }, kinds := [], alts := [], laidByText := true, laidKinds := [.sentinel, .sentinel], laidTests := true, laidLooks := .later }
def FnExactDiskReadUptoCardSaid : Prop := Claim7.holds Tryd.pinned (.plain (OpenSpec.upto fnExactDiskReadSpec)) fnExactDiskReadUptoCard
end Rows
end Go.Proofs.YtijinngmfalfcaaDoor
