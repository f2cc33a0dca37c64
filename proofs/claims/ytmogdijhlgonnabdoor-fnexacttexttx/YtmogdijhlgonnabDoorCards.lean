/-
  DERIVED. GIVEN WITH THE SEED: THE CARDS: each row of YtmogdijhlgonnabDoorRows.lean that lists a variable, with what it lists TIED to the program's text (the seventh form; the later family's looks); each row that meets fmt, with fmt's text TOLD by the authors' own Lean function (tested against real Go, not proved from fmt's source: count such statements apart). THE CARD IS WHAT COUNTS. Prove the row's statement (the work); the ties are given (YtmogdijhlgonnabDoorTie.lean); close each card by the builder's one call (the guide's Derived/Test/ToyasCard.lean, 'card_holds'). Laid BY PROGRAM, IN A SANDBOX (cutbox-door.mjs). By AI agents, Wed Nov 11 2026. No macro, syntax, notation, axiom, sorry.
-/
import Derived.Test.YtmogdijhlgonnabDoorRows
import GoSem.ClaimSeven
namespace Go.Proofs.YtmogdijhlgonnabDoor
namespace Rows

/-- THE TIED CARD OF 'laws.FnExactTextTx'. -/
def fnExactTextTxCard : Claim7 := { stood := { row := fnExactTextTxRow, standIns := [], harness := (true, "b30aaed7ddb9b9c95dbd36dab764d5cc49ca88ece9b1f674a8670ad73df49875"), looks := true }, kinds := [], alts := [], laidByText := true, laidKinds := [.data, .data, .data, .sentinel, .sentinel], laidTests := true, laidLooks := .later }
def FnExactTextTxCardSaid : Prop := Claim7.holds Tryd.pinned (.plain (OpenSpec.ofChange fnExactTextTxSpec)) fnExactTextTxCard

/-- THE SECOND FORM's CARD OF 'laws.FnExactTextTx'. -/
def fnExactTextTxUptoCard : Claim7 := { stood := { row := fnExactTextTxUptoRow, standIns := [], harness := (true, "b30aaed7ddb9b9c95dbd36dab764d5cc49ca88ece9b1f674a8670ad73df49875"), looks := true }, kinds := [], alts := [], laidByText := true, laidKinds := [.data, .data, .data, .sentinel, .sentinel], laidTests := true, laidLooks := .later }
def FnExactTextTxUptoCardSaid : Prop := Claim7.holds Tryd.pinned (.plain (OpenSpec.upto fnExactTextTxSpec)) fnExactTextTxUptoCard
end Rows
end Go.Proofs.YtmogdijhlgonnabDoor
