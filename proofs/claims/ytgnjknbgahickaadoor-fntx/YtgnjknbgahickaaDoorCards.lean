/-
  DERIVED. GIVEN WITH THE SEED: THE CARDS: each row of YtgnjknbgahickaaDoorRows.lean that lists a variable, with what it lists TIED to the program's text (the seventh form; the later family's looks); each row that meets fmt, with fmt's text TOLD by the authors' own Lean function (tested against real Go, not proved from fmt's source: count such statements apart). THE CARD IS WHAT COUNTS. Prove the row's statement (the work); the ties are given (YtgnjknbgahickaaDoorTie.lean); close each card by the builder's one call (the guide's Derived/Test/ToyasCard.lean, 'card_holds'). Laid BY PROGRAM, IN A SANDBOX (cutbox-door.mjs). By AI agents, Wed Nov 11 2026. No macro, syntax, notation, axiom, sorry.
-/
import Derived.Test.YtgnjknbgahickaaDoorRows
import GoSem.ClaimSeven
namespace Go.Proofs.YtgnjknbgahickaaDoor
namespace Rows

/-- THE TIED CARD OF 'laws.FnRec'. -/
def fnRecCard : Claim7 := { stood := { row := fnRecRow, standIns := [], harness := (true, "84d8c4eca82730a8cefffb44be17c37302030f8a250ebdbbec5a5fc6d0a49695"), looks := true }, kinds := [], alts := [], laidByText := true, laidKinds := [.sentinel, .sentinel], laidTests := true, laidLooks := .later }
def FnRecCardSaid : Prop := Claim7.holds Tryd.pinned (.plain (OpenSpec.ofChange fnRecSpec)) fnRecCard

/-- THE TIED CARD OF 'laws.FnTx'. -/
def fnTxCard : Claim7 := { stood := { row := fnTxRow, standIns := [], harness := (true, "84d8c4eca82730a8cefffb44be17c37302030f8a250ebdbbec5a5fc6d0a49695"), looks := true }, kinds := [], alts := [], laidByText := true, laidKinds := [.data, .data, .data, .sentinel, .sentinel], laidTests := true, laidLooks := .later }
def FnTxCardSaid : Prop := Claim7.holds Tryd.pinned (.plain (OpenSpec.ofChange fnTxSpec)) fnTxCard

/-- THE SECOND FORM's CARD OF 'laws.FnRec'. -/
def fnRecUptoCard : Claim7 := { stood := { row := fnRecUptoRow, standIns := [], harness := (true, "84d8c4eca82730a8cefffb44be17c37302030f8a250ebdbbec5a5fc6d0a49695"), looks := true }, kinds := [], alts := [], laidByText := true, laidKinds := [.sentinel, .sentinel], laidTests := true, laidLooks := .later }
def FnRecUptoCardSaid : Prop := Claim7.holds Tryd.pinned (.plain (OpenSpec.upto fnRecSpec)) fnRecUptoCard

/-- THE SECOND FORM's CARD OF 'laws.FnTx'. -/
def fnTxUptoCard : Claim7 := { stood := { row := fnTxUptoRow, standIns := [], harness := (true, "84d8c4eca82730a8cefffb44be17c37302030f8a250ebdbbec5a5fc6d0a49695"), looks := true }, kinds := [], alts := [], laidByText := true, laidKinds := [.data, .data, .data, .sentinel, .sentinel], laidTests := true, laidLooks := .later }
def FnTxUptoCardSaid : Prop := Claim7.holds Tryd.pinned (.plain (OpenSpec.upto fnTxSpec)) fnTxUptoCard
end Rows
end Go.Proofs.YtgnjknbgahickaaDoor
