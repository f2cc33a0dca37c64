/-
  DERIVED. GIVEN WITH THE SEED: THE CARDS: each row of YtceplgnijcdbfafDoorRows.lean that lists a variable, with what it lists TIED to the program's text (the seventh form; the later family's looks); each row that meets fmt, with fmt's text TOLD by the authors' own Lean function (tested against real Go, not proved from fmt's source: count such statements apart). THE CARD IS WHAT COUNTS. Prove the row's statement (the work); the ties are given (YtceplgnijcdbfafDoorTie.lean); close each card by the builder's one call (the guide's Derived/Test/ToyasCard.lean, 'card_holds'). Laid BY PROGRAM, IN A SANDBOX (cutbox-door.mjs). By AI agents, Wed Nov 11 2026. No macro, syntax, notation, axiom, sorry.
-/
import Derived.Test.YtceplgnijcdbfafDoorRows
import GoSem.ClaimSeven
namespace Go.Proofs.YtceplgnijcdbfafDoor
namespace Rows

/-- THE TIED CARD OF 'laws.FnVar'. -/
def fnVarCard : Claim7 := { stood := { row := fnVarRow, standIns := [], harness := (true, "a1ce7d3e72031ce182b4f6e7466d36bc2eac5e937910d90dc237500a4e67a472"), looks := false }, kinds := [], alts := [], laidByText := true, laidKinds := [.data, .data, .data, .sentinel, .sentinel], laidTests := true, laidLooks := .later }
def FnVarCardSaid : Prop := Claim7.holds Tryd.pinned (.plain (OpenSpec.ofChange fnVarSpec)) fnVarCard

/-- THE TIED CARD OF 'laws.FnQuote'. -/
def fnQuoteCard : Claim7 := { stood := { row := fnQuoteRow, standIns := [], harness := (true, "a1ce7d3e72031ce182b4f6e7466d36bc2eac5e937910d90dc237500a4e67a472"), looks := false }, kinds := [], alts := [], laidByText := true, laidKinds := [.sentinel, .sentinel], laidTests := true, laidLooks := .later }
def FnQuoteCardSaid : Prop := Claim7.holds Tryd.pinned (.plain (OpenSpec.ofChange fnQuoteSpec)) fnQuoteCard

/-- THE SECOND FORM's CARD OF 'laws.FnVar'. -/
def fnVarUptoCard : Claim7 := { stood := { row := fnVarUptoRow, standIns := [], harness := (true, "a1ce7d3e72031ce182b4f6e7466d36bc2eac5e937910d90dc237500a4e67a472"), looks := false }, kinds := [], alts := [], laidByText := true, laidKinds := [.data, .data, .data, .sentinel, .sentinel], laidTests := true, laidLooks := .later }
def FnVarUptoCardSaid : Prop := Claim7.holds Tryd.pinned (.plain (OpenSpec.upto fnVarSpec)) fnVarUptoCard

/-- THE SECOND FORM's CARD OF 'laws.FnQuote'. -/
def fnQuoteUptoCard : Claim7 := { stood := { row := fnQuoteUptoRow, standIns := [], harness := (true, "a1ce7d3e72031ce182b4f6e7466d36bc2eac5e937910d90dc237500a4e67a472"), looks := false }, kinds := [], alts := [], laidByText := true, laidKinds := [.sentinel, .sentinel], laidTests := true, laidLooks := .later }
def FnQuoteUptoCardSaid : Prop := Claim7.holds Tryd.pinned (.plain (OpenSpec.upto fnQuoteSpec)) fnQuoteUptoCard
end Rows
end Go.Proofs.YtceplgnijcdbfafDoor
