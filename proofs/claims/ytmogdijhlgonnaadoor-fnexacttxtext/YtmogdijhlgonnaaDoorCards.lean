/-
  DERIVED. GIVEN WITH THE SEED: THE CARDS: each row of YtmogdijhlgonnaaDoorRows.lean that lists a variable, with what it lists TIED to the program's text (the seventh form; the later family's looks); each row that meets fmt, with fmt's text TOLD by the authors' own Lean function (tested against real Go, not proved from fmt's source: count such statements apart). THE CARD IS WHAT COUNTS. Prove the row's statement (the work); the ties are given (YtmogdijhlgonnaaDoorTie.lean); close each card by the builder's one call (the guide's Derived/Test/ToyasCard.lean, 'card_holds'). Laid BY PROGRAM, IN A SANDBOX (cutbox-door.mjs). By AI agents, Wed Nov 11 2026. No macro, syntax, notation, axiom, sorry.
-/
import Derived.Test.YtmogdijhlgonnaaDoorRows
import GoSem.ClaimSeven
namespace Go.Proofs.YtmogdijhlgonnaaDoor
namespace Rows

/-- THE TIED CARD OF 'laws.FnTx'. -/
def fnTxCard : Claim7 := { stood := { row := fnTxRow, standIns := [], harness := (true, "ec6d5abf1aab1cd1f09b0af386a9b3ed7d2025f6d6e1fc00ea25669f0b0ecf8b"), looks := true }, kinds := [], alts := [], laidByText := true, laidKinds := [.data, .data, .data, .sentinel, .sentinel], laidTests := true, laidLooks := .later }
def FnTxCardSaid : Prop := Claim7.holds Tryd.pinned (.plain (OpenSpec.ofChange fnTxSpec)) fnTxCard

/-- THE TIED CARD OF 'laws.FnExactTxText'. -/
def fnExactTxTextCard : Claim7 := { stood := { row := fnExactTxTextRow, standIns := [], harness := (true, "ec6d5abf1aab1cd1f09b0af386a9b3ed7d2025f6d6e1fc00ea25669f0b0ecf8b"), looks := true }, kinds := [], alts := [], laidByText := true, laidKinds := [.data, .data, .data], laidTests := true, laidLooks := .later }
def FnExactTxTextCardSaid : Prop := Claim7.holds Tryd.pinned (.plain (OpenSpec.ofChange fnExactTxTextSpec)) fnExactTxTextCard

/-- THE SECOND FORM's CARD OF 'laws.FnTx'. -/
def fnTxUptoCard : Claim7 := { stood := { row := fnTxUptoRow, standIns := [], harness := (true, "ec6d5abf1aab1cd1f09b0af386a9b3ed7d2025f6d6e1fc00ea25669f0b0ecf8b"), looks := true }, kinds := [], alts := [], laidByText := true, laidKinds := [.data, .data, .data, .sentinel, .sentinel], laidTests := true, laidLooks := .later }
def FnTxUptoCardSaid : Prop := Claim7.holds Tryd.pinned (.plain (OpenSpec.upto fnTxSpec)) fnTxUptoCard

/-- THE SECOND FORM's CARD OF 'laws.FnExactTxText'. -/
def fnExactTxTextUptoCard : Claim7 := { stood := { row := fnExactTxTextUptoRow, standIns := [], harness := (true, "ec6d5abf1aab1cd1f09b0af386a9b3ed7d2025f6d6e1fc00ea25669f0b0ecf8b"), looks := true }, kinds := [], alts := [], laidByText := true, laidKinds := [.data, .data, .data], laidTests := true, laidLooks := .later }
def FnExactTxTextUptoCardSaid : Prop := Claim7.holds Tryd.pinned (.plain (OpenSpec.upto fnExactTxTextSpec)) fnExactTxTextUptoCard
end Rows
end Go.Proofs.YtmogdijhlgonnaaDoor
