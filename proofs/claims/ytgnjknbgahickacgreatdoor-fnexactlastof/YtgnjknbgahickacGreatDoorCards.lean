/-
  DERIVED. GIVEN WITH THE SEED: THE CARDS: each row of YtgnjknbgahickacGreatDoorRows.lean that lists a variable, with what it lists TIED to the program's text (the seventh form; the later family's looks); each row that meets fmt, with fmt's text TOLD by the authors' own Lean function (tested against real Go, not proved from fmt's source: count such statements apart). THE CARD IS WHAT COUNTS. Prove the row's statement (the work); the ties are given (YtgnjknbgahickacGreatDoorTie.lean); close each card by the builder's one call (the guide's Derived/Test/ToyasCard.lean, 'card_holds'). Laid BY PROGRAM, IN A SANDBOX (cutbox-door.mjs). By AI agents, Wed Nov 11 2026. No macro, syntax, notation, axiom, sorry.
-/
import Derived.Test.YtgnjknbgahickacGreatDoorRows
import GoSem.ClaimSeven
namespace Go.Proofs.YtgnjknbgahickacGreatDoor
namespace Rows

/-- THE TIED CARD OF 'laws.FnExactPreps'. -/
def fnExactPrepsCard : Claim7 := { stood := { row := fnExactPrepsRow, standIns := [], harness := (true, "8e7543ff0ecff327c5cbb1ee711b741b0974f8d642b595bd6a35dc0f2c76e6cb"), looks := true }, kinds := [], alts := [], laidByText := true, laidKinds := [.data, .data, .data, .sentinel, .sentinel, .sentinel, .sentinel], laidTests := true, laidLooks := .later }
def FnExactPrepsCardSaid : Prop := Claim7.holds Tryz.pinned (.plain (OpenSpec.ofChange fnExactPrepsSpec)) fnExactPrepsCard

/-- THE TIED CARD OF 'laws.FnExactEndEdits'. -/
def fnExactEndEditsCard : Claim7 := { stood := { row := fnExactEndEditsRow, standIns := [], harness := (true, "8e7543ff0ecff327c5cbb1ee711b741b0974f8d642b595bd6a35dc0f2c76e6cb"), looks := true }, kinds := [], alts := [], laidByText := true, laidKinds := [.data, .data, .data, .sentinel, .sentinel, .sentinel, .sentinel], laidTests := true, laidLooks := .later }
def FnExactEndEditsCardSaid : Prop := Claim7.holds Tryz.pinned (.plain (OpenSpec.ofChange fnExactEndEditsSpec)) fnExactEndEditsCard

/-- THE TIED CARD OF 'laws.FnExactLastOf'. -/
def fnExactLastOfCard : Claim7 := { stood := { row := fnExactLastOfRow, standIns := [], harness := (true, "8e7543ff0ecff327c5cbb1ee711b741b0974f8d642b595bd6a35dc0f2c76e6cb"), looks := true }, kinds := [], alts := [], laidByText := true, laidKinds := [.data, .data, .data, .sentinel, .sentinel], laidTests := true, laidLooks := .later }
def FnExactLastOfCardSaid : Prop := Claim7.holds Tryz.pinned (.plain (OpenSpec.ofChange fnExactLastOfSpec)) fnExactLastOfCard

/-- THE SECOND FORM's CARD OF 'laws.FnExactPreps'. -/
def fnExactPrepsUptoCard : Claim7 := { stood := { row := fnExactPrepsUptoRow, standIns := [], harness := (true, "8e7543ff0ecff327c5cbb1ee711b741b0974f8d642b595bd6a35dc0f2c76e6cb"), looks := true }, kinds := [], alts := [], laidByText := true, laidKinds := [.data, .data, .data, .sentinel, .sentinel, .sentinel, .sentinel], laidTests := true, laidLooks := .later }
def FnExactPrepsUptoCardSaid : Prop := Claim7.holds Tryz.pinned (.plain (OpenSpec.upto fnExactPrepsSpec)) fnExactPrepsUptoCard

/-- THE SECOND FORM's CARD OF 'laws.FnExactEndEdits'. -/
def fnExactEndEditsUptoCard : Claim7 := { stood := { row := fnExactEndEditsUptoRow, standIns := [], harness := (true, "8e7543ff0ecff327c5cbb1ee711b741b0974f8d642b595bd6a35dc0f2c76e6cb"), looks := true }, kinds := [], alts := [], laidByText := true, laidKinds := [.data, .data, .data, .sentinel, .sentinel, .sentinel, .sentinel], laidTests := true, laidLooks := .later }
def FnExactEndEditsUptoCardSaid : Prop := Claim7.holds Tryz.pinned (.plain (OpenSpec.upto fnExactEndEditsSpec)) fnExactEndEditsUptoCard

/-- THE SECOND FORM's CARD OF 'laws.FnExactLastOf'. -/
def fnExactLastOfUptoCard : Claim7 := { stood := { row := fnExactLastOfUptoRow, standIns := [], harness := (true, "8e7543ff0ecff327c5cbb1ee711b741b0974f8d642b595bd6a35dc0f2c76e6cb"), looks := true }, kinds := [], alts := [], laidByText := true, laidKinds := [.data, .data, .data, .sentinel, .sentinel], laidTests := true, laidLooks := .later }
def FnExactLastOfUptoCardSaid : Prop := Claim7.holds Tryz.pinned (.plain (OpenSpec.upto fnExactLastOfSpec)) fnExactLastOfUptoCard
end Rows
end Go.Proofs.YtgnjknbgahickacGreatDoor
