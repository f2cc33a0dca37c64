/-
  DERIVED. GIVEN WITH THE SEED: THE CARDS: each row of YtgnjknbgahickabDoorRows.lean that lists a variable, with what it lists TIED to the program's text (the seventh form; the later family's looks); each row that meets fmt, with fmt's text TOLD by the authors' own Lean function (tested against real Go, not proved from fmt's source: count such statements apart). THE CARD IS WHAT COUNTS. Prove the row's statement (the work); the ties are given (YtgnjknbgahickabDoorTie.lean); close each card by the builder's one call (the guide's Derived/Test/ToyasCard.lean, 'card_holds'). Laid BY PROGRAM, IN A SANDBOX (cutbox-door.mjs). By AI agents, Wed Nov 11 2026. No macro, syntax, notation, axiom, sorry.
-/
import Derived.Test.YtgnjknbgahickabDoorRows
import GoSem.ClaimSeven
namespace Go.Proofs.YtgnjknbgahickabDoor
namespace Rows

/-- THE TIED CARD OF 'laws.FnExactRecText'. -/
def fnExactRecTextCard : Claim7 := { stood := { row := fnExactRecTextRow, standIns := [], harness := (true, "126cd5625b4d6e65744b8782aa7b25db80e121b13911148b078887d9680e29a6"), looks := true }, kinds := [], alts := [], laidByText := true, laidKinds := [.sentinel, .sentinel], laidTests := true, laidLooks := .later }
def FnExactRecTextCardSaid : Prop := Claim7.holds Tryd.pinned (.plain (OpenSpec.ofChange fnExactRecTextSpec)) fnExactRecTextCard

/-- THE TIED CARD OF 'laws.FnExactTextRec'. -/
def fnExactTextRecCard : Claim7 := { stood := { row := fnExactTextRecRow, standIns := [], harness := (true, "126cd5625b4d6e65744b8782aa7b25db80e121b13911148b078887d9680e29a6"), looks := true }, kinds := [], alts := [], laidByText := true, laidKinds := [.sentinel, .sentinel], laidTests := true, laidLooks := .later }
def FnExactTextRecCardSaid : Prop := Claim7.holds Tryd.pinned (.plain (OpenSpec.ofChange fnExactTextRecSpec)) fnExactTextRecCard

/-- THE TIED CARD OF 'laws.FnExactPrepEdits'. -/
def fnExactPrepEditsCard : Claim7 := { stood := { row := fnExactPrepEditsRow, standIns := [], harness := (true, "126cd5625b4d6e65744b8782aa7b25db80e121b13911148b078887d9680e29a6"), looks := true }, kinds := [], alts := [], laidByText := true, laidKinds := [.data, .data, .data, .sentinel, .sentinel], laidTests := true, laidLooks := .later }
def FnExactPrepEditsCardSaid : Prop := Claim7.holds Tryd.pinned (.plain (OpenSpec.ofChange fnExactPrepEditsSpec)) fnExactPrepEditsCard

/-- THE SECOND FORM's CARD OF 'laws.FnExactRecText'. -/
def fnExactRecTextUptoCard : Claim7 := { stood := { row := fnExactRecTextUptoRow, standIns := [], harness := (true, "126cd5625b4d6e65744b8782aa7b25db80e121b13911148b078887d9680e29a6"), looks := true }, kinds := [], alts := [], laidByText := true, laidKinds := [.sentinel, .sentinel], laidTests := true, laidLooks := .later }
def FnExactRecTextUptoCardSaid : Prop := Claim7.holds Tryd.pinned (.plain (OpenSpec.upto fnExactRecTextSpec)) fnExactRecTextUptoCard

/-- THE SECOND FORM's CARD OF 'laws.FnExactTextRec'. -/
def fnExactTextRecUptoCard : Claim7 := { stood := { row := fnExactTextRecUptoRow, standIns := [], harness := (true, "126cd5625b4d6e65744b8782aa7b25db80e121b13911148b078887d9680e29a6"), looks := true }, kinds := [], alts := [], laidByText := true, laidKinds := [.sentinel, .sentinel], laidTests := true, laidLooks := .later }
def FnExactTextRecUptoCardSaid : Prop := Claim7.holds Tryd.pinned (.plain (OpenSpec.upto fnExactTextRecSpec)) fnExactTextRecUptoCard

/-- THE SECOND FORM's CARD OF 'laws.FnExactPrepEdits'. -/
def fnExactPrepEditsUptoCard : Claim7 := { stood := { row := fnExactPrepEditsUptoRow, standIns := [], harness := (true, "126cd5625b4d6e65744b8782aa7b25db80e121b13911148b078887d9680e29a6"), looks := true }, kinds := [], alts := [], laidByText := true, laidKinds := [.data, .data, .data, .sentinel, .sentinel], laidTests := true, laidLooks := .later }
def FnExactPrepEditsUptoCardSaid : Prop := Claim7.holds Tryd.pinned (.plain (OpenSpec.upto fnExactPrepEditsSpec)) fnExactPrepEditsUptoCard
end Rows
end Go.Proofs.YtgnjknbgahickabDoor
