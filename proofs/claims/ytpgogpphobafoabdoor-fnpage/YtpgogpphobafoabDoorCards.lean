/-
  DERIVED. GIVEN WITH THE SEED: THE CARDS: each row of YtpgogpphobafoabDoorRows.lean that lists a variable, with what it lists TIED to the program's text (the seventh form; the later family's looks); each row that meets fmt, with fmt's text TOLD by the authors' own Lean function (tested against real Go, not proved from fmt's source: count such statements apart). THE CARD IS WHAT COUNTS. Prove the row's statement (the work); the ties are given (YtpgogpphobafoabDoorTie.lean); close each card by the builder's one call (the guide's Derived/Test/ToyasCard.lean, 'card_holds'). Laid BY PROGRAM, IN A SANDBOX (cutbox-door.mjs). By AI agents, Wed Nov 11 2026. No macro, syntax, notation, axiom, sorry.
-/
import Derived.Test.YtpgogpphobafoabDoorRows
import GoSem.ClaimSeven
namespace Go.Proofs.YtpgogpphobafoabDoor
namespace Rows

/-- THE TIED CARD OF 'laws.FnExactTear'. -/
def fnExactTearCard : Claim7 := { stood := { row := fnExactTearRow, standIns := [], harness := (true, "23f9a28878c72fcf9ecb2b84b3bb2f7f9f33cab4f8bf4eb0fe0e78b97d3d88fb"), looks := false }, kinds := [], alts := [], laidByText := true, laidKinds := [.sentinel, .sentinel], laidTests := true, laidLooks := .later }
def FnExactTearCardSaid : Prop := Claim7.holds Tryd.pinned (.plain (OpenSpec.ofChange fnExactTearSpec)) fnExactTearCard

/-- THE TIED CARD OF 'laws.FnMeta'. -/
def fnMetaCard : Claim7 := { stood := { row := fnMetaRow, standIns := [], harness := (true, "23f9a28878c72fcf9ecb2b84b3bb2f7f9f33cab4f8bf4eb0fe0e78b97d3d88fb"), looks := false }, kinds := [], alts := [], laidByText := true, laidKinds := [.sentinel, .sentinel], laidTests := true, laidLooks := .later }
def FnMetaCardSaid : Prop := Claim7.holds Tryd.pinned (.plain (OpenSpec.ofChange fnMetaSpec)) fnMetaCard

/-- THE TIED CARD OF 'laws.FnPage'. -/
def fnPageCard : Claim7 := { stood := { row := fnPageRow, standIns := [], harness := (true, "23f9a28878c72fcf9ecb2b84b3bb2f7f9f33cab4f8bf4eb0fe0e78b97d3d88fb"), looks := false }, kinds := [], alts := [], laidByText := true, laidKinds := [.sentinel, .sentinel, .sentinel, .sentinel], laidTests := true, laidLooks := .later }
def FnPageCardSaid : Prop := Claim7.holds Tryd.pinned (.plain (OpenSpec.ofChange fnPageSpec)) fnPageCard

/-- THE SECOND FORM's CARD OF 'laws.FnExactTear'. -/
def fnExactTearUptoCard : Claim7 := { stood := { row := fnExactTearUptoRow, standIns := [], harness := (true, "23f9a28878c72fcf9ecb2b84b3bb2f7f9f33cab4f8bf4eb0fe0e78b97d3d88fb"), looks := false }, kinds := [], alts := [], laidByText := true, laidKinds := [.sentinel, .sentinel], laidTests := true, laidLooks := .later }
def FnExactTearUptoCardSaid : Prop := Claim7.holds Tryd.pinned (.plain (OpenSpec.upto fnExactTearSpec)) fnExactTearUptoCard

/-- THE SECOND FORM's CARD OF 'laws.FnMeta'. -/
def fnMetaUptoCard : Claim7 := { stood := { row := fnMetaUptoRow, standIns := [], harness := (true, "23f9a28878c72fcf9ecb2b84b3bb2f7f9f33cab4f8bf4eb0fe0e78b97d3d88fb"), looks := false }, kinds := [], alts := [], laidByText := true, laidKinds := [.sentinel, .sentinel], laidTests := true, laidLooks := .later }
def FnMetaUptoCardSaid : Prop := Claim7.holds Tryd.pinned (.plain (OpenSpec.upto fnMetaSpec)) fnMetaUptoCard

/-- THE SECOND FORM's CARD OF 'laws.FnPage'. -/
def fnPageUptoCard : Claim7 := { stood := { row := fnPageUptoRow, standIns := [], harness := (true, "23f9a28878c72fcf9ecb2b84b3bb2f7f9f33cab4f8bf4eb0fe0e78b97d3d88fb"), looks := false }, kinds := [], alts := [], laidByText := true, laidKinds := [.sentinel, .sentinel, .sentinel, .sentinel], laidTests := true, laidLooks := .later }
def FnPageUptoCardSaid : Prop := Claim7.holds Tryd.pinned (.plain (OpenSpec.upto fnPageSpec)) fnPageUptoCard
end Rows
end Go.Proofs.YtpgogpphobafoabDoor
