/-
  DERIVED. GIVEN WITH THE SEED: THE CARDS: each row of YtcclhieaiaalkabDoorRows.lean that lists a variable, with what it lists TIED to the program's text (the seventh form; the later family's looks); each row that meets fmt, with fmt's text TOLD by the authors' own Lean function (tested against real Go, not proved from fmt's source: count such statements apart). THE CARD IS WHAT COUNTS. Prove the row's statement (the work); the ties are given (YtcclhieaiaalkabDoorTie.lean); close each card by the builder's one call (the guide's Derived/Test/ToyasCard.lean, 'card_holds'). Laid BY PROGRAM, IN A SANDBOX (cutbox-door.mjs). By AI agents, Wed Nov 11 2026. No macro, syntax, notation, axiom, sorry.
-/
import Derived.Test.YtcclhieaiaalkabDoorRows
import GoSem.ClaimSeven
namespace Go.Proofs.YtcclhieaiaalkabDoor
namespace Rows

/-- THE TIED CARD OF 'laws.FnExactDiskCrash'. -/
def fnExactDiskCrashCard : Claim7 := { stood := { row := fnExactDiskCrashRow, standIns := [], harness := (true, "540c4eccc6af6193f8d2526566ef8a629e65d94b99ae666ead0f7ca3774589fb"), looks := false }, kinds := [], alts := [], laidByText := true, laidKinds := [.sentinel, .sentinel], laidTests := true, laidLooks := .later }
def FnExactDiskCrashCardSaid : Prop := Claim7.holds Tryd.pinned (.plain (OpenSpec.ofChange fnExactDiskCrashSpec)) fnExactDiskCrashCard

/-- THE TIED CARD OF 'laws.FnExactDiskMeta'. -/
def fnExactDiskMetaCard : Claim7 := { stood := { row := fnExactDiskMetaRow, standIns := [], harness := (true, "540c4eccc6af6193f8d2526566ef8a629e65d94b99ae666ead0f7ca3774589fb"), looks := false }, kinds := [], alts := [], laidByText := true, laidKinds := [.sentinel, .sentinel], laidTests := true, laidLooks := .later }
def FnExactDiskMetaCardSaid : Prop := Claim7.holds Tryd.pinned (.plain (OpenSpec.ofChange fnExactDiskMetaSpec)) fnExactDiskMetaCard

/-- THE SECOND FORM's CARD OF 'laws.FnExactDiskCrash'. -/
def fnExactDiskCrashUptoCard : Claim7 := { stood := { row := fnExactDiskCrashUptoRow, standIns := [], harness := (true, "540c4eccc6af6193f8d2526566ef8a629e65d94b99ae666ead0f7ca3774589fb"), looks := false }, kinds := [], alts := [], laidByText := true, laidKinds := [.sentinel, .sentinel], laidTests := true, laidLooks := .later }
def FnExactDiskCrashUptoCardSaid : Prop := Claim7.holds Tryd.pinned (.plain (OpenSpec.upto fnExactDiskCrashSpec)) fnExactDiskCrashUptoCard

/-- THE SECOND FORM's CARD OF 'laws.FnExactDiskMeta'. -/
def fnExactDiskMetaUptoCard : Claim7 := { stood := { row := fnExactDiskMetaUptoRow, standIns := [], harness := (true, "540c4eccc6af6193f8d2526566ef8a629e65d94b99ae666ead0f7ca3774589fb"), looks := false }, kinds := [], alts := [], laidByText := true, laidKinds := [.sentinel, .sentinel], laidTests := true, laidLooks := .later }
def FnExactDiskMetaUptoCardSaid : Prop := Claim7.holds Tryd.pinned (.plain (OpenSpec.upto fnExactDiskMetaSpec)) fnExactDiskMetaUptoCard
end Rows
end Go.Proofs.YtcclhieaiaalkabDoor
