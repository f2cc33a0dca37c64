/-
  DERIVED. GIVEN WITH THE SEED: THE CARDS: each row of YtijinngmfalfcabDoorRows.lean that lists a variable, with what it lists TIED to the program's text (the seventh form; the later family's looks); each row that meets fmt, with fmt's text TOLD by the authors' own Lean function (tested against real Go, not proved from fmt's source: count such statements apart). THE CARD IS WHAT COUNTS. Prove the row's statement (the work); the ties are given (YtijinngmfalfcabDoorTie.lean); close each card by the builder's one call (the guide's Derived/Test/ToyasCard.lean, 'card_holds'). Laid BY PROGRAM, IN A SANDBOX (cutbox-door.mjs). By AI agents, Wed Nov 11 2026. No macro, syntax, notation, axiom, sorry.
-/
import Derived.Test.YtijinngmfalfcabDoorRows
import GoSem.ClaimSeven
namespace Go.Proofs.YtijinngmfalfcabDoor
namespace Rows

/-- THE TIED CARD OF 'laws.FnExactDiskCrash'. -/
def fnExactDiskCrashCard : Claim7 := { stood := { row := fnExactDiskCrashRow, standIns := [], harness := (true, "5456ec1525f8ad50b22635ec3839e3a36b8223c63e0c39b9715e0689cfda2409"), looks := false }, kinds := [], alts := [], laidByText := true, laidKinds := [.sentinel, .sentinel], laidTests := true, laidLooks := .later }
def FnExactDiskCrashCardSaid : Prop := Claim7.holds Tryd.pinned (.plain (OpenSpec.ofChange fnExactDiskCrashSpec)) fnExactDiskCrashCard

/-- THE TIED CARD OF 'laws.FnExactDiskMeta'. -/
def fnExactDiskMetaCard : Claim7 := { stood := { row := fnExactDiskMetaRow, standIns := [], harness := (true, "5456ec1525f8ad50b22635ec3839e3a36b8223c63e0c39b9715e0689cfda2409"), looks := false }, kinds := [], alts := [], laidByText := true, laidKinds := [.sentinel, .sentinel], laidTests := true, laidLooks := .later }
def FnExactDiskMetaCardSaid : Prop := Claim7.holds Tryd.pinned (.plain (OpenSpec.ofChange fnExactDiskMetaSpec)) fnExactDiskMetaCard

/-- THE TIED CARD OF 'laws.FnSync'. -/
def fnSyncCard : Claim7 := { stood := { row := fnSyncRow, standIns := [], harness := (true, "5456ec1525f8ad50b22635ec3839e3a36b8223c63e0c39b9715e0689cfda2409"), looks := false }, kinds := [], alts := [], laidByText := true, laidKinds := [.sentinel, .sentinel], laidTests := true, laidLooks := .later }
def FnSyncCardSaid : Prop := Claim7.holds Tryd.pinned (.plain (OpenSpec.ofChange fnSyncSpec)) fnSyncCard

/-- THE SECOND FORM's CARD OF 'laws.FnExactDiskCrash'. -/
def fnExactDiskCrashUptoCard : Claim7 := { stood := { row := fnExactDiskCrashUptoRow, standIns := [], harness := (true, "5456ec1525f8ad50b22635ec3839e3a36b8223c63e0c39b9715e0689cfda2409"), looks := false }, kinds := [], alts := [], laidByText := true, laidKinds := [.sentinel, .sentinel], laidTests := true, laidLooks := .later }
def FnExactDiskCrashUptoCardSaid : Prop := Claim7.holds Tryd.pinned (.plain (OpenSpec.upto fnExactDiskCrashSpec)) fnExactDiskCrashUptoCard

/-- THE SECOND FORM's CARD OF 'laws.FnExactDiskMeta'. -/
def fnExactDiskMetaUptoCard : Claim7 := { stood := { row := fnExactDiskMetaUptoRow, standIns := [], harness := (true, "5456ec1525f8ad50b22635ec3839e3a36b8223c63e0c39b9715e0689cfda2409"), looks := false }, kinds := [], alts := [], laidByText := true, laidKinds := [.sentinel, .sentinel], laidTests := true, laidLooks := .later }
def FnExactDiskMetaUptoCardSaid : Prop := Claim7.holds Tryd.pinned (.plain (OpenSpec.upto fnExactDiskMetaSpec)) fnExactDiskMetaUptoCard

/-- THE SECOND FORM's CARD OF 'laws.FnSync'. -/
def fnSyncUptoCard : Claim7 := { stood := { row := fnSyncUptoRow, standIns := [], harness := (true, "5456ec1525f8ad50b22635ec3839e3a36b8223c63e0c39b9715e0689cfda2409"), looks := false }, kinds := [], alts := [], laidByText := true, laidKinds := [.sentinel, .sentinel], laidTests := true, laidLooks := .later }
def FnSyncUptoCardSaid : Prop := Claim7.holds Tryd.pinned (.plain (OpenSpec.upto fnSyncSpec)) fnSyncUptoCard
end Rows
end Go.Proofs.YtijinngmfalfcabDoor
