/-
  DERIVED. GIVEN WITH THE SEED: THE CARDS: each row of YtcclhieaiaalkaaDoorRows.lean that lists a variable, with what it lists TIED to the program's text (the seventh form; the later family's looks); each row that meets fmt, with fmt's text TOLD by the authors' own Lean function (tested against real Go, not proved from fmt's source: count such statements apart). THE CARD IS WHAT COUNTS. Prove the row's statement (the work); the ties are given (YtcclhieaiaalkaaDoorTie.lean); close each card by the builder's one call (the guide's Derived/Test/ToyasCard.lean, 'card_holds'). Laid BY PROGRAM, IN A SANDBOX (cutbox-door.mjs). By AI agents, Wed Nov 11 2026. No macro, syntax, notation, axiom, sorry.
-/
import Derived.Test.YtcclhieaiaalkaaDoorRows
import GoSem.ClaimSeven
namespace Go.Proofs.YtcclhieaiaalkaaDoor
namespace Rows

/-- THE TIED CARD OF 'laws.FnSync'. -/
def fnSyncCard : Claim7 := { stood := { row := fnSyncRow, standIns := [], harness := (true, "3011c846bdea151f03700697dc49081ef203dcb14577519cb37023691aad471f"), looks := false }, kinds := [], alts := [], laidByText := true, laidKinds := [.sentinel, .sentinel], laidTests := true, laidLooks := .later }
def FnSyncCardSaid : Prop := Claim7.holds Tryd.pinned (.plain (OpenSpec.ofChange fnSyncSpec)) fnSyncCard

/-- THE TIED CARD OF 'laws.FnMeta'. -/
def fnMetaCard : Claim7 := { stood := { row := fnMetaRow, standIns := [], harness := (true, "3011c846bdea151f03700697dc49081ef203dcb14577519cb37023691aad471f"), looks := false }, kinds := [], alts := [], laidByText := true, laidKinds := [.sentinel, .sentinel], laidTests := true, laidLooks := .later }
def FnMetaCardSaid : Prop := Claim7.holds Tryd.pinned (.plain (OpenSpec.ofChange fnMetaSpec)) fnMetaCard

/-- THE TIED CARD OF 'laws.FnExactTear'. -/
def fnExactTearCard : Claim7 := { stood := { row := fnExactTearRow, standIns := [], harness := (true, "3011c846bdea151f03700697dc49081ef203dcb14577519cb37023691aad471f"), looks := false }, kinds := [], alts := [], laidByText := true, laidKinds := [.sentinel, .sentinel], laidTests := true, laidLooks := .later }
def FnExactTearCardSaid : Prop := Claim7.holds Tryd.pinned (.plain (OpenSpec.ofChange fnExactTearSpec)) fnExactTearCard

/-- THE TIED CARD OF 'laws.FnExactDiskRead'. -/
def fnExactDiskReadCard : Claim7 := { stood := { row := fnExactDiskReadRow, standIns := [], harness := (true, "3011c846bdea151f03700697dc49081ef203dcb14577519cb37023691aad471f"), looks := false }, kinds := [], alts := [], laidByText := true, laidKinds := [.sentinel, .sentinel], laidTests := true, laidLooks := .later }
def FnExactDiskReadCardSaid : Prop := Claim7.holds Tryd.pinned (.plain (OpenSpec.ofChange fnExactDiskReadSpec)) fnExactDiskReadCard

/-- THE SECOND FORM's CARD OF 'laws.FnSync'. -/
def fnSyncUptoCard : Claim7 := { stood := { row := fnSyncUptoRow, standIns := [], harness := (true, "3011c846bdea151f03700697dc49081ef203dcb14577519cb37023691aad471f"), looks := false }, kinds := [], alts := [], laidByText := true, laidKinds := [.sentinel, .sentinel], laidTests := true, laidLooks := .later }
def FnSyncUptoCardSaid : Prop := Claim7.holds Tryd.pinned (.plain (OpenSpec.upto fnSyncSpec)) fnSyncUptoCard

/-- THE SECOND FORM's CARD OF 'laws.FnMeta'. -/
def fnMetaUptoCard : Claim7 := { stood := { row := fnMetaUptoRow, standIns := [], harness := (true, "3011c846bdea151f03700697dc49081ef203dcb14577519cb37023691aad471f"), looks := false }, kinds := [], alts := [], laidByText := true, laidKinds := [.sentinel, .sentinel], laidTests := true, laidLooks := .later }
def FnMetaUptoCardSaid : Prop := Claim7.holds Tryd.pinned (.plain (OpenSpec.upto fnMetaSpec)) fnMetaUptoCard

/-- THE SECOND FORM's CARD OF 'laws.FnExactTear'. -/
def fnExactTearUptoCard : Claim7 := { stood := { row := fnExactTearUptoRow, standIns := [], harness := (true, "3011c846bdea151f03700697dc49081ef203dcb14577519cb37023691aad471f"), looks := false }, kinds := [], alts := [], laidByText := true, laidKinds := [.sentinel, .sentinel], laidTests := true, laidLooks := .later }
def FnExactTearUptoCardSaid : Prop := Claim7.holds Tryd.pinned (.plain (OpenSpec.upto fnExactTearSpec)) fnExactTearUptoCard

/-- THE SECOND FORM's CARD OF 'laws.FnExactDiskRead'. -/
def fnExactDiskReadUptoCard : Claim7 := { stood := { row := fnExactDiskReadUptoRow, standIns := [], harness := (true, "3011c846bdea151f03700697dc49081ef203dcb14577519cb37023691aad471f"), looks := false }, kinds := [], alts := [], laidByText := true, laidKinds := [.sentinel, .sentinel], laidTests := true, laidLooks := .later }
def FnExactDiskReadUptoCardSaid : Prop := Claim7.holds Tryd.pinned (.plain (OpenSpec.upto fnExactDiskReadSpec)) fnExactDiskReadUptoCard
end Rows
end Go.Proofs.YtcclhieaiaalkaaDoor
