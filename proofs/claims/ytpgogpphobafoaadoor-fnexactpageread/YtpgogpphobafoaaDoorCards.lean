/-
  DERIVED. GIVEN WITH THE SEED: THE CARDS: each row of YtpgogpphobafoaaDoorRows.lean that lists a variable, with what it lists TIED to the program's text (the seventh form; the later family's looks); each row that meets fmt, with fmt's text TOLD by the authors' own Lean function (tested against real Go, not proved from fmt's source: count such statements apart). THE CARD IS WHAT COUNTS. Prove the row's statement (the work); the ties are given (YtpgogpphobafoaaDoorTie.lean); close each card by the builder's one call (the guide's Derived/Test/ToyasCard.lean, 'card_holds'). Laid BY PROGRAM, IN A SANDBOX (cutbox-door.mjs). By AI agents, Wed Nov 11 2026. No macro, syntax, notation, axiom, sorry.
-/
import Derived.Test.YtpgogpphobafoaaDoorRows
import GoSem.ClaimSeven
namespace Go.Proofs.YtpgogpphobafoaaDoor
namespace Rows

/-- THE TIED CARD OF 'laws.FnExactPageBytes'. -/
def fnExactPageBytesCard : Claim7 := { stood := { row := fnExactPageBytesRow, standIns := [], harness := (true, "59d1b6649bbe56d37cc9228127f1afd94152f1ef6bcf9f8be8ff5a68f9a5ca0e"), looks := false }, kinds := [], alts := [], laidByText := true, laidKinds := [.sentinel, .sentinel, .sentinel], laidTests := true, laidLooks := .later }
def FnExactPageBytesCardSaid : Prop := Claim7.holds Tryd.pinned (.plain (OpenSpec.ofChange fnExactPageBytesSpec)) fnExactPageBytesCard

/-- THE TIED CARD OF 'laws.FnExactPageRead'. -/
def fnExactPageReadCard : Claim7 := { stood := { row := fnExactPageReadRow, standIns := [], harness := (true, "59d1b6649bbe56d37cc9228127f1afd94152f1ef6bcf9f8be8ff5a68f9a5ca0e"), looks := false }, kinds := [], alts := [], laidByText := true, laidKinds := [.sentinel, .sentinel, .sentinel, .sentinel], laidTests := true, laidLooks := .later }
def FnExactPageReadCardSaid : Prop := Claim7.holds Tryd.pinned (.plain (OpenSpec.ofChange fnExactPageReadSpec)) fnExactPageReadCard

/-- THE TIED CARD OF 'laws.FnExactMetaBytes'. -/
def fnExactMetaBytesCard : Claim7 := { stood := { row := fnExactMetaBytesRow, standIns := [], harness := (true, "59d1b6649bbe56d37cc9228127f1afd94152f1ef6bcf9f8be8ff5a68f9a5ca0e"), looks := false }, kinds := [], alts := [], laidByText := true, laidKinds := [.sentinel, .sentinel], laidTests := true, laidLooks := .later }
def FnExactMetaBytesCardSaid : Prop := Claim7.holds Tryd.pinned (.plain (OpenSpec.ofChange fnExactMetaBytesSpec)) fnExactMetaBytesCard

/-- THE TIED CARD OF 'laws.FnExactMetaRead'. -/
def fnExactMetaReadCard : Claim7 := { stood := { row := fnExactMetaReadRow, standIns := [], harness := (true, "59d1b6649bbe56d37cc9228127f1afd94152f1ef6bcf9f8be8ff5a68f9a5ca0e"), looks := false }, kinds := [], alts := [], laidByText := true, laidKinds := [.sentinel, .sentinel], laidTests := true, laidLooks := .later }
def FnExactMetaReadCardSaid : Prop := Claim7.holds Tryd.pinned (.plain (OpenSpec.ofChange fnExactMetaReadSpec)) fnExactMetaReadCard

/-- THE SECOND FORM's CARD OF 'laws.FnExactPageBytes'. -/
def fnExactPageBytesUptoCard : Claim7 := { stood := { row := fnExactPageBytesUptoRow, standIns := [], harness := (true, "59d1b6649bbe56d37cc9228127f1afd94152f1ef6bcf9f8be8ff5a68f9a5ca0e"), looks := false }, kinds := [], alts := [], laidByText := true, laidKinds := [.sentinel, .sentinel, .sentinel], laidTests := true, laidLooks := .later }
def FnExactPageBytesUptoCardSaid : Prop := Claim7.holds Tryd.pinned (.plain (OpenSpec.upto fnExactPageBytesSpec)) fnExactPageBytesUptoCard

/-- THE SECOND FORM's CARD OF 'laws.FnExactPageRead'. -/
def fnExactPageReadUptoCard : Claim7 := { stood := { row := fnExactPageReadUptoRow, standIns := [], harness := (true, "59d1b6649bbe56d37cc9228127f1afd94152f1ef6bcf9f8be8ff5a68f9a5ca0e"), looks := false }, kinds := [], alts := [], laidByText := true, laidKinds := [.sentinel, .sentinel, .sentinel, .sentinel], laidTests := true, laidLooks := .later }
def FnExactPageReadUptoCardSaid : Prop := Claim7.holds Tryd.pinned (.plain (OpenSpec.upto fnExactPageReadSpec)) fnExactPageReadUptoCard

/-- THE SECOND FORM's CARD OF 'laws.FnExactMetaBytes'. -/
def fnExactMetaBytesUptoCard : Claim7 := { stood := { row := fnExactMetaBytesUptoRow, standIns := [], harness := (true, "59d1b6649bbe56d37cc9228127f1afd94152f1ef6bcf9f8be8ff5a68f9a5ca0e"), looks := false }, kinds := [], alts := [], laidByText := true, laidKinds := [.sentinel, .sentinel], laidTests := true, laidLooks := .later }
def FnExactMetaBytesUptoCardSaid : Prop := Claim7.holds Tryd.pinned (.plain (OpenSpec.upto fnExactMetaBytesSpec)) fnExactMetaBytesUptoCard

/-- THE SECOND FORM's CARD OF 'laws.FnExactMetaRead'. -/
def fnExactMetaReadUptoCard : Claim7 := { stood := { row := fnExactMetaReadUptoRow, standIns := [], harness := (true, "59d1b6649bbe56d37cc9228127f1afd94152f1ef6bcf9f8be8ff5a68f9a5ca0e"), looks := false }, kinds := [], alts := [], laidByText := true, laidKinds := [.sentinel, .sentinel], laidTests := true, laidLooks := .later }
def FnExactMetaReadUptoCardSaid : Prop := Claim7.holds Tryd.pinned (.plain (OpenSpec.upto fnExactMetaReadSpec)) fnExactMetaReadUptoCard
end Rows
end Go.Proofs.YtpgogpphobafoaaDoor
