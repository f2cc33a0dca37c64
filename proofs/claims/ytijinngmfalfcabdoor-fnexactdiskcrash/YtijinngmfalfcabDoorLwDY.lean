/-
  The law FnExactDiskSync answers true at every disk.
-/
import Derived.Test.YtijinngmfalfcabDoorLwDN
import Derived.Test.YtijinngmfalfcabDoorDkJ
namespace Go.Proofs.YtijinngmfalfcabDoor
open Go.RowKit
set_option linter.unusedVariables false
theorem DB.here {v : World} {b B : Nat} {sa : Option Addr} {sn sc : Nat} {da : Option Addr} {dn dc : Nat} {V : List Value} {U : List (Int × Value)} {d : DK} (h : DB v b B sa sn sc da dn dc V U d) {y : Nat} (hy : dbl (.slice sa sn sc) V (.slice da dn dc) U y) : B ≤ y ∧ y < b := ⟨(h.own.lt hy).1, h.sep y hy⟩
theorem dsV_small {d : DK} (hb : (∀ i, byt (shAt d.sh i)) ∧ ∀ i, byt (dwAt d.dw i).2) : smallD (dsV d) ∧ dkTot (dsV d) ≤ 4194304 := by
  rw [← dsV_eq hb]
  exact dcV_small hb _
end Go.Proofs.YtijinngmfalfcabDoor

