/-
  MetaRead of the specification; metas are read as they were written, and torn ones aren't read as new ones.
-/
import Derived.Test.YtgnjknbgahickabDoorMtB
import Derived.Deep.RegionLaw
import Derived.Deep.DeepCutAuto
namespace Go.Proofs.YtgnjknbgahickabDoor
open Go.RowKit
def acc (zs : List Int) : Nat → Int
  | 0 => 0
  | j + 1 => acc zs j * 256 + zAt zs (j + 1)
def mcd (zs : List Int) : Int × Int := (acc zs 5, zAt zs 6 * 256 + zAt zs 7)
def mrd (zs : List Int) : Option (Int × Int) := if zs.length = 512 ∧ mtBytes (mcd zs).1 (mcd zs).2 = some zs then some (mcd zs) else none
theorem acc_rng {zs : List Int} (hb : ∀ i : Nat, 0 ≤ zs[i]?.getD 0 ∧ zs[i]?.getD 0 ≤ 255) : ∀ j, j ≤ 5 → 0 ≤ acc zs j ∧ acc zs j < 1099511627776 ∧ (j ≤ 4 → acc zs j < 4294967296) ∧ (j ≤ 3 → acc zs j < 16777216) ∧ (j ≤ 2 → acc zs j < 65536) ∧ (j ≤ 1 → acc zs j < 256) ∧ (j ≤ 0 → acc zs j < 1)
  | 0, _ => by simp [acc]
  | j + 1, h => by
    have h1 := acc_rng hb j (by omega)
    have h2 := hb (j + 1)
    have e : acc zs (j + 1) = acc zs j * 256 + zs[j + 1]?.getD 0 := rfl
    rw [e]
    omega
def MrPost (o : Option (Int × Int)) (w : World) (e : Ending) (w' : World) : Prop := Below w.heap.size w w' ∧ ((o = none ∧ e = .returned (.tuple #[.agg #[.int .i64 0, .int .i64 0], .bool false])) ∨ ∃ g r, o = some (g, r) ∧ e = .returned (.tuple #[.agg #[.int .i64 g, .int .i64 r], .bool true]))
end Go.Proofs.YtgnjknbgahickabDoor

