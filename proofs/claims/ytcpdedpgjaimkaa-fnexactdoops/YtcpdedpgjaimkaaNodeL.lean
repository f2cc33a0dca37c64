/-
  What the law's helpers do with nodes and trees: copied, sizes summed, held against each other.
-/
import Derived.Test.YtcpdedpgjaimkaaSiL
import Derived.Test.YtcpdedpgjaimkaaUf
namespace Go.Proofs.Ytcpdedpgjaimkaa
open Go.RowKit

theorem load_node {w : World} {g : Nat} {x y z : Value} (c0 : w.cell? ⟨g, 0, none⟩ = some x) (c1 : w.cell? ⟨g, 1, none⟩ = some y) (c2 : w.cell? ⟨g, 2, none⟩ = some z) :
    (loadVar 158 ⟨g, 0, none⟩).run Try.prog w = .ok (.agg #[x, y, z]) w := by go_simp
theorem results_node {fn : Func} {p : Tmp} (h : fn.results = #[.cell p 158]) (tmps : Array Value) (w : World) (g : Nat) {x y z : Value} (hp : tmps.getD p undef = .pointer (some ⟨g, 0, none⟩))
    (c0 : w.cell? ⟨g, 0, none⟩ = some x) (c1 : w.cell? ⟨g, 1, none⟩ = some y) (c2 : w.cell? ⟨g, 2, none⟩ = some z) : (results fn tmps).run Try.prog w = .ok (.agg #[x, y, z]) w := by
  have hp' : tmps[p]?.getD undef = .pointer (some ⟨g, 0, none⟩) := by simpa using hp
  simp [results, h, hp', asAddr, load_node c0 c1 c2]
end Go.Proofs.Ytcpdedpgjaimkaa

