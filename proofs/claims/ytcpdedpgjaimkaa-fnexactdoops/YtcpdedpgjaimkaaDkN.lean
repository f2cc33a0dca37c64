/-
  DiskNew of the specification and of the program.
-/
import Derived.Test.YtcpdedpgjaimkaaDkOk
import Derived.Test.YtcpdedpgjaimkaaDkL
import Derived.Test.YtcpdedpgjaimkaaDkK
namespace Go.Proofs.Ytcpdedpgjaimkaa
open Go.RowKit
set_option linter.unusedVariables false
theorem results_dsk2 {fn : Func} {p u : Tmp} (h : fn.results = #[.cell p 46, .tmp u]) (tmps : Array Value) (w : World) (g : Nat) {x y b : Value} (hp : tmps.getD p undef = .pointer (some ⟨g, 0, none⟩)) (hb : tmps.getD u undef = b)
    (c0 : w.cell? ⟨g, 0, none⟩ = some x) (c1 : w.cell? ⟨g, 1, none⟩ = some y) : (results fn tmps).run Try.prog w = .ok (.tuple #[.agg #[x, y], b]) w := by
  have hp' : tmps[p]?.getD undef = .pointer (some ⟨g, 0, none⟩) := by simpa using hp
  have hb' : tmps[u]?.getD undef = b := by simpa using hb
  simp [results, h, hp', hb', asAddr, load_dsk c0 c1, Result.andThen]
def emD : DK := ⟨[], []⟩
/-- What a function that answers a disk and a bool leaves. -/
def DkPo (o : Option DK) (w : World) (e : Ending) (w' : World) : Prop := ∃ sa sn sc da dn dc V U, e = .returned (.tuple #[.agg #[.slice sa sn sc, .slice da dn dc], .bool o.isSome]) ∧ DO w' w.heap.size (.slice sa sn sc) V (.slice da dn dc) U (o.getD emD) ∧ Below w.heap.size w w'
/-- What a function that answers a disk leaves. -/
def DkPost1 (d : DK) (w : World) (e : Ending) (w' : World) : Prop := ∃ sa sn sc da dn dc V U, e = .returned (.agg #[.slice sa sn sc, .slice da dn dc]) ∧ DO w' w.heap.size (.slice sa sn sc) V (.slice da dn dc) U d ∧ Below w.heap.size w w'
def dnV (n : Int) : Option DK := if 2 ≤ n ∧ n ≤ 400 then some ⟨List.replicate n.toNat [], []⟩ else none
theorem so_made {w : World} {g n B : Nat} (h : Bk w g 119 (List.replicate n (Value.slice none 0 0))) (hn : n ≤ 1048576) (hB : B ≤ g) : SOw w B (.slice (some ⟨g, 0, none⟩) n n) (List.replicate n (Value.slice none 0 0)) (List.replicate n []) := by
  have hu : ∀ i, uAt (List.replicate n (Value.slice none 0 0)) i = .slice none 0 0 := by
    intro i
    by_cases e : i < n
    · simp [uAt, e]
    · simp [uAt, e]
  have hs : ∀ i, shAt (List.replicate n []) i = [] := by
    intro i
    by_cases e : i < n
    · simp [shAt, e]
    · simp [shAt, e]
  refine ⟨by simp, ?_, fun i hi => ?_, fun i j hi hj hij y hy => ?_, fun i hi y hy => ?_⟩
  · rw [List.length_replicate]; exact bk_own h (by simp) hn hB
  · rw [hu, hs]; exact ⟨World.ownsRow_nil _ _ _ _, fun i => by simp⟩
  · rw [hu] at hy; cases hy
  · rw [hu] at hy; cases hy
theorem do_made {w : World} {g n B : Nat} (h : Bk w g 119 (List.replicate n (Value.slice none 0 0))) (hn : n ≤ 1048576) (hB : B ≤ g) : DO w B (.slice (some ⟨g, 0, none⟩) n n) (List.replicate n (Value.slice none 0 0)) (.slice none 0 0) [] ⟨List.replicate n [], []⟩ :=
  ⟨so_made h hn hB, wo_nil w B, fun y _ hy => by
    rcases hy with e | ⟨i, hi, _⟩
    · cases e
    · simp at hi⟩
end Go.Proofs.Ytcpdedpgjaimkaa

