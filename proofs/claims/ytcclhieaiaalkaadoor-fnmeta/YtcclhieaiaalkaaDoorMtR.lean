/-
  MetaRead of the specification; metas are read as they were written, and torn ones aren't read as new ones.
-/
import Derived.Test.YtcclhieaiaalkaaDoorMtB
import Derived.Deep.RegionLaw
import Derived.Deep.DeepCutAuto
namespace Go.Proofs.YtcclhieaiaalkaaDoor
open Go.RowKit
def acc (zs : List Int) : Nat → Int
  | 0 => 0
  | j + 1 => acc zs j * 256 + zAt zs (j + 1)
def mcd (zs : List Int) : Int × Int := (acc zs 5, zAt zs 6 * 256 + zAt zs 7)
def mrd (zs : List Int) : Option (Int × Int) := if zs.length = 512 ∧ mtBytes (mcd zs).1 (mcd zs).2 = some zs then some (mcd zs) else none
theorem acc_rng {zs : List Int} (hb : ∀ i : Nat, 0 ≤ zs[i]?.getD 0 ∧ zs[i]?.getD 0 ≤ 255) : ∀ j, j ≤ 5 → 0 ≤ acc zs j ∧ acc zs j < 1099511627776 ∧ (j ≤ 4 → acc zs j < 4294967296) ∧ (j ≤ 3 → acc zs j < 16777216) ∧ (j ≤ 2 → acc zs j < 65536) ∧ (j ≤ 1 → acc zs j < 256) ∧ (j ≤ 0 → acc zs j < 1)
  | 0, _ => by simp [acc]
  | j + 1, h => by
    have h1 := acc_rng hb j (by omega)
    have h2 := hb (j + 1)
    have e : acc zs (j + 1) = acc zs j * 256 + zs[j + 1]?.getD 0 := rfl
    rw [e]
    omega
theorem results_mt2 {fn : Func} {p u : Tmp} (h : fn.results = #[.cell p 39, .tmp u]) (tmps : Array Value) (w : World) (g : Nat) {x y b : Value} (hp : tmps.getD p undef = .pointer (some ⟨g, 0, none⟩)) (hb : tmps.getD u undef = b)
    (c0 : w.cell? ⟨g, 0, none⟩ = some x) (c1 : w.cell? ⟨g, 1, none⟩ = some y) : (results fn tmps).run Tryd.prog w = .ok (.tuple #[.agg #[x, y], b]) w := by
  have hp' : tmps[p]?.getD undef = .pointer (some ⟨g, 0, none⟩) := by simpa using hp
  have hb' : tmps[u]?.getD undef = b := by simpa using hb
  have hl : (loadVar 39 ⟨g, 0, none⟩).run Tryd.prog w = .ok (.agg #[x, y]) w := by go_simp
  simp [results, h, hp', hb', asAddr, hl, Result.andThen]
def MrPost (o : Option (Int × Int)) (w : World) (e : Ending) (w' : World) : Prop := Below w.heap.size w w' ∧ ((o = none ∧ e = .returned (.tuple #[.agg #[.int .i64 0, .int .i64 0], .bool false])) ∨ ∃ g r, o = some (g, r) ∧ e = .returned (.tuple #[.agg #[.int .i64 g, .int .i64 r], .bool true]))
/-- The boxes of the result and of the meta that is being read. -/
structure Mb (w v : World) (g r : Int) : Prop where
  be : Below w.heap.size w v
  rb : Bk v w.heap.size 39 [.int .i64 0, .int .i64 0]
  bk : Bk v (w.heap.size + 1) 39 [.int .i64 g, .int .i64 r]
theorem Mb.below {w v v' : World} {g r : Int} (h : Mb w v g r) (hb : Below v.heap.size v v') : Mb w v' g r := ⟨btw h.be hb, h.rb.below hb, h.bk.below hb⟩
theorem Mb.set0 {w v : World} {g r : Int} (h : Mb w v g r) (g' : Int) : Mb w (v.setCell ⟨w.heap.size + 1, 0, none⟩ (.int .i64 g')) g' r := ⟨h.be.setCell (p := ⟨w.heap.size + 1, 0, none⟩) (Nat.le_succ _) _, h.rb.setOther (by omega) _ _, h.bk.set 0 _⟩
theorem Mb.set1 {w v : World} {g r : Int} (h : Mb w v g r) (r' : Int) : Mb w (v.setCell ⟨w.heap.size + 1, 1, none⟩ (.int .i64 r')) g r' := ⟨h.be.setCell (p := ⟨w.heap.size + 1, 1, none⟩) (Nat.le_succ _) _, h.rb.setOther (by omega) _ _, h.bk.set 1 _⟩
theorem Mb.cells {w v : World} {g r : Int} (h : Mb w v g r) : v.cell? ⟨w.heap.size + 1, 0, none⟩ = some (.int .i64 g) ∧ v.cell? ⟨w.heap.size + 1, 1, none⟩ = some (.int .i64 r) ∧ v.frozen? ⟨w.heap.size + 1, 0, none⟩ = false ∧ v.frozen? ⟨w.heap.size + 1, 1, none⟩ = false := ⟨h.bk.cell (j := 0) rfl, h.bk.cell (j := 1) rfl, h.bk.free 0, h.bk.free 1⟩
theorem Mb.rcells {w v : World} {g r : Int} (h : Mb w v g r) : v.cell? ⟨w.heap.size, 0, none⟩ = some (.int .i64 0) ∧ v.cell? ⟨w.heap.size, 1, none⟩ = some (.int .i64 0) ∧ v.frozen? ⟨w.heap.size, 0, none⟩ = false ∧ v.frozen? ⟨w.heap.size, 1, none⟩ = false := ⟨h.rb.cell (j := 0) rfl, h.rb.cell (j := 1) rfl, h.rb.free 0, h.rb.free 1⟩
theorem Mb.out {w v : World} {g r : Int} (h : Mb w v g r) (x y : Value) : Below w.heap.size w ((v.setCell ⟨w.heap.size, 0, none⟩ x).setCell ⟨w.heap.size, 1, none⟩ y) := (h.be.setCell (p := ⟨w.heap.size, 0, none⟩) (Nat.le_refl _) _).setCell (p := ⟨w.heap.size, 1, none⟩) (Nat.le_refl _) _
end Go.Proofs.YtcclhieaiaalkaaDoor

