/-
  Outcomes and asks of a log, in plain.
-/
import Derived.Test.YtnbafoennnhppabRyC3
import Derived.Test.YtnbafoennnhppabLkA
import Derived.Deep.WholeRow
import Derived.Deep.DeepCutAuto
namespace Go.Proofs.Ytnbafoennnhppab
open Go.RowKit
set_option linter.unusedVariables false
def RY.tx (r : RY) : TX := (r.c, r.e, r.n)
/-- An ask that x was told of. -/
def dnR (t : TX) (r : RY) : Bool := decide (r.k = 2) && (decide (r.tx = t) && decide (r.co = 0))
def akN (t : TX) (rs : List RY) : Int := ((rs.filter (dnR t)).length : Nat)
def unR (r : RY) : Bool := (decide (r.k = 4) && decide (r.co = 0)) || ((decide (r.k = 2) || decide (r.k = 3)) && decide (1 < r.co))
def ocF (t : TX) : List RY → Int → Int
  | [], x => x
  | r :: rs, x => if r.tx = t then (if r.k = 3 ∧ r.co = 0 then 1 else if unR r = true then ocF t rs 2 else ocF t rs x) else ocF t rs x
def ocV (t : TX) (rs : List RY) : Int := ocF t rs 0
theorem ry_drop {rs : List RY} {k : Nat} (h : k < rs.length) : rs.drop k = ryAt rs k :: rs.drop (k + 1) := by
  rw [List.drop_eq_getElem_cons h]
  simp [ryAt, h]
theorem ocF_step {t : TX} {rs : List RY} {k : Nat} (h : k < rs.length) (x : Int) : ocF t (rs.drop k) x = if (ryAt rs k).tx = t then (if (ryAt rs k).k = 3 ∧ (ryAt rs k).co = 0 then 1 else if unR (ryAt rs k) = true then ocF t (rs.drop (k + 1)) 2 else ocF t (rs.drop (k + 1)) x) else ocF t (rs.drop (k + 1)) x := by
  rw [ry_drop h, ocF]
theorem akN_step {t : TX} {rs : List RY} {k : Nat} (h : k < rs.length) : ((rs.take (k + 1)).filter (dnR t)).length = ((rs.take k).filter (dnR t)).length + (if dnR t (ryAt rs k) = true then 1 else 0) := by
  have e : rs.take (k + 1) = rs.take k ++ [ryAt rs k] := by rw [List.take_succ_eq_append_getElem h]; simp [ryAt, h]
  rw [e, List.filter_append, List.length_append]
  by_cases hd : dnR t (ryAt rs k) = true <;> simp [hd]
theorem akN_le (t : TX) (rs : List RY) (k : Nat) : ((rs.take k).filter (dnR t)).length ≤ k := Nat.le_trans (List.length_filter_le _ _) (by rw [List.length_take]; omega)
theorem wpList_store_new {P : Program} {w : World} {ops : Array Oper} {rest : List Oper} {o : Oper} {a : Act} {Q : Exit → Act → World → Prop} (hgd : o.guard = none) (ty : TypeId) (x y : Operand) (ho : o.op = .store ty x y) (T : TypeId) (old cells : Array Value)
    (hx : a.eval x = .pointer (some ⟨w.heap.size, 0, none⟩)) (hy : a.eval y = .agg cells) (hi : (P.info? ty).map (·.size) = some cells.size) (hold : old.size = cells.size) (h1 : cells.all (·.oneCell') = true)
    (h : wpList P ops Q rest (a.put o.dst undef) (w.alloc (.cells cells T))) : wpList P ops Q (o :: rest) a (w.alloc (.cells old T)) := by
  refine wpList_store_row hgd ty x y ho w.heap.size cells hx hy T old (heap_alloc_new w _) hi hold h1 ?_
  rw [World.setRow_alloc_new]
  exact h
theorem range_below' {w w' : World} {b o : Nat} {cs : List Value} (h : w.rangeAt b o cs) (hb : Below w.heap.size w w') : w'.rangeAt b o cs := range_below h hb
end Go.Proofs.Ytnbafoennnhppab

