/-
  The law FnExactMsgOk answers true at every message; what the laws over a message keep at hand.
-/
import Derived.Test.YtbaggkfgnjenoacDoorMg15
import Derived.Test.YtbaggkfgnjenoacDoorMg28
import Derived.Deep.RegionLaw
import Derived.Deep.DeepCutAuto
import Derived.Deep.WholeRow
namespace Go.Proofs.YtbaggkfgnjenoacDoor
open Go.RowKit
set_option linter.unusedVariables false
theorem ex_load {P : Program} {ρ : Operand → Value} {o : Oper} {w : World} (ty : TypeId) (x : Operand) (ho : o.op = .load ty x) (g : Nat) (hx : ρ x = .pointer (some ⟨g, 0, none⟩)) (t : TypeId) (cs : Array Value) (fr : Nat × Nat) (d : TypeDesc) (hg : w.heap[g]? = some (.cells cs t fr))
    (hu : P.underlying ty = some d) (hd : (match d with | .struct _ | .array _ _ => true | _ => false) = true) (hi : (P.info? ty).map (·.size) = some cs.size) : (execOp ρ o).run P w = .ok (.value (.agg cs)) w := by
  unfold execOp
  simp only [ho, hx, Instr.loadAt, Instr.sureAddr, Sem.run_bind, Sem.run_pure, Result.andThen_ok, run_loadVar_row w g t ty cs fr d hg hu hd hi]
/-- An owned message in its box. -/
structure MB9 (v : World) (b B : Nat) (kd c e n sh nu st k : Int) (ky vl lo hi : ByteArray) (mo : Int) (bk : Bool) (cd : Int) (pa : Option Addr) (pn pc : Nat) (ys : Bool) (ps : List PB) : Prop where
  box : Bk v b 31 [.int .i64 kd, .int .i64 c, .int .i64 e, .int .i64 n, .int .i64 sh, .int .i64 nu, .int .i64 st, .int .i64 k, .string ky, .string vl, .string lo, .string hi, .int .i64 mo, .bool bk, .int .i64 cd, .slice pa pn pc, .bool ys]
  own : oqW v B (.slice pa pn pc) ps
  sep : ∀ y, (Value.slice pa pn pc).ownBlock = some y → y < b
theorem MB9.below {v v' : World} {b B : Nat} {kd c e n sh nu st k : Int} {ky vl lo hi : ByteArray} {mo : Int} {bk : Bool} {cd : Int} {pa : Option Addr} {pn pc : Nat} {ys : Bool} {ps : List PB} (h : MB9 v b B kd c e n sh nu st k ky vl lo hi mo bk cd pa pn pc ys ps) (hb : Below v.heap.size v v') : MB9 v' b B kd c e n sh nu st k ky vl lo hi mo bk cd pa pn pc ys ps := ⟨h.box.below hb, h.own.below hb, h.sep⟩
theorem MB9.to {v v' : World} {R : Nat → Prop} {b B : Nat} {kd c e n sh nu st k : Int} {ky vl lo hi : ByteArray} {mo : Int} {bk : Bool} {cd : Int} {pa : Option Addr} {pn pc : Nat} {ys : Bool} {ps : List PB} (h : MB9 v b B kd c e n sh nu st k ky vl lo hi mo bk cd pa pn pc ys ps) (ho : Only R v v') (hb : ¬ R b) (hR : ∀ y, (Value.slice pa pn pc).ownBlock = some y → ¬ R y) : MB9 v' b B kd c e n sh nu st k ky vl lo hi mo bk cd pa pn pc ys ps := ⟨h.box.to ho hb, h.own.to ho hR, h.sep⟩
theorem MB9.new {v : World} {B : Nat} {kd c e n sh nu st k : Int} {ky vl lo hi : ByteArray} {mo : Int} {bk : Bool} {cd : Int} {pa : Option Addr} {pn pc : Nat} {ys : Bool} {ps : List PB} (h : oqW v B (.slice pa pn pc) ps) : MB9 (v.alloc (.cells #[.int .i64 kd, .int .i64 c, .int .i64 e, .int .i64 n, .int .i64 sh, .int .i64 nu, .int .i64 st, .int .i64 k, .string ky, .string vl, .string lo, .string hi, .int .i64 mo, .bool bk, .int .i64 cd, .slice pa pn pc, .bool ys] 31)) v.heap.size B kd c e n sh nu st k ky vl lo hi mo bk cd pa pn pc ys ps := ⟨Bk.new v _ [_, _, _, _, _, _, _, _, _, _, _, _, _, _, _, _, _], h.below (below_new (Below.refl _ _)), fun y hy => (h.lt hy).2⟩
theorem MB9.cells {v : World} {b B : Nat} {kd c e n sh nu st k : Int} {ky vl lo hi : ByteArray} {mo : Int} {bk : Bool} {cd : Int} {pa : Option Addr} {pn pc : Nat} {ys : Bool} {ps : List PB} (h : MB9 v b B kd c e n sh nu st k ky vl lo hi mo bk cd pa pn pc ys ps) : v.cell? ⟨b, 0, none⟩ = some (.int .i64 kd) ∧ v.cell? ⟨b, 1, none⟩ = some (.int .i64 c) ∧ v.cell? ⟨b, 2, none⟩ = some (.int .i64 e) ∧ v.cell? ⟨b, 3, none⟩ = some (.int .i64 n) ∧ v.cell? ⟨b, 4, none⟩ = some (.int .i64 sh) ∧ v.cell? ⟨b, 5, none⟩ = some (.int .i64 nu) ∧ v.cell? ⟨b, 6, none⟩ = some (.int .i64 st) ∧ v.cell? ⟨b, 7, none⟩ = some (.int .i64 k) ∧ v.cell? ⟨b, 8, none⟩ = some (.string ky) ∧ v.cell? ⟨b, 9, none⟩ = some (.string vl) ∧ v.cell? ⟨b, 10, none⟩ = some (.string lo) ∧ v.cell? ⟨b, 11, none⟩ = some (.string hi) ∧ v.cell? ⟨b, 12, none⟩ = some (.int .i64 mo) ∧ v.cell? ⟨b, 13, none⟩ = some (.bool bk) ∧ v.cell? ⟨b, 14, none⟩ = some (.int .i64 cd) ∧ v.cell? ⟨b, 15, none⟩ = some (.slice pa pn pc) ∧ v.cell? ⟨b, 16, none⟩ = some (.bool ys) := ⟨h.box.cell (j := 0) rfl, h.box.cell (j := 1) rfl, h.box.cell (j := 2) rfl, h.box.cell (j := 3) rfl, h.box.cell (j := 4) rfl, h.box.cell (j := 5) rfl, h.box.cell (j := 6) rfl, h.box.cell (j := 7) rfl, h.box.cell (j := 8) rfl, h.box.cell (j := 9) rfl, h.box.cell (j := 10) rfl, h.box.cell (j := 11) rfl, h.box.cell (j := 12) rfl, h.box.cell (j := 13) rfl, h.box.cell (j := 14) rfl, h.box.cell (j := 15) rfl, h.box.cell (j := 16) rfl⟩
end Go.Proofs.YtbaggkfgnjenoacDoor
