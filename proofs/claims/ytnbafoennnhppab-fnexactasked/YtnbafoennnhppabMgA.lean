/-
  Messages: when one is right, in plain; MsgOk of the program.
-/
import Derived.Test.YtnbafoennnhppabAkA
import Derived.Test.YtnbafoennnhppabLkA
import Derived.Test.YtnbafoennnhppabPairL
namespace Go.Proofs.Ytnbafoennnhppab
open Go.RowKit
set_option linter.unusedVariables false
def nuOk (nu : Int) : Bool := decide (1 ≤ nu) && decide (nu ≤ 16)
def stN (st : Int) : Bool := decide (0 < st) && decide (st ≤ 1099511627775)
def stC (cd st : Int) : Bool := if cd = 0 then stN st else decide (st = 0)
def noT (st cd : Int) (pn : Nat) : Bool := decide (st = 0) && (decide (cd = 0) && decide (pn = 0))
def upOk (p : PB) : Bool := uOk p.1 && uvOk p.2
def prsOk (ps : List PB) : Bool := decide (ps.length ≤ 8) && ps.all upOk
def tel (st cd : Int) (ps : List PB) : Bool := (decide (0 ≤ cd) && decide (cd ≤ 9)) && (stC cd st && prsOk ps)
def prtOk (kd nu st : Int) (ak az : Bool) (cd : Int) (ps : List PB) (ys : Bool) : Bool :=
  if kd = 1 then nuOk nu && (ak && (noT st cd ps.length && !ys))
  else if kd = 2 then nuOk nu && (tel st cd ps && (az && !ys))
  else if kd = 3 then (decide (cd = 0) && decide (ps.length = 0)) && (nuOk nu && (tel st cd ps && (az && !ys)))
  else if kd = 4 ∨ kd = 5 then decide (nu = 0) && (az && noT st cd ps.length)
  else if kd = 6 ∨ kd = 7 then !ys && (decide (nu = 0) && (az && noT st cd ps.length))
  else false
def mgOk (kd c e n sh nu st : Int) (ak az : Bool) (cd : Int) (ps : List PB) (ys : Bool) : Bool := txOk (c, e, n) && (decide (0 ≤ sh) && (decide (sh < 4) && prtOk kd nu st ak az cd ps ys))
theorem prtOk_1 (nu st : Int) (ak az : Bool) (cd : Int) (ps : List PB) (ys : Bool) : prtOk 1 nu st ak az cd ps ys = (nuOk nu && (ak && (noT st cd ps.length && !ys))) := rfl
theorem prtOk_2 (nu st : Int) (ak az : Bool) (cd : Int) (ps : List PB) (ys : Bool) : prtOk 2 nu st ak az cd ps ys = (nuOk nu && (tel st cd ps && (az && !ys))) := rfl
theorem prtOk_3 (nu st : Int) (ak az : Bool) (cd : Int) (ps : List PB) (ys : Bool) : prtOk 3 nu st ak az cd ps ys = ((decide (cd = 0) && decide (ps.length = 0)) && (nuOk nu && (tel st cd ps && (az && !ys)))) := rfl
theorem prtOk_4 (nu st : Int) (ak az : Bool) (cd : Int) (ps : List PB) (ys : Bool) : prtOk 4 nu st ak az cd ps ys = (decide (nu = 0) && (az && noT st cd ps.length)) := rfl
theorem prtOk_5 (nu st : Int) (ak az : Bool) (cd : Int) (ps : List PB) (ys : Bool) : prtOk 5 nu st ak az cd ps ys = (decide (nu = 0) && (az && noT st cd ps.length)) := rfl
theorem prtOk_6 (nu st : Int) (ak az : Bool) (cd : Int) (ps : List PB) (ys : Bool) : prtOk 6 nu st ak az cd ps ys = (!ys && (decide (nu = 0) && (az && noT st cd ps.length))) := rfl
theorem prtOk_7 (nu st : Int) (ak az : Bool) (cd : Int) (ps : List PB) (ys : Bool) : prtOk 7 nu st ak az cd ps ys = (!ys && (decide (nu = 0) && (az && noT st cd ps.length))) := rfl
theorem prtOk_no {kd : Int} (h : ¬ (1 ≤ kd ∧ kd ≤ 7)) (nu st : Int) (ak az : Bool) (cd : Int) (ps : List PB) (ys : Bool) : prtOk kd nu st ak az cd ps ys = false := by
  unfold prtOk
  rw [if_neg (by omega), if_neg (by omega), if_neg (by omega), if_neg (by omega), if_neg (by omega)]
theorem all_take_succ {α : Type} (l : List α) (f : α → Bool) (d : α) {m : Nat} (h : m < l.length) : (l.take (m + 1)).all f = ((l.take m).all f && f (l[m]?.getD d)) := by
  rw [List.take_succ_eq_append_getElem h, List.all_append]
  simp [h]
theorem all_no {α : Type} (l : List α) (f : α → Bool) (d : α) {m : Nat} (h : m < l.length) (hf : f (l[m]?.getD d) = false) : l.all f = false := by
  rw [List.all_eq_false]
  refine ⟨l[m], List.getElem_mem h, ?_⟩
  simp [h] at hf
  simp [hf]
theorem pAtB_get (l : List PB) (m : Nat) : pAtB l m = l[m]?.getD (⟨#[]⟩, ⟨#[]⟩) := rfl
end Go.Proofs.Ytnbafoennnhppab

