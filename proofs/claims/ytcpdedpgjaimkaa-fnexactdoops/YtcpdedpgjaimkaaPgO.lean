/-
  Pages as plain data; PageOk of the specification.
-/
import Derived.Test.YtcpdedpgjaimkaaNd
import Derived.Test.YtcpdedpgjaimkaaStrs
namespace Go.Proofs.Ytcpdedpgjaimkaa
open Go.RowKit
/-- A page: its keys, values and kids. -/
structure PG where
  keys : List ByteArray
  vals : List ByteArray
  kids : List Int
def kidOk (k : Int) : Bool := decide (2 ≤ k) && decide (k < 400)
def pgLeaf (p : PG) : Bool := p.vals.all vOk && (decide (1 ≤ p.keys.length) && decide (p.keys.length ≤ 4) && decide (p.vals.length = p.keys.length))
def pgBranch (p : PG) : Bool := p.kids.all kidOk && (decide (2 ≤ p.kids.length) && decide (p.kids.length ≤ 4) && decide (p.keys.length + 1 = p.kids.length) && decide (p.vals.length = 0))
def pgOk (p : PG) : Bool := sOkF p.keys p.keys.length 0 && (if p.kids.length = 0 then pgLeaf p else pgBranch p)
theorem pgOk_leaf {p : PG} (h : sOkF p.keys p.keys.length 0 = true) (h0 : p.kids.length = 0) : pgOk p = pgLeaf p := by rw [pgOk, h, if_pos h0]; rfl
theorem pgOk_branch {p : PG} (h : sOkF p.keys p.keys.length 0 = true) (h0 : ¬ p.kids.length = 0) : pgOk p = pgBranch p := by rw [pgOk, h, if_neg h0]; rfl
theorem pgOk_no {p : PG} (h : sOkF p.keys p.keys.length 0 = false) : pgOk p = false := by rw [pgOk, h]; rfl
theorem all_take {α : Type} (l : List α) (f : α → Bool) (d : α) {k : Nat} (h : k < l.length) : (l.take (k + 1)).all f = ((l.take k).all f && f (l[k]?.getD d)) := by
  rw [List.take_succ_eq_append_getElem h, List.all_append]
  simp [h]
theorem all_no {α : Type} (l : List α) (f : α → Bool) (d : α) {k : Nat} (h : k < l.length) (hf : f (l[k]?.getD d) = false) : l.all f = false := by
  rw [List.all_eq_false]
  refine ⟨l[k], List.getElem_mem h, ?_⟩
  simp [h] at hf
  simp [hf]
theorem pgLeaf_no {p : PG} (h : p.vals.all vOk = false) : pgLeaf p = false := by rw [pgLeaf, h]; rfl
theorem pgBranch_no {p : PG} (h : p.kids.all kidOk = false) : pgBranch p = false := by rw [pgBranch, h]; rfl
/-- The slices lead to the page. -/
structure Pgr (w : World) (S : Nat → Prop) (ka : Option Addr) (kn kc : Nat) (va : Option Addr) (vn vc : Nat) (ia : Option Addr) (jn ic : Nat) (p : PG) : Prop where
  hk : Sr w S (.slice ka kn kc) p.keys
  hv : Sr w S (.slice va vn vc) p.vals
  hi : Ir w S (.slice ia jn ic) p.kids
theorem Pgr.below {w w' : World} {S : Nat → Prop} {ka : Option Addr} {kn kc : Nat} {va : Option Addr} {vn vc : Nat} {ia : Option Addr} {jn ic : Nat} {p : PG} (h : Pgr w S ka kn kc va vn vc ia jn ic p) (hb : Below w.heap.size w w') : Pgr w' S ka kn kc va vn vc ia jn ic p := ⟨h.hk.below hb, h.hv.below hb, h.hi.below hb⟩
theorem Pgr.to {w w' : World} {S R : Nat → Prop} {ka : Option Addr} {kn kc : Nat} {va : Option Addr} {vn vc : Nat} {ia : Option Addr} {jn ic : Nat} {p : PG} (h : Pgr w S ka kn kc va vn vc ia jn ic p) (ho : Only R w w') (hd : ∀ b, S b → b < w.heap.size → ¬ R b) : Pgr w' S ka kn kc va vn vc ia jn ic p := ⟨h.hk.to ho hd, h.hv.to ho hd, h.hi.to ho hd⟩
end Go.Proofs.Ytcpdedpgjaimkaa

