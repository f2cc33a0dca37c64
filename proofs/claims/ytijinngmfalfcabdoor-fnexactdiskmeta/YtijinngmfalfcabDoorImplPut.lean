/-
  What the program's PutVar answers, for every slice of bytes and every number: the same as the model's.
-/
import Derived.Test.YtijinngmfalfcabDoorWriter
import Derived.Test.YtijinngmfalfcabDoorSpecPut
namespace Go.Proofs.YtijinngmfalfcabDoor
open Go.RowKit

theorem addSt_start (most : Nat) (zs : List Int) : addSt most (some []) zs = if zs.length ≤ most then some zs else none := by
  unfold addSt; simp
theorem addSt_two (most : Nat) (xs ys : List Int) : addSt most (addSt most (some []) xs) ys = if (xs ++ ys).length ≤ most then some (xs ++ ys) else none := by
  rw [addSt_addSt, addSt_start]
theorem Ob.mono {w : World} {B B' : Nat} {v : Value} {zs : List Int} (h : Ob w B v zs) (hB : B' ≤ B) : Ob w B' v zs := by
  obtain ⟨h1, h2⟩ := h
  refine ⟨h1, ?_⟩
  rcases h2 with h | ⟨g, cap, cur, e, hbg, hr⟩
  · exact .inl h
  · exact .inr ⟨g, cap, cur, e, Nat.le_trans hB hbg, hr⟩
/-- What told tells, as a put. -/
theorem told_put (w w1 : World) (most : Nat) (st : Option (List Int)) (h : Wr w1 w.heap.size most st) (hb : Below w.heap.size w w1) :
    Calls Tryd.prog 83 #[.pointer (some ⟨w.heap.size, 0, none⟩)] w1 fun e w' => ∃ v b, e = .returned (.tuple #[v, .bool b]) ∧ (∃ a n c, v = .slice a n c) ∧ Put w st (.returned (.tuple #[v, .bool b])) w' := by
  cases st with
  | none =>
    refine (told_none w.heap.size most w1 h).mono ?_
    rintro e w' ⟨rfl, rfl⟩
    exact ⟨_, _, rfl, ⟨_, _, _, rfl⟩, hb, .inl ⟨rfl, rfl⟩⟩
  | some out =>
    refine (told_some w.heap.size most out w1 h).mono ?_
    rintro e w' ⟨v, rfl, ho, rfl⟩
    obtain ⟨a, c, hv⟩ := ho.shape
    exact ⟨_, _, rfl, ⟨_, _, _, hv⟩, hb, .inr ⟨v, out, rfl, rfl, ho.mono (Nat.le_succ _)⟩⟩
end Go.Proofs.YtijinngmfalfcabDoor

