/-
  Slices of parts: what is held in one, and the built-in append of one part.
-/
import Derived.Test.YtbfgjadonilonaaPart
import Derived.Test.YtbfgjadonilonaaRngBA
import Derived.Deep.AppendSrc
namespace Go.Proofs.Ytbfgjadonilonaa
open Go.RowKit
theorem infoPart : (Try.prog.info? 50).map (fun i => (i.zero, i.size, i.bytes)) = some (some (.agg #[.int .i64 0, .string ⟨#[]⟩, .string ⟨#[]⟩]), 3, 40) := by kernel_rfl
/-- The cells of a list of parts. -/
def pcells : List (Int × ByteArray × ByteArray) → List Value
  | [] => []
  | p :: ps => .int .i64 p.1 :: .string p.2.1 :: .string p.2.2 :: pcells ps
theorem pcells_length (ps : List (Int × ByteArray × ByteArray)) : (pcells ps).length = ps.length * 3 := by
  induction ps with
  | nil => rfl
  | cons p ps ih => simp only [pcells, List.length_cons, ih]; omega
theorem pcells_append (ps qs : List (Int × ByteArray × ByteArray)) : pcells (ps ++ qs) = pcells ps ++ pcells qs := by
  induction ps with
  | nil => rfl
  | cons p ps ih => simp only [pcells, List.cons_append, ih]
/-- The slice value v owns a row of its own, from block number B on, that holds the parts ps. -/
def Pw (w : World) (B : Nat) (v : Value) (ps : List (Int × ByteArray × ByteArray)) : Prop := w.ownsRow B 50 3 v ps.length (pcells ps)
theorem Pw.alloc {w : World} {B : Nat} {v : Value} {ps : List (Int × ByteArray × ByteArray)} (h : Pw w B v ps) (o : Obj) : Pw (w.alloc o) B v ps := World.ownsRow.alloc h o
theorem Pw.below {w w' : World} {B : Nat} {v : Value} {ps : List (Int × ByteArray × ByteArray)} (h : Pw w B v ps) (hb : Below w.heap.size w w') : Pw w' B v ps :=
  World.ownsRow.kept (row := none) h ⟨hb.os, hb.tape, hb.output, hb.size, fun k hk _ => hb.block k hk⟩ (by cases hv : v.ownBlock <;> simp)
theorem pw_nil (w : World) (B : Nat) : Pw w B (.slice none 0 0) [] := World.ownsRow_nil w B _ _
theorem pw_new (w : World) (B : Nat) (hB : B ≤ w.heap.size) : Pw (w.alloc (.cells #[] 50)) B (.slice (some ⟨w.heap.size, 0, none⟩) 0 0) [] :=
  ⟨rfl, .inr ⟨w.heap.size, 0, #[], rfl, hB, heap_alloc_new w _, Nat.le_refl _, by decide, rfl, rfl⟩⟩
theorem Pw.belowOf {w w1 w2 : World} {B : Nat} {v : Value} {ps : List (Int × ByteArray × ByteArray)} (h : Pw w1 B v ps) (hb : Below B w w1) (hB : B ≤ w1.heap.size) (hg : w1.grownBy w2 v.ownBlock) : Below B w w2 :=
  hb.grown hg hB fun k hk => (World.ownsRow.lt h k hk).1
theorem run_append_part {w : World} (ty : TypeId) (base : Nat) (v : Value) (ps : List (Int × ByteArray × ByteArray)) (hown : Pw w base v ps) (g : Nat) (i : Int) (lo hi : ByteArray)
    (c0 : w.cell? ⟨g, 0, none⟩ = some (.int .i64 i)) (c1 : w.cell? ⟨g, 1, none⟩ = some (.string lo)) (c2 : w.cell? ⟨g, 2, none⟩ = some (.string hi)) (hb : ps.length ≤ 1048577) (hbase : base ≤ w.heap.size) :
    ∃ v' w', (Builtin.append_ #[37, 37] ty #[v, .slice (some ⟨g, 0, none⟩) 1 1]).run Try.prog w = .ok v' w' ∧ Pw w' base v' (ps ++ [(i, lo, hi)]) ∧ w.grownBy w' v.ownBlock := by
  obtain ⟨i0, hi0, hz0, hz1, hz2⟩ := info_parts infoPart
  obtain ⟨v', w', hr, ho, hg, _⟩ := run_append_own (P := Try.prog) w base 37 ty 50 i0 (.agg #[.int .i64 0, .string ⟨#[]⟩, .string ⟨#[]⟩]) 3 40 Try.underlying37 hi0 hz0 hz1 hz2 rfl (by decide) v ps.length (pcells ps) hown ⟨g, 0, none⟩ 1 1 (pcells [(i, lo, hi)])
    rfl (by
      intro j u hu
      rw [Addr.add_lit]
      match j, hu with
      | 0, hu => cases hu; exact c0
      | 1, hu => cases hu; exact c1
      | 2, hu => cases hu; exact c2
      | j + 3, hu => cases hu) (by
      intro u hu
      simp [pcells] at hu
      rcases hu with rfl | rfl | rfl <;> rfl) (by unfold maxLen; omega) (by omega) hbase
  refine ⟨v', w', hr, ?_, hg⟩
  unfold Pw
  rw [List.length_append, pcells_append]
  exact ho
theorem wpList_append_part {w : World} {ops : Array Oper} {rest : List Oper} {o : Oper} {a : Act} {Q : Exit → Act → World → Prop} (hgd : o.guard = none) (s x : Operand)
    (ho : o.op = .call { callee := .builtin .append, args := #[s, x], argTypes := #[37, 37] }) (base : Nat) (v : Value) (ps : List (Int × ByteArray × ByteArray)) (hs : a.eval s = v) (hown : Pw w base v ps)
    (g : Nat) (i : Int) (lo hi : ByteArray) (hx : a.eval x = .slice (some ⟨g, 0, none⟩) 1 1) (c0 : w.cell? ⟨g, 0, none⟩ = some (.int .i64 i)) (c1 : w.cell? ⟨g, 1, none⟩ = some (.string lo)) (c2 : w.cell? ⟨g, 2, none⟩ = some (.string hi))
    (hb : ps.length ≤ 1048577) (hbase : base ≤ w.heap.size)
    (h : ∀ v' w', Pw w' base v' (ps ++ [(i, lo, hi)]) → w.grownBy w' v.ownBlock → wpList Try.prog ops Q rest (a.put o.dst v') w') : wpList Try.prog ops Q (o :: rest) a w := by
  refine wpList_plain hgd fun K hK => ?_
  obtain ⟨v', w', hr, h2, h3⟩ := run_append_part (w := w) o.type base v ps hown g i lo hi c0 c1 c2 hb hbase
  unfold Oper.wp execOp
  simp only [ho, resolve, invoke, builtin, Sem.run_bind, Sem.run_pure, Result.andThen_ok, List.map_toArray, List.map_cons, List.map_nil, hs, hx, hr]
  exact hK _ _ (h v' w' h2 h3)
theorem Pw.shape {w : World} {B : Nat} {v : Value} {ps : List (Int × ByteArray × ByteArray)} (h : Pw w B v ps) : ∃ a c, v = .slice a ps.length c := by
  rcases h.2 with ⟨rfl, h0⟩ | ⟨g, cap, cur, rfl, _⟩
  · exact ⟨none, 0, by rw [h0]⟩
  · exact ⟨_, cap, rfl⟩
/-- The parts of the shards ahead of the k-th that a range meets. -/
def cutTo (ss : List ByteArray) (lo hi : ByteArray) : Nat → List (Int × ByteArray × ByteArray)
  | 0 => []
  | k + 1 => cutTo ss lo hi k ++ (if (pOk ss (k : Int) && bth (pLo ss (k : Int)) (pHi ss (k : Int)) lo hi) = true then [((k : Int), bLo (pLo ss (k : Int)) (pHi ss (k : Int)) lo hi, bHi (pLo ss (k : Int)) (pHi ss (k : Int)) lo hi)] else [])
theorem cutTo_length (ss : List ByteArray) (lo hi : ByteArray) (k : Nat) : (cutTo ss lo hi k).length ≤ k := by
  induction k with
  | zero => exact Nat.le_refl _
  | succ k ih => simp only [cutTo, List.length_append]; split <;> simp <;> omega
def cutL (ss : List ByteArray) (lo hi : ByteArray) : List (Int × ByteArray × ByteArray) := cutTo ss lo hi (ss.length + 1)
theorem cutTo_no (ss : List ByteArray) (lo hi : ByteArray) (h : sOk ss = false) (k : Nat) : cutTo ss lo hi k = [] := by
  induction k with
  | zero => rfl
  | succ k ih => simp [cutTo, ih, pOk, h]
def pAt (ps : List (Int × ByteArray × ByteArray)) (i : Nat) : Int × ByteArray × ByteArray := ps[i]?.getD (0, ⟨#[]⟩, ⟨#[]⟩)
theorem pcells_at (ps : List (Int × ByteArray × ByteArray)) : ∀ i, i < ps.length → (pcells ps)[i * 3]? = some (.int .i64 (pAt ps i).1) ∧ (pcells ps)[i * 3 + 1]? = some (.string (pAt ps i).2.1) ∧ (pcells ps)[i * 3 + 2]? = some (.string (pAt ps i).2.2) := by
  induction ps with
  | nil => intro i h; exact absurd h (Nat.not_lt_zero _)
  | cons p ps ih =>
    intro i h
    cases i with
    | zero => exact ⟨rfl, rfl, rfl⟩
    | succ i =>
      have := ih i (by simpa using h)
      have e : (i + 1) * 3 = i * 3 + 3 := by omega
      rw [e]
      exact this
theorem Pw.cell {w : World} {B g cap : Nat} {ps : List (Int × ByteArray × ByteArray)} (h : Pw w B (.slice (some ⟨g, 0, none⟩) ps.length cap) ps) (i : Nat) (hi : i < ps.length) :
    w.cell? ⟨g, i * 3, none⟩ = some (.int .i64 (pAt ps i).1) ∧ w.cell? ⟨g, i * 3 + 1, none⟩ = some (.string (pAt ps i).2.1) ∧ w.cell? ⟨g, i * 3 + 2, none⟩ = some (.string (pAt ps i).2.2) := by
  obtain ⟨h0, h1, h2⟩ := pcells_at ps i hi
  have c := World.ownsRow.cells h (g := g) rfl
  have c0 := c _ _ h0
  have c1 := c _ _ h1
  have c2 := c _ _ h2
  rw [Addr.add_lit] at c0 c1 c2
  simp only [Nat.zero_add] at c0 c1 c2
  exact ⟨c0, c1, c2⟩
theorem Pw.some {w : World} {B : Nat} {v : Value} {ps : List (Int × ByteArray × ByteArray)} (h : Pw w B v ps) (hp : 0 < ps.length) : ∃ g cap, v = .slice (some ⟨g, 0, none⟩) ps.length cap ∧ B ≤ g ∧ g < w.heap.size := by
  rcases h.2 with ⟨rfl, h0⟩ | ⟨g, cap, cur, rfl, hb, hg, _⟩
  · omega
  · exact ⟨g, cap, rfl, hb, (Array.getElem?_eq_some_iff.1 hg).1⟩
end Go.Proofs.Ytbfgjadonilonaa
