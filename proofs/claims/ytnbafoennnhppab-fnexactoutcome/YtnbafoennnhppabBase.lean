/-
  What the law's helpers do, for every slice of bytes: toByteS makes a new row with the same bytes; eqByteS tells whether two slices have the same bytes.
-/
import Derived.Test.YtnbafoennnhppabRows
import Derived.WalkKit
import Derived.WalkSpells
import Derived.Deep.QuietTactic
import Derived.BigQuiet
import Derived.Deep.OwnRows
namespace Go.Proofs.Ytnbafoennnhppab
open Go.RowKit

theorem hid {p : Prop} (h : p) : Hid p := h
theorem infoU8 : (Try.prog.info? 5).map (fun i => (i.zero, i.size, i.bytes)) = some (some (.int .u8 0), 1, 1) := by kernel_rfl

/-- The slice value '.slice a n c' has in the world w the bytes zs. -/
def Rd (w : World) (a : Option Addr) (n c : Nat) (zs : List Int) : Prop :=
  n = zs.length ∧ n ≤ c ∧ c ≤ 9223372036854775807 ∧ n ≤ 140737488355328 ∧ (∀ i : Nat, 0 ≤ zs[i]?.getD 0 ∧ zs[i]?.getD 0 ≤ 255) ∧
    (0 < n → ∃ b off, a = some ⟨b, off, none⟩ ∧ b < w.heap.size ∧ ∀ i, i < n → w.cell? ⟨b, off + i, none⟩ = some (.int .u8 (zs[i]?.getD 0)))

def byteVals (zs : List Int) : Array Value := (zs.map (Value.int .u8)).toArray

/-- The row that toByteS fills, k of its bytes being there. -/
def part (zs : List Int) (k : Nat) : Array Value := ((zs.take k).map (Value.int .u8) ++ List.replicate (zs.length - k) (Value.int .u8 0)).toArray
theorem part_zero (zs : List Int) : part zs 0 = madeCells #[.int .u8 0] zs.length := by
  apply Array.ext
  · simp [part, madeCells]
  · intro i h1 h2; simp [part, madeCells, Nat.mod_one]
theorem part_all (zs : List Int) : part zs zs.length = byteVals zs := by simp [part, byteVals]
theorem part_at (zs : List Int) (k : Nat) (h : k < zs.length) : (part zs k)[k]? = some (.int .u8 0) := by
  simp only [part, List.getElem?_toArray]
  have hl : ((zs.take k).map (Value.int .u8)).length = k := by simp; omega
  rw [List.getElem?_append_right (by omega), hl, List.getElem?_replicate]
  rw [if_pos (by omega)]
theorem part_set (zs : List Int) (k : Nat) (h : k < zs.length) : (part zs k).setIfInBounds k (.int .u8 (zs[k]?.getD 0)) = part zs (k + 1) := by
  have e : zs[k]?.getD 0 = zs[k] := by simp [h]
  rw [e]
  simp only [part, List.setIfInBounds_toArray]
  congr 1
  have hl : ((zs.take k).map (Value.int .u8)).length = k := by simp; omega
  rw [List.set_append_right _ _ (by omega), hl]
  have h2 : zs.length - k = (zs.length - (k + 1)) + 1 := by omega
  rw [List.take_succ_eq_append_getElem h, h2, List.replicate_succ, List.map_append, Nat.sub_self, List.set_cons_zero, List.append_assoc]
  rfl


theorem Rd.len {w : World} {a : Option Addr} {n c : Nat} {zs : List Int} (h : Rd w a n c zs) : n = zs.length := h.1

/-- A slice reads as before in a world that has kept what lay below. -/
theorem Rd.below {w w' : World} {B : Nat} {a : Option Addr} {n c : Nat} {zs : List Int} (h : Rd w a n c zs) (hB : Below B w w') (hlt : ∀ x, a = some x → 0 < n → x.block < B) : Rd w' a n c zs := by
  obtain ⟨h1, h2, h3, h30, h4, h5⟩ := h
  refine ⟨h1, h2, h3, h30, h4, fun hp => ?_⟩
  obtain ⟨b, off, rfl, hb, hc⟩ := h5 hp
  refine ⟨b, off, rfl, Nat.lt_of_lt_of_le hb hB.size, fun i hi => ?_⟩
  rw [hB.cell (p := ⟨b, off + i, none⟩) (hlt ⟨b, off, none⟩ rfl hp)]
  exact hc i hi
theorem Rd.lt {w : World} {a : Option Addr} {n c : Nat} {zs : List Int} (h : Rd w a n c zs) : ∀ x, a = some x → 0 < n → x.block < w.heap.size := by
  intro x hx hp
  obtain ⟨b, off, ha, hb, _⟩ := h.2.2.2.2.2 hp
  rw [ha] at hx; cases hx; exact hb
theorem Rd.kept {w w' : World} {a : Option Addr} {n c : Nat} {zs : List Int} (h : Rd w a n c zs) (hB : Below w.heap.size w w') : Rd w' a n c zs := h.below hB h.lt
/-- The row that toByteS leaves. -/
theorem rd_new (w : World) (zs : List Int) (hl : zs.length ≤ 140737488355328) (hb : ∀ i : Nat, 0 ≤ zs[i]?.getD 0 ∧ zs[i]?.getD 0 ≤ 255) :
    Rd (w.alloc (.cells (byteVals zs) 5)) (some ⟨w.heap.size, 0, none⟩) zs.length zs.length zs := by
  refine ⟨rfl, Nat.le_refl _, by omega, hl, hb, fun _ => ⟨w.heap.size, 0, rfl, by simp, fun i hi => ?_⟩⟩
  rw [World.cell?_alloc_at (hn := rfl)]
  simp [byteVals, hi]

theorem take_succ_eq {xs ys : List Int} {k : Nat} (hx : k < xs.length) (hy : k < ys.length) (h : xs.take k = ys.take k) (e : xs[k]?.getD 0 = ys[k]?.getD 0) : xs.take (k + 1) = ys.take (k + 1) := by
  rw [List.take_succ_eq_append_getElem hx, List.take_succ_eq_append_getElem hy, h]
  simp [hx, hy] at e
  rw [e]

/-- What is known of a slice of integers that came in: it is nil; or it leads to a row of 'cap' cells, the first 'len' of which are its elements. -/
def IsRow (k : IntKind) (w : World) (a : Option Addr) (len cap : Nat) (zs : List Int) : Prop :=
  (a = none ∧ len = 0 ∧ cap = 0 ∧ zs = []) ∨
  ∃ x, a = some x ∧ len ≤ cap ∧ cap ≤ maxLen ∧ zs.length = cap ∧ (∀ i, i < zs.length → w.cell? (x.add i) = some (.int k (zs.getD i 0))) ∧ ∀ n ∈ zs, (Lit.int k n).wf = true
theorem block_lt {w : World} {x : Addr} {v : Value} (h : w.cell? x = some v) : x.block < w.heap.size := by
  rcases Nat.lt_or_ge x.block w.heap.size with h' | h'
  · exact h'
  · simp [World.cell?, Array.getElem?_eq_none h'] at h
theorem rd_of_row {w : World} {a : Option Addr} {len cap : Nat} {zs : List Int} (h : IsRow .u8 w a len cap zs) (hl : len ≤ 140737488355328) : Rd w a len cap (zs.take len) := by
  rcases h with ⟨rfl, rfl, rfl, rfl⟩ | ⟨x, rfl, h1, h2, h3, h4, h5⟩
  · exact ⟨rfl, Nat.le_refl _, by omega, by omega, by simp, fun h => by omega⟩
  · refine ⟨by simp; omega, h1, by unfold maxLen at h2; omega, hl, fun i => ?_, fun hp => ?_⟩
    · by_cases hi : i < (zs.take len).length
      · have hm : (zs.take len)[i] ∈ zs := List.mem_of_mem_take (List.getElem_mem hi)
        have := h5 _ hm
        rw [List.getElem?_eq_getElem hi]
        simpa [Lit.wf, IntKind.min, IntKind.max, IntKind.signed, IntKind.bits] using this
      · rw [List.getElem?_eq_none (by omega)]; simp
    · obtain ⟨b, off, spot⟩ := x
      have hc := h4 0 (by omega)
      have hspot : spot = none := by simpa [Addr.add] using World.cell?_spot hc
      subst hspot
      refine ⟨b, off, rfl, by simpa [Addr.add] using block_lt hc, fun i hi => ?_⟩
      have hci := h4 i (by omega)
      rw [Addr.add_lit] at hci
      rw [hci, List.getElem?_take_of_lt hi]
      rfl
theorem i64_bounds {n : Int} (h : (Lit.int .i64 n).wf = true) : -9223372036854775808 ≤ n ∧ n ≤ 9223372036854775807 := by
  simpa [Lit.wf, IntKind.min, IntKind.max, IntKind.signed, IntKind.bits] using h
theorem Below.drewN' {B : Nat} {a w : World} (h : Below B a w) (q : Nat) : Below B a (w.drewN q) := ⟨h.os, h.tape, h.output, h.size, h.block⟩

end Go.Proofs.Ytnbafoennnhppab

