/-
  What the law's helpers markByteS and heldByteS do: the one writes marks into every byte of a slice and nowhere else; the other finds them all.
-/
import Derived.Test.YtcpdedpgjaimkaaApp
import Derived.Test.YtcpdedpgjaimkaaPlain
namespace Go.Proofs.Ytcpdedpgjaimkaa
open Go.RowKit

/-- The marks that are written from k on. -/
def marks (k : Int) (n : Nat) : List Int := (List.range n).map fun i : Nat => (k + (i : Int)) % 256
theorem marks_len (k : Int) (n : Nat) : (marks k n).length = n := by simp [marks]
theorem marks_at (k : Int) (n i : Nat) (h : i < n) : (marks k n)[i]?.getD 0 = (k + (i : Int)) % 256 := by simp [marks, h]
theorem marks_byte (k : Int) (n : Nat) : ∀ i : Nat, 0 ≤ (marks k n)[i]?.getD 0 ∧ (marks k n)[i]?.getD 0 ≤ 255 := by
  intro i
  by_cases h : i < n
  · rw [marks_at k n i h]; omega
  · rw [List.getElem?_eq_none (by rw [marks_len]; omega)]; simp

/-- The slice's cells may be written. -/
def Wb (w : World) (a : Option Addr) (n : Nat) : Prop := ∀ x, a = some x → ∀ i, i < n → w.frozen? ⟨x.block, x.off + i, none⟩ = false
theorem wb_new (w : World) (cs : Array Value) (t : TypeId) (n : Nat) : Wb (w.alloc (.cells cs t)) (some ⟨w.heap.size, 0, none⟩) n := by
  intro x hx i _
  cases hx
  exact World.frozen?_alloc_at (hn := rfl) ..
theorem Ob.wb {w : World} {B : Nat} {v : Value} {zs : List Int} (h : Ob w B v zs) {a : Option Addr} {n c : Nat} (hv : v = .slice a n c) (m : Nat) : Wb w a m := by
  intro x hx i _
  rcases h.2 with ⟨rfl, h0⟩ | ⟨g, cap, cur, rfl, hbg, hg, hnc, hcm, hcs, htake⟩
  · cases hv; cases hx
  · cases hv; cases hx
    simp [World.frozen?, hg]
theorem Wb.grown {w w' : World} {a : Option Addr} {n : Nat} {row : Option Nat} (h : Wb w a n) (hg : w.grownBy w' row) (hlt : ∀ x, a = some x → 0 < n → x.block < w.heap.size ∧ some x.block ≠ row) : Wb w' a n := by
  intro x hx i hi
  obtain ⟨h1, h2⟩ := hlt x hx (by omega)
  rw [World.frozen?_of_block (w := w) (a := ⟨x.block, x.off + i, none⟩) (hg.block x.block h1 h2)]
  exact h x hx i hi
theorem Wb.below {w w' : World} {B : Nat} {a : Option Addr} {n : Nat} (h : Wb w a n) (hB : Below B w w') (hlt : ∀ x, a = some x → 0 < n → x.block < B) : Wb w' a n := by
  intro x hx i hi
  rw [hB.frozen (p := ⟨x.block, x.off + i, none⟩) (hlt x hx (by omega))]
  exact h x hx i hi
theorem Rd.grown {w w' : World} {a : Option Addr} {n c : Nat} {zs : List Int} {row : Option Nat} (h : Rd w a n c zs) (hg : w.grownBy w' row) (hne : ∀ x, a = some x → some x.block ≠ row) : Rd w' a n c zs := by
  obtain ⟨h1, h2, h3, h30, h4, h5⟩ := h
  refine ⟨h1, h2, h3, h30, h4, fun hp => ?_⟩
  obtain ⟨b, off, rfl, hb, hc⟩ := h5 hp
  refine ⟨b, off, rfl, Nat.lt_of_lt_of_le hb hg.size, fun i hi => ?_⟩
  rw [World.cell?_of_block (w := w) (a := ⟨b, off + i, none⟩) (hg.block b hb (hne _ rfl))]
  exact hc i hi
theorem grownBy_refl (w : World) (row : Option Nat) : w.grownBy w row := ⟨rfl, rfl, rfl, Nat.le_refl _, fun _ _ _ => rfl⟩
theorem grownBy_setCell {w w' : World} {b : Nat} (h : w.grownBy w' (some b)) (o : Nat) (v : Value) : w.grownBy (w'.setCell ⟨b, o, none⟩ v) (some b) :=
  ⟨h.os, h.tape, h.output, by simp [World.setCell]; exact h.size, fun k hk hne => by rw [Below.heap_setCell _ _ _ _ (fun e => hne (by rw [e]))]; exact h.block k hk hne⟩

set_option maxHeartbeats 800000 in
theorem mark_any (a : Option Addr) (n c : Nat) (zs : List Int) (k : Int) (w : World) (h : Rd w a n c zs) (hw : Wb w a n) (hk0 : 0 ≤ k) (hk1 : k ≤ 1099511627776) :
    Calls Try.prog 69 #[.slice a n c, .int .i64 k] w fun e w' => e = .returned (.int .i64 (k + n)) ∧ Rd w' a n c (marks k n) ∧ w.grownBy w' (a.map (·.block)) := by
  obtain ⟨hn0, hc, hm, hnm, hb, hcell⟩ := h
  have HN : Hid (n = zs.length) := hn0
  have HW := hid hw
  clear hn0 hw hb
  rcases Nat.eq_zero_or_pos n with hz | hp
  · subst hz
    clear hcell
    go_enter Try.func69, Try.ntmps69
    go_wp2
    go_loop [1, 5] (fun s i => s = .int .i64 k ∧ i = .int .i64 0) (fun _ _ => 0)
    case atStart => exact ⟨rfl, rfl⟩
    case round =>
      obtain ⟨rfl, rfl⟩ := hrel
      go_wp2
      go_ret
      exact ⟨by simp, ⟨rfl, hc, hm, hnm, marks_byte k 0, fun h => by omega⟩, grownBy_refl _ _⟩
  · obtain ⟨b, off, rfl, hbw, hcell⟩ := hcell hp
    go_enter Try.func69, Try.ntmps69
    go_wp2
    go_loopw [1, 5] (fun s i wr => ∃ j : Nat, j ≤ n ∧ i = .int .i64 j ∧ s = .int .i64 (k + j) ∧ w.grownBy wr (some b) ∧ (∀ i, i < n → wr.frozen? ⟨b, off + i, none⟩ = false) ∧
      (∀ i, i < n → wr.cell? ⟨b, off + i, none⟩ = some (.int .u8 (if i < j then (k + (i : Int)) % 256 else zs[i]?.getD 0)))) (fun _ i _ => n - (intOf i).toNat)
    case atStart => exact ⟨0, Nat.zero_le _, rfl, by simp, grownBy_refl _ _, fun i hi => HW.out _ rfl i hi, fun i hi => by rw [hcell i hi]; simp⟩
    case round =>
      obtain ⟨j, hj, rfl, rfl, hgr, hfr, hcl⟩ := hrel
      clear hcell
      by_cases hlt : j < n
      · have hlt' : (j : Int) < (n : Int) := by omega
        have hcj := hcl j hlt
        have hfj := hfr j hlt
        have HC := hid hcl
        have HF := hid hfr
        have HG := hid hgr
        clear hcl hfr hgr
        rw [if_neg (Nat.lt_irrefl j)] at hcj
        have hwrap : IntKind.u8.wrap (k + (j : Int)) = (k + (j : Int)) % 256 := by simp [IntKind.wrap, IntKind.signed, IntKind.bits]
        go_wp2
        go_roundw
        case rel =>
          refine ⟨j + 1, by omega, by go_num, by go_num, grownBy_setCell HG.out _ _, fun i hi => by simpa using HF.out i hi, fun i hi => ?_⟩
          by_cases e : i = j
          · subst e
            rw [World.cell?_setCell_same _ _ _ hcj]
            simp
          · rw [World.cell?_setCell_other (h := by simp only [ne_eq, Addr.mk.injEq, not_and]; intro _ h; omega), HC.out i hi]
            by_cases e2 : i < j
            · rw [if_pos e2, if_pos (by omega)]
            · rw [if_neg e2, if_neg (by omega)]
        case measure => simp [intOf]; omega
      · have hlt' : ¬ (j : Int) < (n : Int) := by omega
        have hjn : j = n := by omega
        have HC := hid hcl
        have HG := hid hgr
        clear hcl hfr hgr
        subst hjn
        go_wp2
        go_ret
        refine ⟨rfl, ⟨(marks_len k j).symm, hc, hm, hnm, marks_byte k j, fun _ => ⟨b, off, rfl, Nat.lt_of_lt_of_le hbw HG.out.size, fun i hi => ?_⟩⟩, HG.out⟩
        rw [HC.out i hi, if_pos hi, marks_at k j i hi]

set_option maxHeartbeats 800000 in
theorem held_any (a : Option Addr) (n c : Nat) (k : Int) (w : World) (h : Rd w a n c (marks k n)) (hk0 : 0 ≤ k) (hk1 : k ≤ 1099511627776) :
    Calls Try.prog 127 #[.slice a n c, .int .i64 k] w fun e w' => e = .returned (.int .i64 (k + n)) ∧ w = w' := by
  obtain ⟨h1, hc, hm, hnm, hb, hcell⟩ := h
  clear hb h1
  go_enter Try.func127, Try.ntmps127
  go_wp2
  go_loop [1, 5] (fun s i => ∃ j : Nat, j ≤ n ∧ i = .int .i64 j ∧ s = .int .i64 (k + j)) (fun _ i => n - (intOf i).toNat)
  case atStart => exact ⟨0, Nat.zero_le _, rfl, by simp⟩
  case round =>
    obtain ⟨j, hj, rfl, rfl⟩ := hrel
    by_cases hlt : j < n
    · have hlt' : (j : Int) < (n : Int) := by omega
      obtain ⟨b, off, ha, hbw, hcell⟩ := hcell (by omega)
      have hcj := hcell j hlt
      rw [marks_at k n j hlt] at hcj
      clear hcell
      have hwrap : IntKind.u8.wrap (k + (j : Int)) = (k + (j : Int)) % 256 := by simp [IntKind.wrap, IntKind.signed, IntKind.bits]
      have hne : ((k + (j : Int)) % 256 != (k + (j : Int)) % 256) = false := by simp
      rw [ha]
      go_wp2
      go_round
      case rel => exact ⟨j + 1, by omega, by go_num, by go_num⟩
      case measure => simp [intOf]; omega
    · have hlt' : ¬ (j : Int) < (n : Int) := by omega
      have hjn : j = n := by omega
      subst hjn
      go_wp2
      go_ret
      exact ⟨rfl, rfl⟩
end Go.Proofs.Ytcpdedpgjaimkaa

