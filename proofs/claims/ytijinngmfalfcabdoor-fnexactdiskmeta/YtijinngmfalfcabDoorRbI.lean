/-
  The writes of a disk walked from behind: the program's iterator.
-/
import Derived.Test.YtijinngmfalfcabDoorDkQ
import Derived.RangeFuncNested
import Derived.RangeFuncBound
import Derived.RangeFuncCalls
import Derived.RangeFuncLeaves
import Derived.Shelf.Abstract
import Derived.Shelf.RegionOpen
import Derived.WalkKit
import Derived.OwnWalkIn
import Derived.TacticsInMore
import Derived.LoopNIn
import Derived.LoopIn
namespace Go.Proofs.YtijinngmfalfcabDoor
open Go.RowKit Go.Shelf
set_option linter.unusedVariables false
attribute [local go_sem] Oper.semAt_some
/-- Where the writes lie: T their places, A N C their bytes' slices. -/
def Lsw (n₀ : Nat) (W : World) (a : Option Addr) (n : Nat) (T : Nat → Int) (A : Nat → Option Addr) (N C : Nat → Nat) : Prop :=
  0 < n → ∃ b off, a = some ⟨b, off, none⟩ ∧ b < n₀ ∧ ∀ i, i < n → W.cell? ⟨b, off + i * 2, none⟩ = some (.int .i64 (T i)) ∧ W.cell? ⟨b, off + i * 2 + 1, none⟩ = some (.slice (A i) (N i) (C i))
theorem Lsw.below {n₀ : Nat} {W W' : World} {a : Option Addr} {n : Nat} {T : Nat → Int} {A : Nat → Option Addr} {N C : Nat → Nat} (h : Lsw n₀ W a n T A N C) (hb : Below n₀ W W') : Lsw n₀ W' a n T A N C := by
  intro hp
  obtain ⟨b, off, rfl, hbn, hc⟩ := h hp
  exact ⟨b, off, rfl, hbn, fun i hi => ⟨(hb.cell (p := ⟨b, off + i * 2, none⟩) hbn).trans (hc i hi).1, (hb.cell (p := ⟨b, off + i * 2 + 1, none⟩) hbn).trans (hc i hi).2⟩⟩
/-- The numbers n - 1, n - 2, .. : k of them. -/
def dnTo (n k : Nat) : List Nat := (List.range k).map fun j => n - 1 - j
theorem dnTo_succ (n k : Nat) : dnTo n (k + 1) = dnTo n k ++ [n - 1 - k] := by simp [dnTo, List.range_succ]
theorem dnTo_length (n k : Nat) : (dnTo n k).length = k := by simp [dnTo]
theorem dnTo_pre (n : Nat) {k m : Nat} (h : k ≤ m) : dnTo n k <+: dnTo n m := by
  obtain ⟨j, rfl⟩ : ∃ j, m = k + j := ⟨m - k, by omega⟩
  clear h
  induction j with
  | zero => exact List.prefix_refl _
  | succ j ih => rw [← Nat.add_assoc, dnTo_succ]; exact ih.trans (List.prefix_append _ _)
set_option maxRecDepth 100000 in
set_option maxHeartbeats 4000000 in
theorem behind1_in (F : Fence) (m : Nat) (h6 : F.fn 69) (hro : F.round = none) (hm : 1 ≤ m) (l Bn n₀ : Nat) (a : Option Addr) (n c : Nat) (T : Nat → Int) (A : Nat → Option Addr) (N C : Nat → Nat) (J Jx : List Nat → World → Prop)
    (hY : ∀ pre x W, J pre W → pre.length < n → YieldAt F (m - 1) Tryd.prog l #[.agg #[.int .i64 (T x), .slice (A x) (N x) (C x)]] W fun e W' =>
      (e = .returned (.bool true) ∧ J (pre ++ [x]) W' ∧ Below n₀ W W') ∨ (e = .returned (.bool false) ∧ Jx (pre ++ [x]) W'))
    (W : World) (hB0 : Bn < n₀) (hBn : W.cell? ⟨Bn, 0, none⟩ = some (.slice a n c)) (hL : Lsw n₀ W a n T A N C) (hn : n ≤ c) (hc : c ≤ 9223372036854775807) (h0 : J [] W) :
    CallsIn F m Tryd.prog 69 #[.func (.yield l) #[] #[], .pointer (some ⟨Bn, 0, none⟩)] W fun e W' => (∃ v, e = .returned v) ∧
      ((∃ ys, ys = dnTo n n ∧ J ys W') ∨ (∃ pre, pre <+: dnTo n n ∧ Jx pre W')) := by
  refine callsIn_of_wp Tryd.func69 rfl h6 ?_ hro
  simp only [Tryd.ntmps69, List.size_toArray, List.length_cons, List.length_nil, Nat.reduceAdd, Nat.reduceSub, Array.replicate_succ, Array.replicate_zero, List.push_toArray, List.append_toArray, List.nil_append, List.cons_append]
  gi_wp2
  gi_loopw [3] (fun p wr => ∃ k : Nat, k ≤ n ∧ p = .int .i64 ((k : Int) - 1) ∧ Hid (J (dnTo n (n - k)) wr) ∧ wr.cell? ⟨Bn, 0, none⟩ = some (.slice a n c) ∧ Hid (Lsw n₀ wr a n T A N C)) (fun p _ => (intOf p + 1).toNat)
  case atStart => exact ⟨n, Nat.le_refl _, by go_num, by rw [Nat.sub_self]; exact h0, hBn, hL⟩
  case round =>
    obtain ⟨k, hk, rfl, HJ, hcB, HL⟩ := hrel
    cases k with
    | zero =>
      have HJ' : Hid (J (dnTo n n) wr) := HJ.out
      have hneg : ¬ (0 : Int) ≤ ((0 : Nat) : Int) - 1 := by omega
      gi_wp2
      go_end0
      exact ⟨⟨_, rfl⟩, .inl HJ'.out⟩
    | succ j =>
      obtain ⟨b, off, rfl, hbn, hcell⟩ := HL.out (by omega)
      obtain ⟨m0, m1⟩ := hcell j (by omega)
      have hj : (((j + 1 : Nat) : Int) - 1) = (j : Int) := by omega
      rw [hj]
      have hjn : (j : Int) < (n : Int) := by omega
      have HP : Hid (dnTo n (n - j) = dnTo n (n - (j + 1)) ++ [j]) := by
        show _ = _
        rw [show n - j = n - (j + 1) + 1 by omega, dnTo_succ, show n - 1 - (n - (j + 1)) = j by omega]
      obtain ⟨fn, tmps, assign, body, hy, hR⟩ := hY _ j wr HJ.out (by rw [dnTo_length]; omega)
      clear hcell
      gi_wp2
      refine hR.mono ?_
      rintro e W3 (⟨rfl, hJ3, hk3⟩ | ⟨rfl, hJx3⟩)
      · have hq3 : W3.cell? ⟨Bn, 0, none⟩ = some (.slice (some ⟨b, off, none⟩) n c) := (hk3.cell (p := ⟨Bn, 0, none⟩) hB0).trans hcB
        have HL3 := hid (HL.out.below hk3)
        have HJ3 : Hid (J (dnTo n (n - j)) W3) := by rw [HP.out]; exact hJ3
        clear hJ3 hk3 m0 m1 hcB HL
        gi_wp2
        go_roundw
        case rel => exact ⟨j, by omega, by go_num, HJ3.out, hq3, HL3.out⟩
        case measure => simp [intOf]
      · have HX : Hid (Jx (dnTo n (n - j)) W3) := by rw [HP.out]; exact hJx3
        gi_wp2
        refine bodyPost_ret (results_none rfl _ _ _) rfl ?_
        exact ⟨⟨_, rfl⟩, .inr ⟨_, dnTo_pre n (by omega), HX.out⟩⟩
theorem behind_stops (F : Fence) (m : Nat) (h6 : F.fn 69) (hro : F.round = none) (hm : 1 ≤ m) (Bn n₀ : Nat) (a : Option Addr) (n c : Nat) (T : Nat → Int) (A : Nat → Option Addr) (N C : Nat → Nat) (w : World) (hB0 : Bn < n₀) (hn₀ : n₀ ≤ w.heap.size)
    (hBn : w.cell? ⟨Bn, 0, none⟩ = some (.slice a n c)) (hL : Lsw n₀ w a n T A N C) (hn : n ≤ c) (hc : c ≤ 9223372036854775807) :
    SeqStopsK F m Tryd.prog 69 #[.pointer (some ⟨Bn, 0, none⟩)] (fun x : Nat => #[Value.agg #[.int .i64 (T x), .slice (A x) (N x) (C x)]]) (Below n₀) (fun ys => ys = dnTo n n) (fun pre => pre <+: dnTo n n) n w := fun l J Jx W hW _ _ hY h0 =>
  behind1_in F m h6 hro hm l Bn n₀ a n c T A N C J Jx hY W hB0 ((hW.cell (p := ⟨Bn, 0, none⟩) (by show Bn < _; omega)).trans hBn) (hL.below (hW.mono hn₀)) hn hc h0
set_option maxHeartbeats 1000000 in
theorem behind_in (F : Fence) (m : Nat) (h5 : F.fn 49) (hro : F.round = none) (a : Option Addr) (n c : Nat) (w : World) :
    CallsIn F m Tryd.prog 49 #[.slice a n c] w fun e w' => e = .returned (.func (.func 69) #[] #[.pointer (some ⟨w.heap.size, 0, none⟩)]) ∧ w' = w.alloc (.cells #[.slice a n c] 29) := by
  refine callsIn_of_wp Tryd.func49 rfl h5 ?_ hro
  simp only [Tryd.ntmps49, List.size_toArray, List.length_cons, List.length_nil, Nat.reduceAdd, Nat.reduceSub, Array.replicate_succ, Array.replicate_zero, List.push_toArray, List.append_toArray, List.nil_append, List.cons_append]
  gi_wp2
  go_ret
  exact ⟨rfl, rfl⟩
end Go.Proofs.YtijinngmfalfcabDoor

