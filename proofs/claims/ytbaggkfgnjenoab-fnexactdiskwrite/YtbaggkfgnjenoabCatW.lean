/-
  slices.Grow of nil, slices.Concat of two (writes).
-/
import Derived.Test.YtbaggkfgnjenoabDkC
import Derived.Lib.AppendZerosOnto
namespace Go.Proofs.Ytbaggkfgnjenoab
open Go.RowKit
/-- What is made newly: a row of its own, beside all that was there. -/
def NewPostW (E : TypeId) (size n : Nat) (xs : List Value) (w : World) (e : Ending) (w' : World) : Prop := ∃ a c, e = .returned (.slice a n c) ∧ w'.ownsRow w.heap.size E size (.slice a n c) n xs ∧ Below w.heap.size w w'
set_option maxHeartbeats 2000000 in
set_option maxRecDepth 100000 in
theorem growW_any (k : Nat) (w : World) (hk : k ≤ 2097152) : Calls Try.prog 39 #[.slice none 0 0, .int .i64 k] w fun e w' => NewPostW 47 2 0 [] w e w' := by
  obtain ⟨ti, hti, htz, hts, htb⟩ := info_of infoWriteI
  rcases Nat.eq_zero_or_pos k with h0 | hp
  · subst h0
    go_enter Try.func39, Try.ntmps39
    go_wp2
    go_ret
    exact ⟨_, _, rfl, World.ownsRow_nil _ _ _ _, Below.refl _ _⟩
  · have hold : (Builtin.firstCells ti.size 0 (.slice none 0 0)).run Try.prog w.drew = .ok ([] : List Value).toArray w.drew := by simp [Builtin.firstCells]
    have hrz : ∀ ty, (Builtin.append_ #[29, 3] ty #[.slice none 0 0, .int .i64 (k : Int)]).run Try.prog w =
        .ok (.slice (some ⟨w.heap.size, 0, none⟩) k (grownCap w k 0 47)) (w.drew.alloc (.cells (([] : List Value).toArray ++ Builtin.zeroCells (Value.agg #[.int .i64 0, .slice none 0 0]).cells k ++ Builtin.zeroCells (Value.agg #[.int .i64 0, .slice none 0 0]).cells (grownCap w k 0 47 - k)) 47)) := fun ty => by
      have h := Lib.run_append_grow_zeros w 29 3 ty 47 ti _ .i64 .i64 Try.underlying29 Try.underlying3 hti htz none 0 0 [] hold k hp (by omega) (by omega) (by omega) (by rw [htb]; omega) (by rw [htb, Nat.zero_add]; exact growslice_fits (by omega) (by omega))
      rw [Nat.zero_add] at h
      exact h
    have hGn : k ≤ grownCap w k 0 47 := grownCap_ge w _ _ _
    have hG63 : grownCap w k 0 47 ≤ 9223372036854775807 := by
      have := grownCap_le_maxLen w k 0 47 (by unfold maxLen; omega)
      unfold maxLen at this
      omega
    generalize grownCap w k 0 47 = G at *
    have HK : Hid (NewPostW 47 2 0 [] w (.returned (.slice (some ⟨w.heap.size, 0, none⟩) 0 G)) (w.drew.alloc (.cells (([] : List Value).toArray ++ Builtin.zeroCells (Value.agg #[.int .i64 0, .slice none 0 0]).cells k ++ Builtin.zeroCells (Value.agg #[.int .i64 0, .slice none 0 0]).cells (G - k)) 47))) := by
      refine ⟨_, _, rfl, ⟨rfl, .inr ⟨w.heap.size, G, _, rfl, Nat.le_refl _, heap_alloc_new w.drew _, Nat.zero_le _, by unfold maxLen; omega, ?_, by simp⟩⟩, Below.then' (below_drew w) (below_new (Below.refl _ _)) (Nat.le_refl _)⟩
      simp [Builtin.zeroCells, Value.cells]
      omega
    generalize w.drew.alloc (.cells (([] : List Value).toArray ++ Builtin.zeroCells (Value.agg #[.int .i64 0, .slice none 0 0]).cells k ++ Builtin.zeroCells (Value.agg #[.int .i64 0, .slice none 0 0]).cells (G - k)) 47) = W0 at *
    have hk1 : (0 : Int) < (k : Int) := by omega
    clear hold
    go_enter Try.func39, Try.ntmps39
    go_wp2_with (at_builtin; refine Lib.wpList_append_run _ rfl _ _ _ _ rfl _ _ rfl rfl _ _ (hrz _) ?_)
    go_ret
    exact HK.out
set_option maxHeartbeats 4000000 in
set_option maxRecDepth 20000 in
theorem concatW_any (S1 S2 : Nat → Prop) (a1 a2 : Option Addr) (n1 n2 c1 c2 cb : Nat) (xs1 xs2 : List Value) (w : World) (h1 : Rw w S1 (.slice a1 n1 c1) n1 xs1) (h2 : Rw w S2 (.slice a2 n2 c2) n2 xs2) (hc : Bk w cb 29 [.slice a1 n1 c1, .slice a2 n2 c2])
    (hb1 : n1 ≤ 1048576) (hb2 : n2 ≤ 1048576) (hl1 : xs1.length = n1 * 2) (hl2 : xs2.length = n2 * 2) (ho1 : ∀ u ∈ xs1, u.oneCell' = true) (ho2 : ∀ u ∈ xs2, u.oneCell' = true) :
    Calls Try.prog 23 #[.slice (some ⟨cb, 0, none⟩) 2 2] w fun e w' => NewPostW 47 2 (n1 + n2) (xs1 ++ xs2) w e w' := by
  obtain ⟨ti, hti, htz, hts, htb⟩ := info_of infoWriteI
  have H1 := hid h1
  have H2 := hid h2
  have HC := hid hc
  have HX1 := hid (And.intro hl1 ho1)
  have HX2 := hid (And.intro hl2 ho2)
  clear h1 h2 hc hl1 hl2 ho1 ho2
  have c0 := HC.out.cell (j := 0) rfl
  have c1' := HC.out.cell (j := 1) rfl
  go_enter Try.func23, Try.ntmps23
  go_wp2_with fail
  go_loop [3, 11] (fun x i => (i = .int .i64 0 ∧ x = .int .i64 0) ∨ (i = .int .i64 1 ∧ x = .int .i64 (n1 : Int)) ∨ (i = .int .i64 2 ∧ x = .int .i64 ((n1 + n2 : Nat) : Int))) (fun _ i => 2 - (intOf i).toNat)
  case atStart => exact .inl ⟨rfl, rfl⟩
  case round =>
    rcases hrel with ⟨rfl, rfl⟩ | ⟨rfl, rfl⟩ | ⟨rfl, rfl⟩
    · go_wp2
      go_round
      case rel => exact .inr (.inl ⟨rfl, by go_num⟩)
      case measure => simp [intOf]
    · go_wp2
      go_round
      case rel => exact .inr (.inr ⟨rfl, by go_num⟩)
      case measure => simp [intOf]
    · clear c0 c1'
      have hnn : n1 + n2 ≤ 2097152 := by omega
      go_wp2_with fail
      refine (growW_any (n1 + n2) w hnn).mono ?_
      rintro e w1 ⟨av, cv, rfl, hO, hb⟩
      have HO := hid hO
      have HB := hid hb
      clear hO hb
      go_wp2_with fail
      go_loopw [6, 27] (fun x i wr => ∃ (a : Option Addr) (m c : Nat), x = .slice a m c ∧ Hid (Below w.heap.size w wr) ∧ ((i = .int .i64 0 ∧ m = 0 ∧ Hid (wr.ownsRow w.heap.size 47 2 (.slice a m c) m [])) ∨ (i = .int .i64 1 ∧ m = n1 ∧ Hid (wr.ownsRow w.heap.size 47 2 (.slice a m c) m xs1)) ∨ (i = .int .i64 2 ∧ m = n1 + n2 ∧ Hid (wr.ownsRow w.heap.size 47 2 (.slice a m c) m (xs1 ++ xs2))))) (fun _ i _ => 2 - (intOf i).toNat)
      case atStart => exact ⟨av, 0, cv, rfl, HB.out, .inl ⟨rfl, rfl, HO.out⟩⟩
      case round =>
        obtain ⟨a, m, c, rfl, HBW, hcase⟩ := hrel
        rcases hcase with ⟨rfl, rfl, HO2⟩ | ⟨rfl, hm, HO2⟩ | ⟨rfl, hm, HO2⟩
        · have d0 := (HC.out.below HBW.out).cell (j := 0) rfl
          have HR := hid (H1.out.below HBW.out)
          have hsz := HBW.out.size
          go_wp2_with (at_builtin; refine wpList_append_row_at rfl _ _ 29 rfl w.heap.size 47 ti _ 2 32 Try.underlying29 hti htz hts htb rfl (by decide) _ 0 [] rfl HO2.out _ _ n1 xs1 rfl HR.out HX1.out.1 HX1.out.2 (by unfold maxLen; omega) (by omega) hsz ?_)
          intro v' w' k1 k2 k3
          try rw [Nat.zero_add] at k1
          obtain ⟨a', c', rfl⟩ := own_shape k1
          have HB3 := hid (HBW.out.grown k2 HBW.out.size fun k hk => (World.ownsRow.lt HO2.out k hk).1)
          have HO3 : Hid (w'.ownsRow w.heap.size 47 2 (.slice a' n1 c') n1 xs1) := k1
          clear k1 k2 k3 d0
          go_wp2
          go_roundw
          case rel => exact ⟨a', n1, c', rfl, HB3.out, .inr (.inl ⟨rfl, rfl, HO3.out⟩)⟩
          case measure => simp [intOf]
        · subst hm
          have d0 := (HC.out.below HBW.out).cell (j := 1) rfl
          have HR := hid (H2.out.below HBW.out)
          have hsz := HBW.out.size
          go_wp2_with (at_builtin; refine wpList_append_row_at rfl _ _ 29 rfl w.heap.size 47 ti _ 2 32 Try.underlying29 hti htz hts htb rfl (by decide) _ _ xs1 rfl HO2.out _ _ n2 xs2 rfl HR.out HX2.out.1 HX2.out.2 (by unfold maxLen; omega) (by omega) hsz ?_)
          intro v' w' k1 k2 k3
          obtain ⟨a', c', rfl⟩ := own_shape k1
          have HB3 := hid (HBW.out.grown k2 HBW.out.size fun k hk => (World.ownsRow.lt HO2.out k hk).1)
          have HO3 := hid k1
          clear k1 k2 k3 d0
          go_wp2
          go_roundw
          case rel => exact ⟨a', _, c', rfl, HB3.out, .inr (.inr ⟨rfl, rfl, HO3.out⟩)⟩
          case measure => simp [intOf]
        · subst hm
          go_wp2
          go_ret
          exact ⟨a, c, rfl, HO2.out, HBW.out⟩
end Go.Proofs.Ytbaggkfgnjenoab

