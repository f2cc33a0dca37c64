/-
  slices.Reverse of pairs.
-/
import Derived.Test.YtbaggkfgnjenoaaDg
import Derived.Test.YtbaggkfgnjenoaaKc
namespace Go.Proofs.Ytbaggkfgnjenoaa
open Go.RowKit
def revX (f : List PB) (n i : Nat) (x : Nat) : PB := if x < i ∨ n - i ≤ x then pAtB f (n - 1 - x) else pAtB f x
set_option maxHeartbeats 4000000 in
set_option maxRecDepth 20000 in
theorem rev_any (b n c : Nat) (f : List PB) (w : World) (hR : Ro w b n (pAtB f)) (hp : 0 < n) (hn : n ≤ 200) (hnc : n ≤ c) (hc : c ≤ 9223372036854775807) :
    Calls Try.prog 106 #[.slice (some ⟨b, 0, none⟩) n c] w fun e w' => e = .returned (.tuple #[]) ∧ Ro w' b n (fun x => pAtB f (n - 1 - x)) ∧ Only (fun y => y = b) w w' := by
  have HR := hid hR
  clear hR
  go_enter Try.func106, Try.ntmps106
  go_wp2_with fail
  go_loopw [2, 3] (fun x y wr => ∃ (i j : Nat), x = .int .i64 i ∧ y = .int .i64 j ∧ i + j = n - 1 ∧ i ≤ j + 1 ∧ Hid (Ro wr b n (revX f n i)) ∧ Hid (Only (fun y => y = b) w wr)) (fun _ y _ => (intOf y).toNat)
  case atStart =>
    refine ⟨0, n - 1, rfl, by go_num, by omega, by omega, ?_, Only.refl _ _⟩
    obtain ⟨T, xs, h1, h2⟩ := HR.out
    refine ⟨T, xs, h1, fun x hx => ?_⟩
    rw [revX, if_neg (by omega)]
    exact h2 x hx
  case round =>
    obtain ⟨i, j, rfl, rfl, hij, hle, HX, HO⟩ := hrel
    by_cases hlt : i < j
    · have hlt' : (i : Int) < (j : Int) := by omega
      have hi0 : (0 : Int) ≤ (i : Int) := by omega
      have hj0 : (0 : Int) ≤ (j : Int) := by omega
      have hin : (i : Int) < (n : Int) := by omega
      have hjn : (j : Int) < (n : Int) := by omega
      obtain ⟨a0, a1, a2, a3⟩ := HX.out.cell (x := i) (by omega)
      obtain ⟨b0, b1, b2, b3⟩ := HX.out.cell (x := j) (by omega)
      generalize hxi : revX f n i i = xi at *
      generalize hxj : revX f n i j = xj at *
      obtain ⟨k0, v0⟩ := xi
      obtain ⟨k1, v1⟩ := xj
      simp only at a0 a1 b0 b1
      have hxi' := hid hxi
      have hxj' := hid hxj
      clear hxi hxj
      go_wp2_with fail
      go_region
      have HX1 : Hid (Ro ((((wr.setCell ⟨b, i * 2, none⟩ (.string k1)).setCell ⟨b, i * 2 + 1, none⟩ (.string v1)).setCell ⟨b, j * 2, none⟩ (.string k0)).setCell ⟨b, j * 2 + 1, none⟩ (.string v0)).drew b n (revX f n (i + 1))) := by
        obtain ⟨T, xs, h1, h2⟩ := ((HX.out.set (i := i) (by omega) k1 v1).set (i := j) (by omega) k0 v0).below (below_drew _)
        refine ⟨T, xs, h1, fun x hx => ?_⟩
        have e : revX f n (i + 1) x = upd (upd (revX f n i) i (k1, v1)) j (k0, v0) x := by
          unfold upd
          by_cases e1 : x = j
          · rw [if_pos e1, ← hxi'.out, e1]
            simp only [revX]
            rw [if_pos (by omega), if_neg (by omega), show n - 1 - j = i by omega]
          · rw [if_neg e1]
            by_cases e2 : x = i
            · rw [if_pos e2, ← hxj'.out, e2]
              simp only [revX]
              rw [if_pos (by omega), if_neg (by omega), show n - 1 - i = j by omega]
            · rw [if_neg e2]
              simp only [revX]
              by_cases e3 : x < i ∨ n - i ≤ x
              · rw [if_pos e3, if_pos (by omega)]
              · rw [if_neg e3, if_neg (by omega)]
        rw [e]
        exact h2 x hx
      have HO1 : Hid (Only (fun y => y = b) w ((((wr.setCell ⟨b, i * 2, none⟩ (.string k1)).setCell ⟨b, i * 2 + 1, none⟩ (.string v1)).setCell ⟨b, j * 2, none⟩ (.string k0)).setCell ⟨b, j * 2 + 1, none⟩ (.string v0)).drew) :=
        (((((HO.out.trans (only_set (R := fun y => y = b) rfl _)).trans (only_set (R := fun y => y = b) rfl _)).trans (only_set (R := fun y => y = b) rfl _)).trans (only_set (R := fun y => y = b) rfl _))).trans (only_of_below (below_drew _) _)
      generalize ((((wr.setCell ⟨b, i * 2, none⟩ (.string k1)).setCell ⟨b, i * 2 + 1, none⟩ (.string v1)).setCell ⟨b, j * 2, none⟩ (.string k0)).setCell ⟨b, j * 2 + 1, none⟩ (.string v0)).drew = wz at *
      clear a0 a1 a2 a3 b0 b1 b2 b3
      have hjw : (j : Int) - 1 = ((j - 1 : Nat) : Int) := by omega
      go_wp2
      go_roundw
      case rel => exact ⟨i + 1, j - 1, by go_num, by rw [← hjw], by omega, by omega, HX1.out, HO1.out⟩
      case measure => simp [intOf]; omega
    · have hlt' : ¬ (i : Int) < (j : Int) := by omega
      have HE : Hid (Ro wr b n (fun x => pAtB f (n - 1 - x))) := by
        obtain ⟨T, xs, h1, h2⟩ := HX.out
        refine ⟨T, xs, h1, fun x hx => ?_⟩
        have := h2 x hx
        have e : revX f n i x = pAtB f (n - 1 - x) := by
          rw [revX]
          split
          · rfl
          · rw [show n - 1 - x = x by omega]
        rwa [e] at this
      go_wp2
      go_end0
      exact ⟨rfl, HE.out, HO.out⟩
set_option maxHeartbeats 1000000 in
theorem rev0_any (a : Option Addr) (c : Nat) (w : World) : Calls Try.prog 106 #[.slice a 0 c] w fun e w' => e = .returned (.tuple #[]) ∧ w' = w := by
  go_enter Try.func106, Try.ntmps106
  go_wp2_with fail
  go_loop [2, 3] (fun x y => x = .int .i64 0 ∧ y = .int .i64 (-1)) (fun _ _ => 0)
  case atStart => exact ⟨rfl, rfl⟩
  case round =>
    obtain ⟨rfl, rfl⟩ := hrel
    go_wp2
    go_end0
    exact ⟨rfl, rfl⟩
end Go.Proofs.Ytbaggkfgnjenoaa

