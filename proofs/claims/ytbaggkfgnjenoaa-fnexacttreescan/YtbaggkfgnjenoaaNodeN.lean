/-
  Nodes and trees in the law's helpers: sizes summed, held against each other.
-/
import Derived.Test.YtbaggkfgnjenoaaNodeM
namespace Go.Proofs.Ytbaggkfgnjenoaa
open Go.RowKit

def szOkN (ns : List NB) : Prop := ∀ i, i < ns.length → szOkP (nAt ns i).ps ∧ szOkS (nAt ns i).keys
set_option maxHeartbeats 2000000 in
theorem szNode_any (S : Nat → Prop) (ap ax ai : Option Addr) (np cp nx cx ni ci : Nat) (x : NB) (left : Int) (w : World) (hP : Pr w S (.slice ap np cp) x.ps) (hS : Sr w S (.slice ax nx cx) x.keys) (hI : Ir w S (.slice ai ni ci) x.kids)
    (z0 : szOkP x.ps) (z1 : szOkS x.keys) (h0 : 0 ≤ left) (h1 : left ≤ 1048576) :
    Calls Try.prog 113 #[.agg #[.slice ap np cp, .slice ax nx cx, .slice ai ni ci], .int .i64 left] w fun e w' => (∃ y : Int, e = .returned (.int .i64 y) ∧ y ≤ left ∧ -1 ≤ y ∧ (0 ≤ y → np ≤ 1048576 ∧ nx ≤ 1048576 ∧ ni ≤ 1048576)) ∧ Below w.heap.size w w' := by
  have hnc := (Rw.len hI).2.1
  have hcc := (Rw.len hI).2.2
  have HP := hid hP
  have HS := hid hS
  have HZ0 := hid z0
  have HZ1 := hid z1
  clear hP hS hI z0 z1
  have HB0 : Hid (Below w.heap.size w (w.alloc (.cells #[.slice ap np cp, .slice ax nx cx, .slice ai ni ci] 156))) := below_new (Below.refl _ _)
  have KP : Hid (Bk (w.alloc (.cells #[.slice ap np cp, .slice ax nx cx, .slice ai ni ci] 156)) w.heap.size 156 [.slice ap np cp, .slice ax nx cx, .slice ai ni ci]) := Bk.new w 156 [.slice ap np cp, .slice ax nx cx, .slice ai ni ci]
  go_enter Try.func113, Try.ntmps113
  go_wp2_with fail
  refine (szPairS_at S ap np cp x.ps left _ (HP.out.below HB0.out) HZ0.out h0 h1).mono ?_
  generalize w.alloc (.cells #[.slice ap np cp, .slice ax nx cx, .slice ai ni ci] 156) = W at *
  rintro e w1 ⟨⟨y, rfl, hy1, hy2, hy3⟩, hb1⟩
  have HB1 := hid (HB0.out.trans (hb1.mono HB0.out.size))
  have KP1 := hid (KP.out.below hb1)
  have HY := hid hy3
  clear hb1 KP HB0 hy3
  by_cases hneg : y < 0
  · go_wp2
    go_ret
    exact ⟨⟨_, rfl, by omega, by omega, fun h => by omega⟩, HB1.out⟩
  · have c1 := KP1.out.cell (j := 1) rfl
    go_wp2_with fail
    refine (szStringS_at S ax nx cx x.keys y _ (HS.out.below HB1.out) HZ1.out (by omega) (by omega)).mono ?_
    rintro e w2 ⟨⟨z, rfl, hz1, hz2, hz3⟩, hb2⟩
    have HB2 := hid (HB1.out.trans (hb2.mono HB1.out.size))
    have KP2 := hid (KP1.out.below hb2)
    have HZ := hid hz3
    clear hb2 KP1 HB1 hz3 c1
    by_cases hneg2 : z < 0
    · go_wp2
      go_ret
      exact ⟨⟨_, rfl, by omega, by omega, fun h => by omega⟩, HB2.out⟩
    · have c2 := KP2.out.cell (j := 2) rfl
      go_wp2_with fail
      refine (szIntS_at ai ni ci z _ (by omega) (by omega) (by omega)).mono ?_
      rintro e w3 ⟨⟨v, rfl, hv1, hv2, hv3⟩, hb3⟩
      have HB3 := hid (HB2.out.trans (hb3.mono HB2.out.size))
      have HV := hid hv3
      clear hb3 KP2 HB2 hv3 c2
      by_cases hneg3 : v < 0
      · go_wp2
        go_ret
        exact ⟨⟨_, rfl, by omega, by omega, fun h => by omega⟩, HB3.out⟩
      · go_wp2
        go_ret
        exact ⟨⟨_, rfl, by omega, by omega, fun _ => ⟨HY.out (by omega), HZ.out (by omega), HV.out (by omega)⟩⟩, HB3.out⟩
set_option maxHeartbeats 2000000 in
theorem szNodeS_at (S : Nat → Prop) (a : Option Addr) (n c : Nat) (ns : List NB) (w : World) (h : Nr w S (.slice a n c) ns) (hsz : szOkN ns) :
    Calls Try.prog 81 #[.slice a n c, .int .i64 1048576] w fun e w' => (∃ x : Int, e = .returned (.int .i64 x) ∧ x ≤ 1048576 ∧ -1 ≤ x ∧ (0 ≤ x → n ≤ 1048576 ∧ smallN ns)) ∧ Below w.heap.size w w' := by
  obtain ⟨hn, hnc, hcc⟩ := h.len
  have HN := hid hn
  have H0 := hid h
  have HZ := hid hsz
  clear h hsz hn
  by_cases hbig : (1048576 : Int) - (n : Int) < 0
  · go_enter Try.func81, Try.ntmps81
    go_wp2
    go_ret
    exact ⟨⟨_, rfl, by omega, by omega, fun h => by omega⟩, Below.refl _ _⟩
  · have hn2 : n ≤ 1048576 := by omega
    go_enter Try.func81, Try.ntmps81
    go_wp2
    go_loopw [1, 5] (fun x i wr => ∃ (k : Nat) (y : Int), k ≤ n ∧ i = .int .i64 k ∧ x = .int .i64 y ∧ 0 ≤ y ∧ y ≤ 1048576 ∧ Hid (∀ i, i < k → (nAt ns i).ps.length ≤ 1048576 ∧ (nAt ns i).keys.length ≤ 1048576 ∧ (nAt ns i).kids.length ≤ 1048576) ∧ Hid (Below w.heap.size w wr)) (fun _ i _ => n - (intOf i).toNat)
    case atStart => exact ⟨0, _, Nat.zero_le _, rfl, rfl, by omega, by omega, fun i hi => absurd hi (Nat.not_lt_zero _), Below.refl _ _⟩
    case round =>
      obtain ⟨k, y, hk, rfl, rfl, hy0, hy1, HS, HB⟩ := hrel
      by_cases hlt : k < n
      · have hlt' : (k : Int) < (n : Int) := by omega
        have HP := hid (H0.out.below HB.out)
        obtain ⟨b, off, rfl, _, hbw, hcell⟩ := HP.out.at (by omega)
        obtain ⟨ap, np, cp, ax, nx, cx, ai, ni, ci, c0, c1, c2, hp, hx, hi⟩ := hcell k hlt
        have HPp := hid hp
        have HPx := hid hx
        have HPi := hid hi
        have l0 := hid (Rw.len hp).1
        have l1 := hid (Rw.len hx).1
        have l2 := hid (Rw.len hi).1
        clear hcell hbw HP hp hx hi
        go_wp2_with fail
        refine (szNode_any S ap ax ai np cp nx cx ni ci (nAt ns k) y wr HPp.out HPx.out HPi.out (HZ.out k (by rw [← HN.out]; exact hlt)).1 (HZ.out k (by rw [← HN.out]; exact hlt)).2 hy0 hy1).mono ?_
        rintro e w1 ⟨⟨z, rfl, hz1, hz2, hz3⟩, hb1⟩
        have HB1 := hid (HB.out.trans (hb1.mono HB.out.size))
        have HZ3 := hid hz3
        clear hb1 hz3 c0 c1 c2
        by_cases hneg : z < 0
        · go_wp2
          go_ret
          exact ⟨⟨_, rfl, by omega, by omega, fun h => by omega⟩, HB1.out⟩
        · have HS1 : Hid (∀ i, i < k + 1 → (nAt ns i).ps.length ≤ 1048576 ∧ (nAt ns i).keys.length ≤ 1048576 ∧ (nAt ns i).kids.length ≤ 1048576) := by
            intro i hi
            by_cases e : i = k
            · subst e
              rw [← l0.out, ← l1.out, ← l2.out]
              exact HZ3.out (by omega)
            · exact HS.out i (by omega)
          go_wp2
          go_roundw
          case rel => exact ⟨k + 1, z, by omega, by go_num, rfl, by omega, by omega, HS1.out, HB1.out⟩
          case measure => simp [intOf]; omega
      · have hk' : k = n := by omega
        have HS1 : Hid (smallN ns) := fun i hi => HS.out i (by rw [hk', HN.out]; exact hi)
        clear hk'
        go_wp2
        go_ret
        exact ⟨⟨_, rfl, by omega, by omega, fun _ => ⟨hn2, HS1.out⟩⟩, HB.out⟩
set_option maxHeartbeats 2000000 in
theorem szTree_at (S : Nat → Prop) (a : Option Addr) (n c : Nat) (ns : List NB) (w : World) (h : Nr w S (.slice a n c) ns) (hsz : szOkN ns) :
    Calls Try.prog 33 #[.agg #[.slice a n c], .int .i64 1048576] w fun e w' => (∃ x : Int, e = .returned (.int .i64 x) ∧ x ≤ 1048576 ∧ -1 ≤ x ∧ (0 ≤ x → n ≤ 1048576 ∧ smallN ns)) ∧ Below w.heap.size w w' := by
  have H0 := hid h
  have HZ := hid hsz
  clear h hsz
  have HB0 : Hid (Below w.heap.size w (w.alloc (.cells #[.slice a n c] 73))) := below_new (Below.refl _ _)
  go_enter Try.func33, Try.ntmps33
  go_wp2_with fail
  refine (szNodeS_at S a n c ns _ (H0.out.below HB0.out) HZ.out).mono ?_
  rintro e w1 ⟨⟨y, rfl, hy1, hy2, hy3⟩, hb1⟩
  have HB1 := hid (HB0.out.trans (hb1.mono HB0.out.size))
  have HY := hid hy3
  clear hb1 hy3 HB0
  by_cases hneg : y < 0
  · go_wp2
    go_ret
    exact ⟨⟨_, rfl, by omega, by omega, fun h => by omega⟩, HB1.out⟩
  · go_wp2
    go_ret
    exact ⟨⟨_, rfl, by omega, by omega, HY.out⟩, HB1.out⟩
end Go.Proofs.Ytbaggkfgnjenoaa

