/-
  What the program's GetVar answers, for every slice of bytes and every place; it changes nothing.
-/
import Derived.Test.YtgnjknbgahickabDoorBase
import Derived.Test.YtgnjknbgahickabDoorPlain
namespace Go.Proofs.YtgnjknbgahickabDoor
open Go.RowKit

theorem mul_bounds (x u : Int) (h0 : 0 ≤ x) (h1 : x ≤ 127) (hu : 0 ≤ u) : 0 ≤ x * u ∧ x * u ≤ 127 * u :=
  ⟨Int.mul_nonneg h0 hu, Int.mul_le_mul_of_nonneg_right h1 hu⟩

theorem gv_neg (zs : List Int) (p : Int) (h : p < 0) : gv zs p = (0, -1) := by unfold gv; rw [if_pos h]
theorem gv_nat (zs : List Int) (k : Nat) : gv zs (k : Int) = gvGo 6 zs k 0 1 := by unfold gv; rw [if_neg (by omega), Int.toNat_natCast]

set_option maxHeartbeats 800000 in
theorem implGetVar_any (a : Option Addr) (n c : Nat) (zs : List Int) (p : Int) (w : World) (h : Rd w a n c zs) (hp : p ≤ 9223372036854775807) :
    Calls Tryd.prog 71 #[.slice a n c, .int .i64 p] w fun e w' => e = .returned (.tuple #[.int .i64 (gv zs p).1, .int .i64 (gv zs p).2]) ∧ w = w' := by
  obtain ⟨hn0, hc, hm, hnm, hb, hcell⟩ := h
  have HN : Hid (n = zs.length) := hn0
  clear hn0
  by_cases hneg : p < 0
  · have HG : Hid (gv zs p = (0, -1)) := gv_neg zs p hneg
    go_enter Tryd.func71, Tryd.ntmps71
    go_wp2
    go_ret2
    exact ⟨by rw [HG.out]; rfl, rfl⟩
  · obtain ⟨k0, rfl⟩ := Int.eq_ofNat_of_zero_le (by omega : 0 ≤ p)
    go_enter Tryd.func71, Tryd.ntmps71
    go_wp2
    go_loop [1, 6, 7] (fun i s t => ∃ (f k : Nat) (r u : Int), i = .int .i64 k ∧ s = .int .i64 r ∧ t = .int .i64 u ∧ f ≤ 6 ∧ k ≤ 9223372036854775807 ∧ u = uOf f ∧ 0 ≤ r ∧ r < u ∧ gvGo f zs k r u = gv zs k0) (fun i _ _ => n - (intOf i).toNat)
    case atStart => exact ⟨6, k0, 0, 1, rfl, rfl, rfl, by omega, by omega, rfl, by omega, by omega, by rw [gv_nat]⟩
    case round =>
      obtain ⟨f, k, r, u, rfl, rfl, rfl, hf6, hkm, hu, hr0, hru, hgv⟩ := hrel
      have HU : Hid (u = uOf f) := hu
      have HG : Hid (gvGo f zs k r u = gv zs k0) := hgv
      clear hu hgv
      by_cases hlt : k < n
      · obtain ⟨b, off, ha, hbw, hcell⟩ := hcell (by omega)
        have hck := hcell k hlt
        have hbk := (hb k).1
        have hbk2 := (hb k).2
        have HK : Hid (k < zs.length) := by show k < zs.length; rw [← HN.out]; exact hlt
        have hlt' : (k : Int) < (n : Int) := by omega
        clear hcell hb
        rw [ha]
        cases f with
        | zero =>
          have hu' : 1099511627775 < u := by rw [HU.out]; decide
          have HR : Hid (gv zs k0 = (0, -1)) := by show gv zs k0 = (0, -1); rw [← HG.out]; rfl
          go_wp2
          go_ret2
          exact ⟨by rw [HR.out]; rfl, rfl⟩
        | succ f =>
          have hu1 : 1 ≤ u := by rw [HU.out]; exact (uOf_le (f + 1) (by omega)).1
          have hu2 : u ≤ 34359738368 := by rw [HU.out]; exact (uOf_le (f + 1) (by omega)).2
          have HU2 : Hid (u * 128 = uOf f) := by show u * 128 = uOf f; rw [HU.out]; exact uOf_next f (by omega)
          by_cases hd : 128 ≤ zs[k]?.getD 0
          · have HG2 : Hid (gvGo f zs (k + 1) (r + (zs[k]?.getD 0 - 128) * u) (u * 128) = gv zs k0) := by
              show gvGo f zs (k + 1) (r + (zs[k]?.getD 0 - 128) * u) (u * 128) = gv zs k0
              rw [← HG.out, gvGo_more f zs k r u HK.out hd]
            generalize zs[k]?.getD 0 = d at *
            obtain ⟨m0, m1⟩ := mul_bounds (d - 128) u (by omega) (by omega) (by omega)
            go_wp2
            go_round
            case rel => exact ⟨f, k + 1, r + (d - 128) * u, u * 128, by go_num, rfl, rfl, by omega, by omega, HU2.out, by omega, by omega, HG2.out⟩
            case measure => simp [intOf]; omega
          · by_cases hbad : 1099511627775 < r + zs[k]?.getD 0 * u
            · have HR : Hid (gv zs k0 = (0, -1)) := by
                show gv zs k0 = (0, -1)
                rw [← HG.out]; exact gvGo_bad f zs k r u HK.out (by omega) (.inl hbad)
              generalize zs[k]?.getD 0 = d at *
              obtain ⟨m0, m1⟩ := mul_bounds d u (by omega) (by omega) (by omega)
              go_wp2
              go_ret2
              exact ⟨by rw [HR.out]; rfl, rfl⟩
            · by_cases hz : zs[k]?.getD 0 = 0
              · by_cases hu3 : 1 < u
                · have HR : Hid (gv zs k0 = (0, -1)) := by
                    show gv zs k0 = (0, -1)
                    rw [← HG.out]; exact gvGo_bad f zs k r u HK.out (by omega) (.inr ⟨hz, hu3⟩)
                  rw [hz] at hck hbad
                  clear hz hbk hbk2 hd
                  go_wp2
                  go_ret2
                  exact ⟨by rw [HR.out]; rfl, rfl⟩
                · have HR : Hid (gv zs k0 = (r + 0 * u, (k : Int) + 1)) := by
                    show gv zs k0 = (r + 0 * u, (k : Int) + 1)
                    rw [← HG.out, gvGo_good f zs k r u HK.out (by omega) (by omega), hz]
                  rw [hz] at hck hbad
                  clear hz hbk hbk2 hd
                  go_wp2
                  go_ret2
                  exact ⟨by rw [HR.out]; simp, rfl⟩
              · have HR : Hid (gv zs k0 = (r + zs[k]?.getD 0 * u, (k : Int) + 1)) := by
                  show gv zs k0 = (r + zs[k]?.getD 0 * u, (k : Int) + 1)
                  rw [← HG.out, gvGo_good f zs k r u HK.out (by omega) (by omega)]
                generalize zs[k]?.getD 0 = d at *
                have hz' : (d == 0) = false := by simp [hz]
                obtain ⟨m0, m1⟩ := mul_bounds d u (by omega) (by omega) (by omega)
                clear hz
                go_wp2
                go_ret2
                exact ⟨by rw [HR.out]; rfl, rfl⟩
      · have HR : Hid (gv zs k0 = (0, -1)) := by
          show gv zs k0 = (0, -1)
          rw [← HG.out]; exact gvGo_end f zs k r u (by rw [← HN.out]; omega)
        have hlt' : ¬ (k : Int) < (n : Int) := by omega
        go_wp2
        go_ret2
        exact ⟨by rw [HR.out]; rfl, rfl⟩
end Go.Proofs.YtgnjknbgahickabDoor

