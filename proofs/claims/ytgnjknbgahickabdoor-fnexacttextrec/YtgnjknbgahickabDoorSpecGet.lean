/-
  What the model's GetVar answers, for every slice of bytes and every place: the same as the program's.
-/
import Derived.Test.YtgnjknbgahickabDoorSpecPut
import Derived.Test.YtgnjknbgahickabDoorImplGet
namespace Go.Proofs.YtgnjknbgahickabDoor
open Go.RowKit

theorem rd_nil (w : World) : Rd w none 0 0 [] := ⟨rfl, Nat.le_refl _, by omega, by omega, by simp, fun h => by omega⟩

theorem specPutVar_none (a : Option Addr) (n c : Nat) (zs : List Int) (m : Int) (w : World) (h : Rd w a n c zs) (hlen : n ≤ 1099511627776) (hr : pv zs m = none) :
    Calls Tryd.prog 51 #[.slice a n c, .int .i64 m] w fun e w' => e = .returned (.tuple #[.slice none 0 0, .bool false]) ∧ Below w.heap.size w w' := by
  refine (specPutVar_any a n c zs m w h hlen).mono ?_
  rintro e w' ⟨hb, ⟨_, he⟩ | ⟨v, zs', hr', _⟩⟩
  · exact ⟨he, hb⟩
  · rw [hr] at hr'; cases hr'
theorem specPutVar_some (a : Option Addr) (n c : Nat) (zs out : List Int) (m : Int) (w : World) (h : Rd w a n c zs) (hlen : n ≤ 1099511627776) (hr : pv zs m = some out) :
    Calls Tryd.prog 51 #[.slice a n c, .int .i64 m] w fun e w' => ∃ v, e = .returned (.tuple #[v, .bool true]) ∧ Ob w' w.heap.size v out ∧ Below w.heap.size w w' := by
  refine (specPutVar_any a n c zs m w h hlen).mono ?_
  rintro e w' ⟨hb, ⟨hr', _⟩ | ⟨v, zs', hr', he, ho⟩⟩
  · rw [hr] at hr'; cases hr'
  · rw [hr] at hr'; cases hr'
    exact ⟨v, he, ho, hb⟩

theorem enc_digits (f : Nat) (hf : f ≤ 5) (r d : Int) (h0 : 0 ≤ r) (h1 : r < uOf (f + 1)) (hd0 : 0 ≤ d) (hd1 : d < 128) : (enc (r + d * uOf (f + 1))).length = 6 - f ↔ (f = 5 ∨ d ≠ 0) := by
  match f, hf with
  | 0, _ => have := encF_length_eq 5 6 (r + d * uOf 1); simp [bnd, uOf, enc] at *; omega
  | 1, _ => have := encF_length_eq 4 6 (r + d * uOf 2); simp [bnd, uOf, enc] at *; omega
  | 2, _ => have := encF_length_eq 3 6 (r + d * uOf 3); simp [bnd, uOf, enc] at *; omega
  | 3, _ => have := encF_length_eq 2 6 (r + d * uOf 4); simp [bnd, uOf, enc] at *; omega
  | 4, _ => have := encF_length_eq 1 6 (r + d * uOf 5); simp [bnd, uOf, enc] at *; omega
  | 5, _ => have := encF_length_eq 0 6 (r + d * uOf 6); simp [bnd, uOf, enc] at *; omega

set_option maxHeartbeats 800000 in
theorem specGetVar_any (a : Option Addr) (n c : Nat) (zs : List Int) (p : Int) (w : World) (h : Rd w a n c zs) (hp : p ≤ 9223372036854775807) :
    Calls Tryd.prog 59 #[.slice a n c, .int .i64 p] w fun e w' => e = .returned (.tuple #[.int .i64 (gv zs p).1, .int .i64 (gv zs p).2]) ∧ Below w.heap.size w w' := by
  obtain ⟨hn0, hc, hm, hnm, hb, hcell⟩ := h
  have HN : Hid (n = zs.length) := hn0
  clear hn0
  by_cases hneg : p < 0
  · have HG : Hid (gv zs p = (0, -1)) := gv_neg zs p hneg
    go_enter Tryd.func59, Tryd.ntmps59
    go_wp2
    go_ret2
    exact ⟨by rw [HG.out]; rfl, Below.refl _ _⟩
  · obtain ⟨k0, rfl⟩ := Int.eq_ofNat_of_zero_le (by omega : 0 ≤ p)
    by_cases hout : (n : Int) ≤ (k0 : Int)
    · have HG : Hid (gv zs k0 = (0, -1)) := by
        show gv zs k0 = (0, -1)
        rw [gv_nat]; exact gvGo_end 6 zs k0 0 1 (by rw [← HN.out]; omega)
      go_enter Tryd.func59, Tryd.ntmps59
      go_wp2
      go_ret2
      exact ⟨by rw [HG.out]; rfl, Below.refl _ _⟩
    · go_enter Tryd.func59, Tryd.ntmps59
      go_wp2
      go_loop [6, 7, 8] (fun s t i => ∃ (f k : Nat) (r u : Int), i = .int .i64 k ∧ s = .int .i64 r ∧ t = .int .i64 u ∧ f ≤ 6 ∧ k + f = k0 + 6 ∧ k ≤ n ∧ u = uOf f ∧ 0 ≤ r ∧ r < u ∧ gvGo f zs k r u = gv zs k0) (fun _ _ i => n - (intOf i).toNat)
      case atStart => exact ⟨6, k0, 0, 1, rfl, rfl, rfl, by omega, by omega, by omega, rfl, by omega, by omega, by rw [gv_nat]⟩
      case round =>
        obtain ⟨f, k, r, u, rfl, rfl, rfl, hf6, hkf, hkn, hu, hr0, hru, hgv⟩ := hrel
        have HU : Hid (u = uOf f) := hu
        have HG : Hid (gvGo f zs k r u = gv zs k0) := hgv
        have HF : Hid (k + f = k0 + 6) := hkf
        have hkb : k ≤ k0 + 6 := by omega
        clear hu hgv hkf
        by_cases hlt : k < n
        · obtain ⟨b, off, ha, hbw, hcell⟩ := hcell (by omega)
          have hck := hcell k hlt
          have hbk := (hb k).1
          have hbk2 := (hb k).2
          have HK : Hid (k < zs.length) := by show k < zs.length; rw [← HN.out]; exact hlt
          have hlt' : (k : Int) < (n : Int) := by omega
          clear hcell hb
          rw [ha]
          cases f with
          | zero =>
            have hu' : ¬ (k : Int) < (k0 : Int) + 6 := by have := HF.out; omega
            have HR : Hid (gv zs k0 = (0, -1)) := by show gv zs k0 = (0, -1); rw [← HG.out]; rfl
            go_wp2
            go_ret2
            exact ⟨by rw [HR.out]; rfl, Below.refl _ _⟩
          | succ f =>
            have hk6 : (k : Int) < (k0 : Int) + 6 := by have := HF.out; omega
            have hu1 : 1 ≤ u := by rw [HU.out]; exact (uOf_le (f + 1) (by omega)).1
            have hu2 : u ≤ 34359738368 := by rw [HU.out]; exact (uOf_le (f + 1) (by omega)).2
            have HU2 : Hid (u * 128 = uOf f) := by show u * 128 = uOf f; rw [HU.out]; exact uOf_next f (by omega)
            by_cases hd : 128 ≤ zs[k]?.getD 0
            · have HG2 : Hid (gvGo f zs (k + 1) (r + (zs[k]?.getD 0 % 128) * u) (u * 128) = gv zs k0) := by
                show gvGo f zs (k + 1) (r + (zs[k]?.getD 0 % 128) * u) (u * 128) = gv zs k0
                rw [show zs[k]?.getD 0 % 128 = zs[k]?.getD 0 - 128 from by omega, ← HG.out, gvGo_more f zs k r u HK.out hd]
              generalize zs[k]?.getD 0 = d at *
              obtain ⟨m0, m1⟩ := mul_bounds (d % 128) u (by omega) (by omega) (by omega)
              go_wp2
              go_round
              case rel => exact ⟨f, k + 1, r + d % 128 * u, u * 128, by go_num, rfl, rfl, by omega, by have := HF.out; omega, by omega, HU2.out, by omega, by omega, HG2.out⟩
              case measure => simp [intOf]; omega
            · have HM : Hid (zs[k]?.getD 0 % 128 = zs[k]?.getD 0) := by show zs[k]?.getD 0 % 128 = zs[k]?.getD 0; omega
              have HL : Hid ((enc (r + zs[k]?.getD 0 % 128 * u)).length = 6 - f ↔ (f = 5 ∨ zs[k]?.getD 0 ≠ 0)) := by
                show (enc (r + zs[k]?.getD 0 % 128 * u)).length = 6 - f ↔ (f = 5 ∨ zs[k]?.getD 0 ≠ 0)
                rw [HM.out, HU.out]
                exact enc_digits f (by omega) r _ hr0 (by rw [← HU.out]; exact hru) hbk (by omega)
              have HU1 : Hid (1 < u ↔ f + 1 < 6) := by show 1 < u ↔ f + 1 < 6; rw [HU.out]; exact uOf_one (f + 1) (by omega) (by omega)
              by_cases hbad : 1099511627775 < r + zs[k]?.getD 0 % 128 * u
              · have HR : Hid (gv zs k0 = (0, -1)) := by
                  show gv zs k0 = (0, -1)
                  rw [← HG.out]; exact gvGo_bad f zs k r u HK.out (by omega) (.inl (by rw [HM.out] at hbad; exact hbad))
                have HP : Hid (pv [] (r + zs[k]?.getD 0 % 128 * u) = none) := pv_bad _ _ (.inr hbad)
                generalize zs[k]?.getD 0 = d at *
                obtain ⟨m0, m1⟩ := mul_bounds (d % 128) u (by omega) (by omega) (by omega)
                go_wp2_with (go_at_call 51; refine (specPutVar_none none 0 0 [] (r + d % 128 * u) _ (rd_nil _) (by omega) HP.out).mono ?_; rintro e w1 ⟨rfl, hb1⟩)
                go_ret2
                exact ⟨by rw [HR.out]; rfl, hb1⟩
              · have HP : Hid (pv [] (r + zs[k]?.getD 0 % 128 * u) = some (enc (r + zs[k]?.getD 0 % 128 * u))) := by
                  refine pv_ok [] _ ?_ (by omega) ?_
                  · have := (mul_bounds (zs[k]?.getD 0 % 128) u (by omega) (by omega) (by omega)).1
                    omega
                  · have := (enc_len (r + zs[k]?.getD 0 % 128 * u)).2
                    simp; omega
                by_cases hg : f = 5 ∨ zs[k]?.getD 0 ≠ 0
                · have HR : Hid (gv zs k0 = (r + zs[k]?.getD 0 % 128 * u, (k : Int) + 1)) := by
                    show gv zs k0 = (r + zs[k]?.getD 0 % 128 * u, (k : Int) + 1)
                    have := HU1.out
                    rw [← HG.out, HM.out, gvGo_good f zs k r u HK.out (by omega) (by rw [HM.out] at hbad; omega)]
                  have hl := HL.out.2 hg
                  generalize zs[k]?.getD 0 = d at *
                  obtain ⟨m0, m1⟩ := mul_bounds (d % 128) u (by omega) (by omega) (by omega)
                  have hne : (((enc (r + d % 128 * u)).length : Int) != (k : Int) + 1 - (k0 : Int)) = false := by
                    have := HF.out
                    simp; omega
                  clear hl hg
                  go_wp2_with (go_at_call 51; refine (specPutVar_some none 0 0 [] _ (r + d % 128 * u) _ (rd_nil _) (by omega) HP.out).mono ?_; rintro e w1 ⟨v, rfl, ho, hb1⟩; obtain ⟨a2, c2, hv2⟩ := ho.shape; rw [hv2])
                  go_ret2
                  exact ⟨by rw [HR.out]; rfl, hb1⟩
                · have HR : Hid (gv zs k0 = (0, -1)) := by
                    show gv zs k0 = (0, -1)
                    have := HU1.out
                    rw [← HG.out]; exact gvGo_bad f zs k r u HK.out (by omega) (.inr (by omega))
                  have hl : ¬ _ := fun x => hg (HL.out.1 x)
                  generalize zs[k]?.getD 0 = d at *
                  obtain ⟨m0, m1⟩ := mul_bounds (d % 128) u (by omega) (by omega) (by omega)
                  have hne : (((enc (r + d % 128 * u)).length : Int) != (k : Int) + 1 - (k0 : Int)) = true := by
                    have := HF.out
                    simp; omega
                  clear hl hg
                  go_wp2_with (go_at_call 51; refine (specPutVar_some none 0 0 [] _ (r + d % 128 * u) _ (rd_nil _) (by omega) HP.out).mono ?_; rintro e w1 ⟨v, rfl, ho, hb1⟩; obtain ⟨a2, c2, hv2⟩ := ho.shape; rw [hv2])
                  go_ret2
                  exact ⟨by rw [HR.out]; rfl, hb1⟩
        · have HR : Hid (gv zs k0 = (0, -1)) := by
            show gv zs k0 = (0, -1)
            rw [← HG.out]; exact gvGo_end f zs k r u (by rw [← HN.out]; omega)
          have hlt' : ¬ (k : Int) < (n : Int) := by omega
          go_wp2
          go_ret2
          exact ⟨by rw [HR.out]; rfl, Below.refl _ _⟩
end Go.Proofs.YtgnjknbgahickabDoor

