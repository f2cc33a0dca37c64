/-
  What the program's GetVar answers, for every slice of bytes and every place; it changes nothing.
-/
import Derived.Test.YtidjehapeanpbaaGreatDoorMk1
import Derived.Laws.IdiomStrings
import Derived.Maps.AppendAt
import Derived.Deep.LoopGhost
namespace Go.Proofs.YtidjehapeanpbaaGreatDoor
open Go.RowKit
theorem mul_bounds (x u : Int) (h0 : 0 ≤ x) (h1 : x ≤ 127) (hu : 0 ≤ u) : 0 ≤ x * u ∧ x * u ≤ 127 * u :=
 ⟨Int.mul_nonneg h0 hu, Int.mul_le_mul_of_nonneg_right h1 hu⟩
theorem gv_neg (zs : List Int) (p : Int) (h : p < 0) : gv zs p = (0, -1) := by unfold gv; rw [if_pos h]
theorem gv_nat (zs : List Int) (k : Nat) : gv zs (k : Int) = gvGo 6 zs k 0 1 := by unfold gv; rw [if_neg (by omega), Int.toNat_natCast]
set_option maxHeartbeats 800000 in
theorem implGetVar_any (a : Option Addr) (n c : Nat) (zs : List Int) (p : Int) (w : World) (h : Rd w a n c zs) (hp : p ≤ 9223372036854775807) :
  Calls Tryz.prog 187 #[.slice a n c, .int .i64 p] w fun e w' => e = .returned (.tuple #[.int .i64 (gv zs p).1, .int .i64 (gv zs p).2]) ∧ w = w' := by
 obtain ⟨hn0, hc, hm, hnm, hb, hcell⟩ := h
 have HN : Hid (n = zs.length) := hn0
 clear hn0
 by_cases hneg : p < 0
 ·have HG : Hid (gv zs p = (0, -1)) := gv_neg zs p hneg
  go_enter Tryz.func187, Tryz.ntmps187
  go_wp2
  go_ret2
  exact ⟨by rw [HG.out]; rfl, rfl⟩
 ·obtain ⟨k0, rfl⟩ := Int.eq_ofNat_of_zero_le (by omega : 0 ≤ p)
  go_enter Tryz.func187, Tryz.ntmps187
  go_wp2
  go_loop [1, 6, 7] (fun i s t => ∃ (f k : Nat) (r u : Int), i = .int .i64 k ∧ s = .int .i64 r ∧ t = .int .i64 u ∧ f ≤ 6 ∧ k ≤ 9223372036854775807 ∧ u = uOf f ∧ 0 ≤ r ∧ r < u ∧ gvGo f zs k r u = gv zs k0) (fun i _ _ => n - (intOf i).toNat)
  case atStart => exact ⟨6, k0, 0, 1, rfl, rfl, rfl, by omega, by omega, rfl, by omega, by omega, by rw [gv_nat]⟩
  case round =>
   obtain ⟨f, k, r, u, rfl, rfl, rfl, hf6, hkm, hu, hr0, hru, hgv⟩ := hrel
   have HU : Hid (u = uOf f) := hu
   have HG : Hid (gvGo f zs k r u = gv zs k0) := hgv
   clear hu hgv
   by_cases hlt : k < n
   ·obtain ⟨b, off, ha, hbw, hcell⟩ := hcell (by omega)
    have hck := hcell k hlt
    have hbk := (hb k).1
    have hbk2 := (hb k).2
    have HK : Hid (k < zs.length) := by show k < zs.length; rw [← HN.out]; exact hlt
    have hlt' : (k : Int) < (n : Int) := by omega
    clear hcell hb
    rw [ha]
    cases f with
    | zero =>
     have hu' : 1099511627775 < u := by rw [HU.out]; decide
     have HR : Hid (gv zs k0 = (0, -1)) := by show gv zs k0 = (0, -1); rw [← HG.out]; rfl
     go_wp2
     go_ret2
     exact ⟨by rw [HR.out]; rfl, rfl⟩
    | succ f =>
     have hu1 : 1 ≤ u := by rw [HU.out]; exact (uOf_le (f + 1) (by omega)).1
     have hu2 : u ≤ 34359738368 := by rw [HU.out]; exact (uOf_le (f + 1) (by omega)).2
     have HU2 : Hid (u * 128 = uOf f) := by show u * 128 = uOf f; rw [HU.out]; exact uOf_next f (by omega)
     by_cases hd : 128 ≤ zs[k]?.getD 0
     ·have HG2 : Hid (gvGo f zs (k + 1) (r + (zs[k]?.getD 0 - 128) * u) (u * 128) = gv zs k0) := by
       show gvGo f zs (k + 1) (r + (zs[k]?.getD 0 - 128) * u) (u * 128) = gv zs k0
       rw [← HG.out, gvGo_more f zs k r u HK.out hd]
      generalize zs[k]?.getD 0 = d at *
      obtain ⟨m0, m1⟩ := mul_bounds (d - 128) u (by omega) (by omega) (by omega)
      go_wp2
      go_round
      case rel => exact ⟨f, k + 1, r + (d - 128) * u, u * 128, by go_num, rfl, rfl, by omega, by omega, HU2.out, by omega, by omega, HG2.out⟩
      case measure => simp [intOf]; omega
     ·by_cases hbad : 1099511627775 < r + zs[k]?.getD 0 * u
      ·have HR : Hid (gv zs k0 = (0, -1)) := by
        show gv zs k0 = (0, -1)
        rw [← HG.out]; exact gvGo_bad f zs k r u HK.out (by omega) (.inl hbad)
       generalize zs[k]?.getD 0 = d at *
       obtain ⟨m0, m1⟩ := mul_bounds d u (by omega) (by omega) (by omega)
       go_wp2
       go_ret2
       exact ⟨by rw [HR.out]; rfl, rfl⟩
      ·by_cases hz : zs[k]?.getD 0 = 0
       ·by_cases hu3 : 1 < u
        ·have HR : Hid (gv zs k0 = (0, -1)) := by
          show gv zs k0 = (0, -1)
          rw [← HG.out]; exact gvGo_bad f zs k r u HK.out (by omega) (.inr ⟨hz, hu3⟩)
         rw [hz] at hck hbad
         clear hz hbk hbk2 hd
         go_wp2
         go_ret2
         exact ⟨by rw [HR.out]; rfl, rfl⟩
        ·have HR : Hid (gv zs k0 = (r + 0 * u, (k : Int) + 1)) := by
          show gv zs k0 = (r + 0 * u, (k : Int) + 1)
          rw [← HG.out, gvGo_good f zs k r u HK.out (by omega) (by omega), hz]
         rw [hz] at hck hbad
         clear hz hbk hbk2 hd
         go_wp2
         go_ret2
         exact ⟨by rw [HR.out]; simp, rfl⟩
       ·have HR : Hid (gv zs k0 = (r + zs[k]?.getD 0 * u, (k : Int) + 1)) := by
         show gv zs k0 = (r + zs[k]?.getD 0 * u, (k : Int) + 1)
         rw [← HG.out, gvGo_good f zs k r u HK.out (by omega) (by omega)]
        generalize zs[k]?.getD 0 = d at *
        have hz' : (d == 0) = false := by simp [hz]
        obtain ⟨m0, m1⟩ := mul_bounds d u (by omega) (by omega) (by omega)
        clear hz
        go_wp2
        go_ret2
        exact ⟨by rw [HR.out]; rfl, rfl⟩
   ·have HR : Hid (gv zs k0 = (0, -1)) := by
     show gv zs k0 = (0, -1)
     rw [← HG.out]; exact gvGo_end f zs k r u (by rw [← HN.out]; omega)
    have hlt' : ¬ (k : Int) < (n : Int) := by omega
    go_wp2
    go_ret2
    exact ⟨by rw [HR.out]; rfl, rfl⟩
open Go.RowKit
def strOf (zs : List Int) : ByteArray := ⟨(zs.map fun z => UInt8.ofNat z.toNat).toArray⟩
theorem foldl_push (zs : List Int) : ∀ s : ByteArray, zs.foldl (fun r n => r.push (UInt8.ofNat n.toNat)) s = ⟨(s.data.toList ++ zs.map fun z => UInt8.ofNat z.toNat).toArray⟩ := by
 induction zs with
 | nil => intro s; simp
 | cons z zs ih =>
  intro s
  rw [List.foldl_cons, ih]
  simp [ByteArray.push]
theorem strOf_foldl (zs : List Int) : zs.foldl (fun r n => r.push (UInt8.ofNat n.toNat)) ByteArray.empty = strOf zs := by
 rw [foldl_push]
 simp only [strOf]
 rfl
theorem run_str {w : World} {a : Option Addr} {n c : Nat} {zs : List Int} (h : Rd w a n c zs) : (convert 89 9 (.slice a n c)).run Tryz.prog w = .ok (.string (strOf zs)) w := by
 rw [run_convert_bytes_string w _ _ _ a n c Tryz.underlying89 Tryz.underlying5 Tryz.underlying9]
 obtain ⟨h1, h2, h3, h30, h4, h5⟩ := h
 cases a with
 | none =>
  have hm : n = 0 := by
   rcases Nat.eq_zero_or_pos n with h | h
   ·exact h
   ·obtain ⟨b, off, e, _⟩ := h5 h
    cases e
  have hz : zs = [] := List.eq_nil_of_length_eq_zero (by omega)
  subst hz
  rfl
 | some x =>
  rw [run_bytesToString w x n c zs, strOf_foldl]
  have hl := run_firstCells_some (P := Tryz.prog) w 1 n x n c (zs.map (Value.int .u8)) (by simp [h1]) (by
    intro j u hu
    have hj : j < zs.length := by
     have := (List.getElem?_eq_some_iff.1 hu).1
     simpa using this
    obtain ⟨b, off, e, _, hc⟩ := h5 (by omega)
    cases e
    have := hc j (by omega)
    rw [Addr.add_lit, this]
    simp [hj] at hu
    simp [hj, hu])
  simpa [Builtin.firstCells] using hl
open Go.RowKit
theorem rd_nil (w : World) : Rd w none 0 0 [] := ⟨rfl, Nat.le_refl _, by omega, by omega, by simp, fun h => by omega⟩
theorem enc_digits (f : Nat) (hf : f ≤ 5) (r d : Int) (h0 : 0 ≤ r) (h1 : r < uOf (f + 1)) (hd0 : 0 ≤ d) (hd1 : d < 128) : (enc (r + d * uOf (f + 1))).length = 6 - f ↔ (f = 5 ∨ d ≠ 0) := by
 match f, hf with
 | 0, _ => have := encF_length_eq 5 6 (r + d * uOf 1); simp [bnd, uOf, enc] at *; omega
 | 1, _ => have := encF_length_eq 4 6 (r + d * uOf 2); simp [bnd, uOf, enc] at *; omega
 | 2, _ => have := encF_length_eq 3 6 (r + d * uOf 3); simp [bnd, uOf, enc] at *; omega
 | 3, _ => have := encF_length_eq 2 6 (r + d * uOf 4); simp [bnd, uOf, enc] at *; omega
 | 4, _ => have := encF_length_eq 1 6 (r + d * uOf 5); simp [bnd, uOf, enc] at *; omega
 | 5, _ => have := encF_length_eq 0 6 (r + d * uOf 6); simp [bnd, uOf, enc] at *; omega
set_option maxHeartbeats 800000 in
theorem specGetVar_any (a : Option Addr) (n c : Nat) (zs : List Int) (p : Int) (w : World) (h : Rd w a n c zs) (hp : p ≤ 9223372036854775807) :
  Calls Tryz.prog 104 #[.slice a n c, .int .i64 p] w fun e w' => e = .returned (.tuple #[.int .i64 (gv zs p).1, .int .i64 (gv zs p).2]) ∧ Below w.heap.size w w' := by
 obtain ⟨hn0, hc, hm, hnm, hb, hcell⟩ := h
 have HN : Hid (n = zs.length) := hn0
 clear hn0
 by_cases hneg : p < 0
 ·have HG : Hid (gv zs p = (0, -1)) := gv_neg zs p hneg
  go_enter Tryz.func104, Tryz.ntmps104
  go_wp2
  go_ret2
  exact ⟨by rw [HG.out]; rfl, Below.refl _ _⟩
 ·obtain ⟨k0, rfl⟩ := Int.eq_ofNat_of_zero_le (by omega : 0 ≤ p)
  by_cases hout : (n : Int) ≤ (k0 : Int)
  ·have HG : Hid (gv zs k0 = (0, -1)) := by
    show gv zs k0 = (0, -1)
    rw [gv_nat]; exact gvGo_end 6 zs k0 0 1 (by rw [← HN.out]; omega)
   go_enter Tryz.func104, Tryz.ntmps104
   go_wp2
   go_ret2
   exact ⟨by rw [HG.out]; rfl, Below.refl _ _⟩
  ·go_enter Tryz.func104, Tryz.ntmps104
   go_wp2
   go_loop [6, 7, 8] (fun s t i => ∃ (f k : Nat) (r u : Int), i = .int .i64 k ∧ s = .int .i64 r ∧ t = .int .i64 u ∧ f ≤ 6 ∧ k + f = k0 + 6 ∧ k ≤ n ∧ u = uOf f ∧ 0 ≤ r ∧ r < u ∧ gvGo f zs k r u = gv zs k0) (fun _ _ i => n - (intOf i).toNat)
   case atStart => exact ⟨6, k0, 0, 1, rfl, rfl, rfl, by omega, by omega, by omega, rfl, by omega, by omega, by rw [gv_nat]⟩
   case round =>
    obtain ⟨f, k, r, u, rfl, rfl, rfl, hf6, hkf, hkn, hu, hr0, hru, hgv⟩ := hrel
    have HU : Hid (u = uOf f) := hu
    have HG : Hid (gvGo f zs k r u = gv zs k0) := hgv
    have HF : Hid (k + f = k0 + 6) := hkf
    have hkb : k ≤ k0 + 6 := by omega
    clear hu hgv hkf
    by_cases hlt : k < n
    ·obtain ⟨b, off, ha, hbw, hcell⟩ := hcell (by omega)
     have hck := hcell k hlt
     have hbk := (hb k).1
     have hbk2 := (hb k).2
     have HK : Hid (k < zs.length) := by show k < zs.length; rw [← HN.out]; exact hlt
     have hlt' : (k : Int) < (n : Int) := by omega
     clear hcell hb
     rw [ha]
     cases f with
     | zero =>
      have hu' : ¬ (k : Int) < (k0 : Int) + 6 := by have := HF.out; omega
      have HR : Hid (gv zs k0 = (0, -1)) := by show gv zs k0 = (0, -1); rw [← HG.out]; rfl
      go_wp2
      go_ret2
      exact ⟨by rw [HR.out]; rfl, Below.refl _ _⟩
     | succ f =>
      have hk6 : (k : Int) < (k0 : Int) + 6 := by have := HF.out; omega
      have hu1 : 1 ≤ u := by rw [HU.out]; exact (uOf_le (f + 1) (by omega)).1
      have hu2 : u ≤ 34359738368 := by rw [HU.out]; exact (uOf_le (f + 1) (by omega)).2
      have HU2 : Hid (u * 128 = uOf f) := by show u * 128 = uOf f; rw [HU.out]; exact uOf_next f (by omega)
      by_cases hd : 128 ≤ zs[k]?.getD 0
      ·have HG2 : Hid (gvGo f zs (k + 1) (r + (zs[k]?.getD 0 % 128) * u) (u * 128) = gv zs k0) := by
        show gvGo f zs (k + 1) (r + (zs[k]?.getD 0 % 128) * u) (u * 128) = gv zs k0
        rw [show zs[k]?.getD 0 % 128 = zs[k]?.getD 0 - 128 from by omega, ← HG.out, gvGo_more f zs k r u HK.out hd]
       generalize zs[k]?.getD 0 = d at *
       obtain ⟨m0, m1⟩ := mul_bounds (d % 128) u (by omega) (by omega) (by omega)
       go_wp2
       go_round
       case rel => exact ⟨f, k + 1, r + d % 128 * u, u * 128, by go_num, rfl, rfl, by omega, by have := HF.out; omega, by omega, HU2.out, by omega, by omega, HG2.out⟩
       case measure => simp [intOf]; omega
      ·have HM : Hid (zs[k]?.getD 0 % 128 = zs[k]?.getD 0) := by show zs[k]?.getD 0 % 128 = zs[k]?.getD 0; omega
       have HL : Hid ((enc (r + zs[k]?.getD 0 % 128 * u)).length = 6 - f ↔ (f = 5 ∨ zs[k]?.getD 0 ≠ 0)) := by
        show (enc (r + zs[k]?.getD 0 % 128 * u)).length = 6 - f ↔ (f = 5 ∨ zs[k]?.getD 0 ≠ 0)
        rw [HM.out, HU.out]
        exact enc_digits f (by omega) r _ hr0 (by rw [← HU.out]; exact hru) hbk (by omega)
       have HU1 : Hid (1 < u ↔ f + 1 < 6) := by show 1 < u ↔ f + 1 < 6; rw [HU.out]; exact uOf_one (f + 1) (by omega) (by omega)
       by_cases hbad : 1099511627775 < r + zs[k]?.getD 0 % 128 * u
       ·have HR : Hid (gv zs k0 = (0, -1)) := by
         show gv zs k0 = (0, -1)
         rw [← HG.out]; exact gvGo_bad f zs k r u HK.out (by omega) (.inl (by rw [HM.out] at hbad; exact hbad))
        have HP : Hid (pv [] (r + zs[k]?.getD 0 % 128 * u) = none) := pv_bad _ _ (.inr hbad)
        generalize zs[k]?.getD 0 = d at *
        obtain ⟨m0, m1⟩ := mul_bounds (d % 128) u (by omega) (by omega) (by omega)
        go_wp2_with (go_at_call 141; refine (specPutVar_none none 0 0 [] (r + d % 128 * u) _ (rd_nil _) (by omega) HP.out).mono ?_; rintro e w1 ⟨rfl, hb1⟩)
        go_ret2
        exact ⟨by rw [HR.out]; rfl, hb1⟩
       ·have HP : Hid (pv [] (r + zs[k]?.getD 0 % 128 * u) = some (enc (r + zs[k]?.getD 0 % 128 * u))) := by
         refine pv_ok [] _ ?_ (by omega) ?_
         ·have := (mul_bounds (zs[k]?.getD 0 % 128) u (by omega) (by omega) (by omega)).1
          omega
         ·have := (enc_len (r + zs[k]?.getD 0 % 128 * u)).2
          simp; omega
        by_cases hg : f = 5 ∨ zs[k]?.getD 0 ≠ 0
        ·have HR : Hid (gv zs k0 = (r + zs[k]?.getD 0 % 128 * u, (k : Int) + 1)) := by
          show gv zs k0 = (r + zs[k]?.getD 0 % 128 * u, (k : Int) + 1)
          have := HU1.out
          rw [← HG.out, HM.out, gvGo_good f zs k r u HK.out (by omega) (by rw [HM.out] at hbad; omega)]
         have hl := HL.out.2 hg
         generalize zs[k]?.getD 0 = d at *
         obtain ⟨m0, m1⟩ := mul_bounds (d % 128) u (by omega) (by omega) (by omega)
         have hne : (((enc (r + d % 128 * u)).length : Int) != (k : Int) + 1 - (k0 : Int)) = false := by
          have := HF.out
          simp; omega
         clear hl hg
         go_wp2_with (go_at_call 141; refine (specPutVar_some none 0 0 [] _ (r + d % 128 * u) _ (rd_nil _) (by omega) HP.out).mono ?_; rintro e w1 ⟨v, rfl, ho, hb1⟩; obtain ⟨a2, c2, hv2⟩ := ho.shape; rw [hv2])
         go_ret2
         exact ⟨by rw [HR.out]; rfl, hb1⟩
        ·have HR : Hid (gv zs k0 = (0, -1)) := by
          show gv zs k0 = (0, -1)
          have := HU1.out
          rw [← HG.out]; exact gvGo_bad f zs k r u HK.out (by omega) (.inr (by omega))
         have hl : ¬ _ := fun x => hg (HL.out.1 x)
         generalize zs[k]?.getD 0 = d at *
         obtain ⟨m0, m1⟩ := mul_bounds (d % 128) u (by omega) (by omega) (by omega)
         have hne : (((enc (r + d % 128 * u)).length : Int) != (k : Int) + 1 - (k0 : Int)) = true := by
          have := HF.out
          simp; omega
         clear hl hg
         go_wp2_with (go_at_call 141; refine (specPutVar_some none 0 0 [] _ (r + d % 128 * u) _ (rd_nil _) (by omega) HP.out).mono ?_; rintro e w1 ⟨v, rfl, ho, hb1⟩; obtain ⟨a2, c2, hv2⟩ := ho.shape; rw [hv2])
         go_ret2
         exact ⟨by rw [HR.out]; rfl, hb1⟩
    ·have HR : Hid (gv zs k0 = (0, -1)) := by
      show gv zs k0 = (0, -1)
      rw [← HG.out]; exact gvGo_end f zs k r u (by rw [← HN.out]; omega)
     have hlt' : ¬ (k : Int) < (n : Int) := by omega
     go_wp2
     go_ret2
     exact ⟨by rw [HR.out]; rfl, Below.refl _ _⟩
open Go.RowKit
theorem gvGo_range (f : Nat) (zs : List Int) (hb : ∀ i : Nat, 0 ≤ zs[i]?.getD 0 ∧ zs[i]?.getD 0 ≤ 255) : ∀ (k : Nat) (n u : Int), 0 ≤ n → 0 ≤ u →
  gvGo f zs k n u = (0, -1) ∨ ∃ j : Nat, (gvGo f zs k n u).2 = j ∧ 1 ≤ j ∧ j ≤ zs.length ∧ 0 ≤ (gvGo f zs k n u).1 ∧ (gvGo f zs k n u).1 ≤ 1099511627775 := by
 induction f with
 | zero => intro k n u _ _; exact .inl rfl
 | succ f ih =>
  intro k n u hn hu
  by_cases hk : k < zs.length
  ·by_cases hd : 128 ≤ zs[k]?.getD 0
   ·rw [gvGo_more f zs k n u hk hd]
    have := Int.mul_nonneg (show 0 ≤ zs[k]?.getD 0 - 128 by omega) hu
    exact ih (k + 1) _ _ (by omega) (by omega)
   ·by_cases hbad : 1099511627775 < n + zs[k]?.getD 0 * u ∨ (zs[k]?.getD 0 = 0 ∧ 1 < u)
    ·exact .inl (gvGo_bad f zs k n u hk (by omega) hbad)
    ·rw [gvGo_good f zs k n u hk (by omega) hbad]
     have := Int.mul_nonneg (hb k).1 hu
     exact .inr ⟨k + 1, by simp, by omega, by omega, by show 0 ≤ n + zs[k]?.getD 0 * u; omega, by show n + zs[k]?.getD 0 * u ≤ 1099511627775; omega⟩
  ·exact .inl (gvGo_end (f + 1) zs k n u (by omega))
theorem gv_range (zs : List Int) (hb : ∀ i : Nat, 0 ≤ zs[i]?.getD 0 ∧ zs[i]?.getD 0 ≤ 255) (p : Int) :
  gv zs p = (0, -1) ∨ ∃ j : Nat, (gv zs p).2 = j ∧ 1 ≤ j ∧ j ≤ zs.length ∧ 0 ≤ (gv zs p).1 ∧ (gv zs p).1 ≤ 1099511627775 := by
 unfold gv
 split
 ·exact .inl rfl
 ·exact gvGo_range 6 zs hb _ 0 1 (by omega) (by omega)
theorem rd_empty (w : World) (a : Option Addr) : Rd w a 0 0 [] := ⟨rfl, Nat.le_refl _, by omega, by omega, by simp, fun h => by omega⟩
def gt (zs : List Int) (p : Int) : List Int × Int := if (gv zs p).2 < 0 ∨ (zs.length : Int) - (gv zs p).2 < (gv zs p).1 then ([], -1) else ((zs.drop (gv zs p).2.toNat).take (gv zs p).1.toNat, (gv zs p).2 + (gv zs p).1)
theorem Rd.slice {w : World} {b off n c : Nat} {zs : List Int} (h : Rd w (some ⟨b, off, none⟩) n c zs) (lo m : Nat) (hm : lo + m ≤ n) (k : Nat) (hk : m ≤ k) (hk2 : k ≤ c) : Rd w (some ⟨b, off + lo, none⟩) m k ((zs.drop lo).take m) := by
 obtain ⟨h1, h2, h3, h30, h4, h5⟩ := h
 refine ⟨by simp; omega, hk, by omega, by omega, fun i => ?_, fun hp => ⟨b, off + lo, rfl, ?_, fun i hi => ?_⟩⟩
 ·by_cases hi : i < m
  ·rw [List.getElem?_take_of_lt hi, List.getElem?_drop]; exact h4 (lo + i)
  ·rw [List.getElem?_eq_none (by simp; omega)]; simp
 ·obtain ⟨b', off', e, hb, _⟩ := h5 (by omega)
  cases e; exact hb
 ·obtain ⟨b', off', e, hb, hc⟩ := h5 (by omega)
  cases e
  rw [List.getElem?_take_of_lt hi, List.getElem?_drop, ← hc (lo + i) (by omega), Nat.add_assoc]
set_option maxHeartbeats 800000 in
set_option maxRecDepth 20000 in
theorem implGetText_any (a : Option Addr) (n c : Nat) (zs : List Int) (p : Int) (w : World) (h : Rd w a n c zs) (hp : p ≤ 9223372036854775807) :
  Calls Tryz.prog 186 #[.slice a n c, .int .i64 p] w fun e w' => e = .returned (.tuple #[.string (strOf (gt zs p).1), .int .i64 (gt zs p).2]) ∧ w = w' := by
 have HN : Hid (n = zs.length) := h.1
 have hnm : n ≤ 140737488355328 := h.2.2.2.1
 have hcm : c ≤ 9223372036854775807 := h.2.2.1
 have hnc : n ≤ c := h.2.1
 have HC := implGetVar_any a n c zs p w h hp
 have hrg := gv_range zs h.2.2.2.2.1 p
 have HT : Hid (gt zs p = if (gv zs p).2 < 0 ∨ (zs.length : Int) - (gv zs p).2 < (gv zs p).1 then ([], -1) else ((zs.drop (gv zs p).2.toNat).take (gv zs p).1.toNat, (gv zs p).2 + (gv zs p).1)) := rfl
 generalize gv zs p = g at *
 obtain ⟨s, f⟩ := g
 have HC' := hid HC
 clear HC
 rcases hrg with hg | ⟨j, hj, hj1, hj2, hs0, hs1⟩
 ·cases hg
  have HR : Hid (gt zs p = ([], -1)) := by show gt zs p = ([], -1); rw [HT.out]; simp
  clear HT
  have HD := hid h
  clear h
  go_enter Tryz.func186, Tryz.ntmps186
  go_wp2_with (go_at_call 187; refine HC'.out.mono ?_; rintro e w' ⟨rfl, rfl⟩)
  go_ret2
  exact ⟨by rw [HR.out]; rfl, rfl⟩
 ·simp only at hj hs0 hs1
  subst hj
  have hjn : j ≤ n := by rw [HN.out]; exact hj2
  clear hj2
  obtain ⟨b, off, ha, hbw, _⟩ := h.2.2.2.2.2 (by omega)
  subst ha
  by_cases hlong : (n : Int) - (j : Int) < s
  ·have HR : Hid (gt zs p = ([], -1)) := by
    show gt zs p = ([], -1)
    rw [HT.out]
    exact if_pos (.inr (by rw [← HN.out]; exact hlong))
   clear HT
   have HD := hid h
   clear h
   go_enter Tryz.func186, Tryz.ntmps186
   go_wp2_with (go_at_call 187; refine HC'.out.mono ?_; rintro e w' ⟨rfl, rfl⟩)
   go_ret2
   exact ⟨by rw [HR.out]; rfl, rfl⟩
  ·obtain ⟨m, rfl⟩ := Int.eq_ofNat_of_zero_le hs0
   have HR : Hid (gt zs p = ((zs.drop j).take m, (j : Int) + (m : Int))) := by
    show gt zs p = ((zs.drop j).take m, (j : Int) + (m : Int))
    rw [HT.out]
    rw [if_neg (by rw [← HN.out]; simp; omega)]
    simp
   clear HT
   by_cases hcj : c = j
   ·have hm0 : m = 0 := by omega
    subst hm0
    subst hcj
    have hst := run_str (rd_empty w (some ⟨b, off, none⟩))
    have HD := hid h
    clear h
    go_enter Tryz.func186, Tryz.ntmps186
    go_wp2_with (go_at_call 187; refine (HC'.out).mono ?_; rintro e w' ⟨rfl, rfl⟩)
    go_ret2
    exact ⟨by rw [HR.out]; simp, rfl⟩
   ·have hst := run_str (h.slice j m (by omega) (c - j) (by omega) (by omega))
    have hj0 : ¬ j = 0 := by omega
    have HD := hid h
    clear h
    go_enter Tryz.func186, Tryz.ntmps186
    go_wp2_with (go_at_call 187; refine HC'.out.mono ?_; rintro e w' ⟨rfl, rfl⟩)
    go_ret2
    exact ⟨by rw [HR.out]; rfl, rfl⟩
set_option maxHeartbeats 800000 in
set_option maxRecDepth 20000 in
theorem specGetText_any (a : Option Addr) (n c : Nat) (zs : List Int) (p : Int) (w : World) (h : Rd w a n c zs) (hp : p ≤ 9223372036854775807) :
  Calls Tryz.prog 105 #[.slice a n c, .int .i64 p] w fun e w' => e = .returned (.tuple #[.string (strOf (gt zs p).1), .int .i64 (gt zs p).2]) ∧ Below w.heap.size w w' := by
 have HN : Hid (n = zs.length) := h.1
 have hnm : n ≤ 140737488355328 := h.2.2.2.1
 have hcm : c ≤ 9223372036854775807 := h.2.2.1
 have hnc : n ≤ c := h.2.1
 have HC := specGetVar_any a n c zs p w h hp
 have hrg := gv_range zs h.2.2.2.2.1 p
 have HT : Hid (gt zs p = if (gv zs p).2 < 0 ∨ (zs.length : Int) - (gv zs p).2 < (gv zs p).1 then ([], -1) else ((zs.drop (gv zs p).2.toNat).take (gv zs p).1.toNat, (gv zs p).2 + (gv zs p).1)) := rfl
 generalize gv zs p = g at *
 obtain ⟨s, f⟩ := g
 have HC' := hid HC
 clear HC
 rcases hrg with hg | ⟨j, hj, hj1, hj2, hs0, hs1⟩
 ·cases hg
  have HR : Hid (gt zs p = ([], -1)) := by show gt zs p = ([], -1); rw [HT.out]; simp
  clear HT
  have HD := hid h
  clear h
  go_enter Tryz.func105, Tryz.ntmps105
  go_wp2_with (go_at_call 104; refine HC'.out.mono ?_; rintro e w1 ⟨rfl, hb1⟩)
  go_ret2
  exact ⟨by rw [HR.out]; rfl, hb1⟩
 ·simp only at hj hs0 hs1
  subst hj
  have hjn : j ≤ n := by rw [HN.out]; exact hj2
  clear hj2
  obtain ⟨b, off, ha, hbw, _⟩ := h.2.2.2.2.2 (by omega)
  subst ha
  by_cases hlong : (n : Int) - (j : Int) < s
  ·have HR : Hid (gt zs p = ([], -1)) := by
    show gt zs p = ([], -1)
    rw [HT.out]
    exact if_pos (.inr (by rw [← HN.out]; exact hlong))
   clear HT
   have HD := hid h
   clear h
   go_enter Tryz.func105, Tryz.ntmps105
   go_wp2_with (go_at_call 104; refine HC'.out.mono ?_; rintro e w1 ⟨rfl, hb1⟩)
   go_ret2
   exact ⟨by rw [HR.out]; rfl, hb1⟩
  ·obtain ⟨m, rfl⟩ := Int.eq_ofNat_of_zero_le hs0
   have HR : Hid (gt zs p = ((zs.drop j).take m, (j : Int) + (m : Int))) := by
    show gt zs p = ((zs.drop j).take m, (j : Int) + (m : Int))
    rw [HT.out]
    rw [if_neg (by rw [← HN.out]; simp; omega)]
    simp
   clear HT
   by_cases hcj : c = j
   ·have hm0 : m = 0 := by omega
    subst hm0
    subst hcj
    have HD := hid h
    clear h
    go_enter Tryz.func105, Tryz.ntmps105
    go_wp2_with (go_at_call 104; refine (HC'.out).mono ?_; rintro e w1 ⟨rfl, hb1⟩; have hst := run_str (rd_empty w1 (some ⟨b, off, none⟩)))
    go_ret2
    exact ⟨by rw [HR.out]; simp, hb1⟩
   ·have hj0 : ¬ j = 0 := by omega
    have HD := hid h
    clear h
    go_enter Tryz.func105, Tryz.ntmps105
    go_wp2_with (go_at_call 104; refine HC'.out.mono ?_; rintro e w1 ⟨rfl, hb1⟩; have hst := run_str ((HD.out.kept hb1).slice j m (by omega) (c - j) (by omega) (by omega)))
    go_ret2
    exact ⟨by rw [HR.out]; rfl, hb1⟩
open Go.RowKit
theorem info_of {P : Program} {e : TypeId} {z : Value} {size bytes : Nat} (h : (P.info? e).map (fun i => (i.zero, i.size, i.bytes)) = some (some z, size, bytes)) : ∃ i, P.info? e = some i ∧ i.zero = some z ∧ i.size = size ∧ i.bytes = bytes := by
 obtain ⟨i, hi, hz⟩ := Option.map_eq_some_iff.1 h
 simp only [Prod.mk.injEq] at hz
 exact ⟨i, hi, hz⟩
theorem run_append_row_at {P : Program} {w : World} (base : Nat) (t ty e : TypeId) (i : TypeInfo) (z : Value) (size bytes : Nat) (ht : P.underlying t = some (.slice e)) (hi : P.info? e = some i) (hz : i.zero = some z)
  (hsize : i.size = size) (hby : i.bytes = bytes) (hzs : z.cells.size = size) (hsz : 0 < size) (v : Value) (n : Nat) (xs : List Value) (hown : w.ownsRow base e size v n xs)
  (S : Nat → Prop) (src : Value) (m : Nat) (news : List Value) (hsrc : Rw w S src m news) (hl : news.length = m * size) (h1 : ∀ u ∈ news, u.oneCell' = true)
  (h63 : n + m ≤ maxLen) (hbytes : (n + m) * bytes ≤ 140737488355328) (hbase : base ≤ w.heap.size) :
  ∃ v' w', (Builtin.append_ #[t, t] ty #[v, src]).run P w = .ok v' w' ∧ w'.ownsRow base e size v' (n + m) (xs ++ news) ∧ w.grownBy w' v.ownBlock ∧ (v'.ownBlock = v.ownBlock ∨ v'.ownBlock = some w.heap.size) := by
 obtain ⟨a, c, rfl, h2, h3, h4, hn, h5⟩ := hsrc
 by_cases hm : 0 < m
 ·obtain ⟨b, off, rfl, hb, hS, hc⟩ := h5 hm
  obtain ⟨v', w', hr, ho, hg, _, ha⟩ := run_append_own_at w base t ty e i z size bytes ht hi hz hsize hby hzs hsz v n xs hown ⟨b, off, none⟩ m c news hl (fun j u hu => by rw [Addr.add_lit]; exact hc j u hu) h1 h63 hbytes hbase
  exact ⟨v', w', hr, ho, hg, ha⟩
 ·obtain rfl : m = 0 := by omega
  obtain rfl := h4 rfl
  cases a with
  | some ad =>
   obtain ⟨v', w', hr, ho, hg, _, ha⟩ := run_append_own_at w base t ty e i z size bytes ht hi hz hsize hby hzs hsz v n xs hown ad 0 c [] hl (fun j u hu => by simp at hu) h1 h63 hbytes hbase
   exact ⟨v', w', hr, ho, hg, ha⟩
  | none =>
   obtain rfl := hn rfl
   have hrun := run_append_owned_none (P := P) (w := w) base t ty e i size ht hi v n xs hown
   exact ⟨v, w, hrun, by simpa using hown, ⟨rfl, rfl, rfl, Nat.le_refl _, fun _ _ _ => rfl⟩, .inl rfl⟩
theorem wpList_append_row_at {P : Program} {w : World} {ops : Array Oper} {rest : List Oper} {o : Oper} {a : Act} {Q : Exit → Act → World → Prop} (hgd : o.guard = none) (s x : Operand) (t : TypeId)
  (ho : o.op = .call { callee := .builtin .append, args := #[s, x], argTypes := #[t, t] })
  (base : Nat) (e : TypeId) (i : TypeInfo) (z : Value) (size bytes : Nat) (ht : P.underlying t = some (.slice e)) (hi : P.info? e = some i) (hz : i.zero = some z)
  (hsize : i.size = size) (hby : i.bytes = bytes) (hzs : z.cells.size = size) (hsz : 0 < size) (v : Value) (n : Nat) (xs : List Value) (hs : a.eval s = v) (hown : w.ownsRow base e size v n xs)
  (S : Nat → Prop) (src : Value) (m : Nat) (news : List Value) (hx : a.eval x = src) (hsrc : Rw w S src m news) (hl : news.length = m * size) (h1 : ∀ u ∈ news, u.oneCell' = true)
  (h63 : n + m ≤ maxLen) (hbytes : (n + m) * bytes ≤ 140737488355328) (hbase : base ≤ w.heap.size)
  (h : ∀ v' w', w'.ownsRow base e size v' (n + m) (xs ++ news) → w.grownBy w' v.ownBlock → (v'.ownBlock = v.ownBlock ∨ v'.ownBlock = some w.heap.size) → wpList P ops Q rest (a.put o.dst v') w') : wpList P ops Q (o :: rest) a w := by
 refine wpList_plain hgd fun K hK => ?_
 obtain ⟨v', w', hr, h2, h3, h4⟩ := run_append_row_at (P := P) (w := w) base t o.type e i z size bytes ht hi hz hsize hby hzs hsz v n xs hown S src m news hsrc hl h1 h63 hbytes hbase
 unfold Oper.wp execOp
 simp only [ho, resolve, invoke, builtin, Sem.run_bind, Sem.run_pure, Result.andThen_ok, List.map_toArray, List.map_cons, List.map_nil, hs, hx, hr]
 exact hK _ _ (h v' w' h2 h3 h4)
theorem infoStr' : (Tryz.prog.info? 9).map (fun i => (i.zero, i.size, i.bytes)) = some (some (.string ⟨#[]⟩), 1, 16) := by kernel_rfl
theorem wpList_append_st1 {w : World} {ops : Array Oper} {rest : List Oper} {o : Oper} {a : Act} {Q : Exit → Act → World → Prop} (hgd : o.guard = none) (s x : Operand)
  (ho : o.op = .call { callee := .builtin .append, args := #[s, x], argTypes := #[83, 83] }) (v : Value) (n : Nat) (xs : List Value) (hs : a.eval s = v) (hown : w.ownsRow 0 9 1 v n xs)
  (g : Nat) (z : ByteArray) (hx : a.eval x = .slice (some ⟨g, 0, none⟩) 1 1) (hB : Bk w g 9 [.string z]) (hb : n ≤ 1048576)
  (h : ∀ a' n' c' w', w'.ownsRow 0 9 1 (.slice a' n' c') (n + 1) (xs ++ [.string z]) → w.grownBy w' v.ownBlock → ((Value.slice a' n' c').ownBlock = v.ownBlock ∨ (Value.slice a' n' c').ownBlock = some w.heap.size) → wpList Tryz.prog ops Q rest (a.put o.dst (.slice a' n' c')) w') : wpList Tryz.prog ops Q (o :: rest) a w := by
 obtain ⟨i, hi, hz, hsz, hby⟩ := info_of infoStr'
 refine wpList_append_row_at hgd s x 83 ho 0 9 i _ 1 16 Tryz.underlying83 hi hz hsz hby rfl (by decide) v n xs hs hown (fun _ => True) _ 1 [.string z] hx (hB.rw (Nat.le_refl _) (by omega) (fun h => by omega) _ trivial) rfl
  (by intro u hu; simp at hu; subst hu; rfl) (by unfold maxLen; omega) (by omega) (Nat.zero_le _) ?_
 intro v' w' k1 k2 k3
 obtain ⟨a', c', rfl⟩ := own_shape k1
 exact h a' _ c' w' k1 k2 k3
theorem infoInt' : (Tryz.prog.info? 3).map (fun i => (i.zero, i.size, i.bytes)) = some (some (.int .i64 0), 1, 8) := by kernel_rfl
theorem wpList_append_in1 {w : World} {ops : Array Oper} {rest : List Oper} {o : Oper} {a : Act} {Q : Exit → Act → World → Prop} (hgd : o.guard = none) (s x : Operand)
  (ho : o.op = .call { callee := .builtin .append, args := #[s, x], argTypes := #[34, 34] }) (v : Value) (n : Nat) (xs : List Value) (hs : a.eval s = v) (hown : w.ownsRow 0 3 1 v n xs)
  (g : Nat) (z : Int) (hx : a.eval x = .slice (some ⟨g, 0, none⟩) 1 1) (hB : Bk w g 3 [.int .i64 z]) (hb : n ≤ 1048576)
  (h : ∀ a' n' c' w', w'.ownsRow 0 3 1 (.slice a' n' c') (n + 1) (xs ++ [.int .i64 z]) → w.grownBy w' v.ownBlock → ((Value.slice a' n' c').ownBlock = v.ownBlock ∨ (Value.slice a' n' c').ownBlock = some w.heap.size) → wpList Tryz.prog ops Q rest (a.put o.dst (.slice a' n' c')) w') : wpList Tryz.prog ops Q (o :: rest) a w := by
 obtain ⟨i, hi, hz, hsz, hby⟩ := info_of infoInt'
 refine wpList_append_row_at hgd s x 34 ho 0 3 i _ 1 8 Tryz.underlying34 hi hz hsz hby rfl (by decide) v n xs hs hown (fun _ => True) _ 1 [.int .i64 z] hx (hB.rw (Nat.le_refl _) (by omega) (fun h => by omega) _ trivial) rfl
  (by intro u hu; simp at hu; subst hu; rfl) (by unfold maxLen; omega) (by omega) (Nat.zero_le _) ?_
 intro v' w' k1 k2 k3
 obtain ⟨a', c', rfl⟩ := own_shape k1
 exact h a' _ c' w' k1 k2 k3
open Go.RowKit
def zAt (zs : List Int) (i : Nat) : Int := zs[i]?.getD 0
theorem strOf_eq {xs ys : List Int} (hx : ∀ z ∈ xs, 0 ≤ z ∧ z ≤ 255) (hy : ∀ z ∈ ys, 0 ≤ z ∧ z ≤ 255) (h : strOf xs = strOf ys) : xs = ys := by
 have key : ∀ (o : List Int), (∀ z ∈ o, 0 ≤ z ∧ z ≤ 255) → bytesOf (strOf o) = o := by
  intro o ho
  simp only [bytesOf, strOf, List.map_map]
  conv => rhs; rw [← List.map_id o]
  refine List.map_congr_left fun z hz => ?_
  have := ho z hz
  simp
  omega
 rw [← key xs hx, ← key ys hy, h]
set_option maxHeartbeats 800000 in
theorem same_any (a b : Option Addr) (n m c d : Nat) (xs ys : List Int) (w : World) (hx : Rd w a n c xs) (hy : Rd w b m d ys) :
  Calls Tryz.prog 103 #[.slice a n c, .slice b m d] w fun e w' => e = .returned (.bool (decide (xs = ys))) ∧ w = w' := by
 have h1 := run_str hx
 have h2 := run_str hy
 have b1 := at_byte hx.2.2.2.2.1
 have b2 := at_byte hy.2.2.2.2.1
 by_cases e : xs = ys
 ·subst e
  generalize strOf xs = s at *
  rw [decide_eq_true rfl]
  clear b1 b2 hx hy
  go_enter Tryz.func103, Tryz.ntmps103
  go_wp2
  go_ret
  exact ⟨rfl, rfl⟩
 ·have hne : ((strOf xs).toList == (strOf ys).toList) = false := by
   rw [beq_eq_false_iff_ne]
   exact fun h => e (strOf_eq b1 b2 (str_ext h))
  rw [decide_eq_false e]
  generalize strOf xs = s at *
  generalize strOf ys = t at *
  clear b1 b2 hx hy e
  go_enter Tryz.func103, Tryz.ntmps103
  go_wp2
  go_ret
  exact ⟨rfl, rfl⟩
open Go.RowKit
def cdStep (zs : List Int) (B : Bool) (p : PG) (at' : Int) : PG × Int :=
 if B = true then (⟨p.keys ++ [strOf (gt zs at').1], p.vals, p.kids ++ [(gv zs (gt zs at').2).1]⟩, (gv zs (gt zs at').2).2)
 else (⟨p.keys ++ [strOf (gt zs at').1], p.vals ++ [strOf (gt zs (gt zs at').2).1], p.kids⟩, (gt zs (gt zs at').2).2)
def cdGo (zs : List Int) (B : Bool) (n : Int) : Nat → Nat → PG → Int → PG
 | 0, _, p, _ => p
 | f + 1, i, p, a => if (i : Int) < n ∧ i ≤ 4 ∧ 0 ≤ a then cdGo zs B n f (i + 1) (cdStep zs B p a).1 (cdStep zs B p a).2 else p
def cd (zs : List Int) : PG :=
 if zAt zs 0 = 66 then
  (if 0 ≤ (gv zs 1).2 then cdGo zs true (gv zs 1).1 6 0 ⟨[], [], [(gv zs (gv zs 1).2).1]⟩ (gv zs (gv zs 1).2).2 else cdGo zs true (gv zs 1).1 6 0 ⟨[], [], []⟩ (gv zs 1).2)
 else cdGo zs false (gv zs 1).1 6 0 ⟨[], [], []⟩ (gv zs 1).2
def prd (zs : List Int) : Option PG := if zs.length = 512 ∧ (zAt zs 0 = 76 ∨ zAt zs 0 = 66) ∧ pgBytes (cd zs) = some zs then some (cd zs) else none
theorem cdGo_stop (zs : List Int) (B : Bool) (n : Int) (f i : Nat) (p : PG) (a : Int) (h : ¬ ((i : Int) < n ∧ i ≤ 4 ∧ 0 ≤ a)) : cdGo zs B n f i p a = p := by
 cases f with
 | zero => rfl
 | succ f => rw [cdGo, if_neg h]
theorem cdGo_on (zs : List Int) (B : Bool) (n : Int) (f i : Nat) (p : PG) (a : Int) (h : (i : Int) < n ∧ i ≤ 4 ∧ 0 ≤ a) : cdGo zs B n (f + 1) i p a = cdGo zs B n f (i + 1) (cdStep zs B p a).1 (cdStep zs B p a).2 := by rw [cdGo, if_pos h]
theorem results_pg2 {fn : Func} {p u : Tmp} (h : fn.results = #[.cell p 107, .tmp u]) (tmps : Array Value) (w : World) (g : Nat) {x y z b : Value} (hp : tmps.getD p undef = .pointer (some ⟨g, 0, none⟩)) (hb : tmps.getD u undef = b)
  (c0 : w.cell? ⟨g, 0, none⟩ = some x) (c1 : w.cell? ⟨g, 1, none⟩ = some y) (c2 : w.cell? ⟨g, 2, none⟩ = some z) : (results fn tmps).run Tryz.prog w = .ok (.tuple #[.agg #[x, y, z], b]) w := by
 have hp' : tmps[p]?.getD undef = .pointer (some ⟨g, 0, none⟩) := by simpa using hp
 have hb' : tmps[u]?.getD undef = b := by simpa using hb
 have hl : (loadVar 107 ⟨g, 0, none⟩).run Tryz.prog w = .ok (.agg #[x, y, z]) w := by go_simp
 simp [results, h, hp', hb', asAddr, hl, Result.andThen]
structure Pr1 (w v : World) (kv vv iv : Value) (p : PG) : Prop where
 be : Below w.heap.size w v
 rb : Bk v w.heap.size 107 [.slice none 0 0, .slice none 0 0, .slice none 0 0]
 bk : Bk v (w.heap.size + 1) 107 [kv, vv, iv]
 hk : v.ownsRow 0 9 1 kv p.keys.length (p.keys.map Value.string)
 hv : v.ownsRow 0 9 1 vv p.vals.length (p.vals.map Value.string)
 hi : v.ownsRow 0 3 1 iv p.kids.length (p.kids.map (Value.int .i64))
 lo : ∀ y, (kv.ownBlock = some y ∨ vv.ownBlock = some y ∨ iv.ownBlock = some y) → w.heap.size + 1 < y
 ap : ∀ y, (kv.ownBlock = some y → vv.ownBlock ≠ some y ∧ iv.ownBlock ≠ some y) ∧ (vv.ownBlock = some y → iv.ownBlock ≠ some y)
theorem Pr1.below {w v v' : World} {kv vv iv : Value} {p : PG} (h : Pr1 w v kv vv iv p) (hb : Below v.heap.size v v') : Pr1 w v' kv vv iv p :=
 ⟨h.be.trans (hb.mono h.be.size), h.rb.below hb, h.bk.below hb, own_kept h.hk (only_of_below hb (fun _ => False)) (fun _ _ h => h), own_kept h.hv (only_of_below hb (fun _ => False)) (fun _ _ h => h), own_kept h.hi (only_of_below hb (fun _ => False)) (fun _ _ h => h), h.lo, h.ap⟩
theorem Pr1.cells {w v : World} {kv vv iv : Value} {p : PG} (h : Pr1 w v kv vv iv p) : v.cell? ⟨w.heap.size + 1, 0, none⟩ = some kv ∧ v.cell? ⟨w.heap.size + 1, 1, none⟩ = some vv ∧ v.cell? ⟨w.heap.size + 1, 2, none⟩ = some iv :=
 ⟨h.bk.cell (j := 0) rfl, h.bk.cell (j := 1) rfl, h.bk.cell (j := 2) rfl⟩
theorem Pr1.pgr {w v : World} {ka va ia : Option Addr} {kn kc vn vc jn ic : Nat} {p : PG} (h : Pr1 w v (.slice ka kn kc) (.slice va vn vc) (.slice ia jn ic) p) : Pgr v (fun y => w.heap.size + 1 < y) ka kn kc va vn vc ia jn ic p :=
 ⟨rw_own h.hk (fun k e _ _ => h.lo k (.inl e)), rw_own h.hv (fun k e _ _ => h.lo k (.inr (.inl e))), rw_own h.hi (fun k e _ _ => h.lo k (.inr (.inr e)))⟩
theorem Pr1.addK {w v w' : World} {kv vv iv nw : Value} {p : PG} {s : ByteArray} (h : Pr1 w v kv vv iv p) (hO : w'.ownsRow 0 9 1 nw (p.keys.length + 1) (p.keys.map (Value.string) ++ [Value.string s])) (hg : v.grownBy w' kv.ownBlock) (ha : nw.ownBlock = kv.ownBlock ∨ ∃ k, nw.ownBlock = some k ∧ v.heap.size ≤ k) :
  Pr1 w (w'.setCell ⟨w.heap.size + 1, 0, none⟩ nw) nw vv iv ⟨p.keys ++ [s], p.vals, p.kids⟩ ∧ Bk w' (w.heap.size + 1) 107 [kv, vv, iv] := by
 have hon : Only (fun y => kv.ownBlock = some y) v w' := only_of_grown hg (fun k e => e)
 have hos : Only (fun y => y = w.heap.size + 1) w' (w'.setCell ⟨w.heap.size + 1, 0, none⟩ nw) := only_set (R := fun y => y = w.heap.size + 1) rfl _
 have hlo : ∀ y, kv.ownBlock = some y → w.heap.size + 1 < y := fun y e => h.lo y (.inl e)
 have hbl := h.bk.lt
 have hnw : ∀ y, nw.ownBlock = some y → kv.ownBlock = some y ∨ v.heap.size ≤ y := by
  intro y hy
  rcases ha with e | ⟨k, e, hk⟩
  ·exact .inl (e ▸ hy)
  ·rw [e] at hy; cases hy; exact .inr hk
 have hnl : ∀ y, nw.ownBlock = some y → w.heap.size + 1 < y := by
  intro y hy
  rcases hnw y hy with e | e
  ·exact hlo y e
  ·omega
 have hb2 : Bk w' (w.heap.size + 1) 107 [kv, vv, iv] := h.bk.to hon (fun e => by have := hlo _ e; omega)
 have hrb : Bk w' w.heap.size 107 [.slice none 0 0, .slice none 0 0, .slice none 0 0] := h.rb.to hon (fun e => by have := hlo _ e; omega)
 have hk2 := World.ownsRow.lt h.hk
 have hv2 := World.ownsRow.lt h.hv
 have hi2 := World.ownsRow.lt h.hi
 refine ⟨⟨(h.be.trans (hon.below h.be.size (fun b hb e => by have := hlo _ e; omega))).setCell (p := ⟨w.heap.size + 1, 0, none⟩) (Nat.le_succ _) _, hrb.setOther (by omega) _ _, ?_, ?_, ?_, ?_, ?_, ?_⟩, hb2⟩
 ·exact hb2.set 0 nw
 ·have : (w'.setCell ⟨w.heap.size + 1, 0, none⟩ nw).ownsRow 0 9 1 nw (p.keys.length + 1) (p.keys.map (Value.string) ++ [Value.string s]) := own_kept hO hos (fun k e e2 => by have := hnl k e; omega)
  simpa using this
 ·exact own_kept (own_kept h.hv hon (fun k e e2 => ((h.ap k).1 e2).1 e)) hos (fun k e e2 => by have := h.lo k (.inr (.inl e)); omega)
 ·exact own_kept (own_kept h.hi hon (fun k e e2 => ((h.ap k).1 e2).2 e)) hos (fun k e e2 => by have := h.lo k (.inr (.inr e)); omega)
 ·rintro y (e | e | e)
  ·exact hnl y e
  ·exact h.lo y (.inr (.inl e))
  ·exact h.lo y (.inr (.inr e))
 ·intro y
  refine ⟨fun e => ⟨fun e2 => ?_, fun e2 => ?_⟩, (h.ap y).2⟩
  ·rcases hnw y e with e3 | e3
   ·exact ((h.ap y).1 e3).1 e2
   ·have := (hv2 y e2).2; omega
  ·rcases hnw y e with e3 | e3
   ·exact ((h.ap y).1 e3).2 e2
   ·have := (hi2 y e2).2; omega
theorem Pr1.addV {w v w' : World} {kv vv iv nw : Value} {p : PG} {s : ByteArray} (h : Pr1 w v kv vv iv p) (hO : w'.ownsRow 0 9 1 nw (p.vals.length + 1) (p.vals.map (Value.string) ++ [Value.string s])) (hg : v.grownBy w' vv.ownBlock) (ha : nw.ownBlock = vv.ownBlock ∨ ∃ k, nw.ownBlock = some k ∧ v.heap.size ≤ k) :
  Pr1 w (w'.setCell ⟨w.heap.size + 1, 1, none⟩ nw) kv nw iv ⟨p.keys, p.vals ++ [s], p.kids⟩ ∧ Bk w' (w.heap.size + 1) 107 [kv, vv, iv] := by
 have hon : Only (fun y => vv.ownBlock = some y) v w' := only_of_grown hg (fun k e => e)
 have hos : Only (fun y => y = w.heap.size + 1) w' (w'.setCell ⟨w.heap.size + 1, 1, none⟩ nw) := only_set (R := fun y => y = w.heap.size + 1) rfl _
 have hlo : ∀ y, vv.ownBlock = some y → w.heap.size + 1 < y := fun y e => h.lo y (.inr (.inl e))
 have hbl := h.bk.lt
 have hnw : ∀ y, nw.ownBlock = some y → vv.ownBlock = some y ∨ v.heap.size ≤ y := by
  intro y hy
  rcases ha with e | ⟨k, e, hk⟩
  ·exact .inl (e ▸ hy)
  ·rw [e] at hy; cases hy; exact .inr hk
 have hnl : ∀ y, nw.ownBlock = some y → w.heap.size + 1 < y := by
  intro y hy
  rcases hnw y hy with e | e
  ·exact hlo y e
  ·omega
 have hb2 : Bk w' (w.heap.size + 1) 107 [kv, vv, iv] := h.bk.to hon (fun e => by have := hlo _ e; omega)
 have hrb : Bk w' w.heap.size 107 [.slice none 0 0, .slice none 0 0, .slice none 0 0] := h.rb.to hon (fun e => by have := hlo _ e; omega)
 have hk2 := World.ownsRow.lt h.hk
 have hv2 := World.ownsRow.lt h.hv
 have hi2 := World.ownsRow.lt h.hi
 refine ⟨⟨(h.be.trans (hon.below h.be.size (fun b hb e => by have := hlo _ e; omega))).setCell (p := ⟨w.heap.size + 1, 1, none⟩) (Nat.le_succ _) _, hrb.setOther (by omega) _ _, ?_, ?_, ?_, ?_, ?_, ?_⟩, hb2⟩
 ·exact hb2.set 1 nw
 ·exact own_kept (own_kept h.hk hon (fun k e e2 => ((h.ap k).1 e).1 e2)) hos (fun k e e2 => by have := h.lo k (.inl e); omega)
 ·have : (w'.setCell ⟨w.heap.size + 1, 1, none⟩ nw).ownsRow 0 9 1 nw (p.vals.length + 1) (p.vals.map (Value.string) ++ [Value.string s]) := own_kept hO hos (fun k e e2 => by have := hnl k e; omega)
  simpa using this
 ·exact own_kept (own_kept h.hi hon (fun k e e2 => (h.ap k).2 e2 e)) hos (fun k e e2 => by have := h.lo k (.inr (.inr e)); omega)
 ·rintro y (e | e | e)
  ·exact h.lo y (.inl e)
  ·exact hnl y e
  ·exact h.lo y (.inr (.inr e))
 ·intro y
  refine ⟨fun e => ⟨fun e2 => ?_, ((h.ap y).1 e).2⟩, fun e e2 => ?_⟩
  ·rcases hnw y e2 with e3 | e3
   ·exact ((h.ap y).1 e).1 e3
   ·have := (hk2 y e).2; omega
  ·rcases hnw y e with e3 | e3
   ·exact (h.ap y).2 e3 e2
   ·have := (hi2 y e2).2; omega
theorem Pr1.addI {w v w' : World} {kv vv iv nw : Value} {p : PG} {s : Int} (h : Pr1 w v kv vv iv p) (hO : w'.ownsRow 0 3 1 nw (p.kids.length + 1) (p.kids.map (Value.int .i64) ++ [Value.int .i64 s])) (hg : v.grownBy w' iv.ownBlock) (ha : nw.ownBlock = iv.ownBlock ∨ ∃ k, nw.ownBlock = some k ∧ v.heap.size ≤ k) :
  Pr1 w (w'.setCell ⟨w.heap.size + 1, 2, none⟩ nw) kv vv nw ⟨p.keys, p.vals, p.kids ++ [s]⟩ ∧ Bk w' (w.heap.size + 1) 107 [kv, vv, iv] := by
 have hon : Only (fun y => iv.ownBlock = some y) v w' := only_of_grown hg (fun k e => e)
 have hos : Only (fun y => y = w.heap.size + 1) w' (w'.setCell ⟨w.heap.size + 1, 2, none⟩ nw) := only_set (R := fun y => y = w.heap.size + 1) rfl _
 have hlo : ∀ y, iv.ownBlock = some y → w.heap.size + 1 < y := fun y e => h.lo y (.inr (.inr e))
 have hbl := h.bk.lt
 have hnw : ∀ y, nw.ownBlock = some y → iv.ownBlock = some y ∨ v.heap.size ≤ y := by
  intro y hy
  rcases ha with e | ⟨k, e, hk⟩
  ·exact .inl (e ▸ hy)
  ·rw [e] at hy; cases hy; exact .inr hk
 have hnl : ∀ y, nw.ownBlock = some y → w.heap.size + 1 < y := by
  intro y hy
  rcases hnw y hy with e | e
  ·exact hlo y e
  ·omega
 have hb2 : Bk w' (w.heap.size + 1) 107 [kv, vv, iv] := h.bk.to hon (fun e => by have := hlo _ e; omega)
 have hrb : Bk w' w.heap.size 107 [.slice none 0 0, .slice none 0 0, .slice none 0 0] := h.rb.to hon (fun e => by have := hlo _ e; omega)
 have hk2 := World.ownsRow.lt h.hk
 have hv2 := World.ownsRow.lt h.hv
 have hi2 := World.ownsRow.lt h.hi
 refine ⟨⟨(h.be.trans (hon.below h.be.size (fun b hb e => by have := hlo _ e; omega))).setCell (p := ⟨w.heap.size + 1, 2, none⟩) (Nat.le_succ _) _, hrb.setOther (by omega) _ _, ?_, ?_, ?_, ?_, ?_, ?_⟩, hb2⟩
 ·exact hb2.set 2 nw
 ·exact own_kept (own_kept h.hk hon (fun k e e2 => ((h.ap k).1 e).2 e2)) hos (fun k e e2 => by have := h.lo k (.inl e); omega)
 ·exact own_kept (own_kept h.hv hon (fun k e e2 => (h.ap k).2 e e2)) hos (fun k e e2 => by have := h.lo k (.inr (.inl e)); omega)
 ·have : (w'.setCell ⟨w.heap.size + 1, 2, none⟩ nw).ownsRow 0 3 1 nw (p.kids.length + 1) (p.kids.map (Value.int .i64) ++ [Value.int .i64 s]) := own_kept hO hos (fun k e e2 => by have := hnl k e; omega)
  simpa using this
 ·rintro y (e | e | e)
  ·exact h.lo y (.inl e)
  ·exact h.lo y (.inr (.inl e))
  ·exact hnl y e
 ·intro y
  refine ⟨fun e => ⟨((h.ap y).1 e).1, fun e2 => ?_⟩, fun e e2 => ?_⟩
  ·rcases hnw y e2 with e3 | e3
   ·exact ((h.ap y).1 e).2 e3
   ·have := (hk2 y e).2; omega
  ·rcases hnw y e2 with e3 | e3
   ·exact (h.ap y).2 e e3
   ·have := (hv2 y e).2; omega
open Go.RowKit
def PrPost (o : Option PG) (w : World) (e : Ending) (w' : World) : Prop := Below w.heap.size w w' ∧ ((o = none ∧ e = .returned (.tuple #[.agg #[.slice none 0 0, .slice none 0 0, .slice none 0 0], .bool false])) ∨ ∃ (p : PG) (ka : Option Addr) (kn kc : Nat) (va : Option Addr) (vn vc : Nat) (ia : Option Addr) (jn ic : Nat), o = some p ∧ e = .returned (.tuple #[.agg #[.slice ka kn kc, .slice va vn vc, .slice ia jn ic], .bool true]) ∧ Pgr w' (fun y => w.heap.size ≤ y) ka kn kc va vn vc ia jn ic p)
theorem gv_rng (zs : List Int) (hb : ∀ i : Nat, 0 ≤ zs[i]?.getD 0 ∧ zs[i]?.getD 0 ≤ 255) (p : Int) : -1 ≤ (gv zs p).2 ∧ (gv zs p).2 ≤ zs.length ∧ 0 ≤ (gv zs p).1 ∧ (gv zs p).1 ≤ 1099511627775 := by
 rcases gv_range zs hb p with h | ⟨j, h1, h2, h3, h4, h5⟩
 ·rw [h]; exact ⟨by decide, by show (-1 : Int) ≤ _; omega, by decide, by decide⟩
 ·exact ⟨by omega, by omega, h4, h5⟩
theorem gt_range (zs : List Int) (hb : ∀ i : Nat, 0 ≤ zs[i]?.getD 0 ∧ zs[i]?.getD 0 ≤ 255) (p : Int) : -1 ≤ (gt zs p).2 ∧ (gt zs p).2 ≤ zs.length := by
 have h := gv_rng zs hb p
 unfold gt
 split
 ·exact ⟨by decide, by show (-1 : Int) ≤ _; omega⟩
 ·rename_i h2
  show -1 ≤ (gv zs p).2 + (gv zs p).1 ∧ (gv zs p).2 + (gv zs p).1 ≤ zs.length
  omega
theorem pgBytes_some {p : PG} {bs : List Int} (h : pgBytes p = some bs) : (∀ z ∈ bs, 0 ≤ z ∧ z ≤ 255) ∧ bs.length = 512 := by
 unfold pgBytes at h
 split at h
 ·rename_i hok
  cases h
  have hF := pgOk_facts hok
  have hl := pgBody_len hF p.keys.length (Nat.le_refl _)
  have hn := hF.nk
  have hr : (pgRaw p).length ≤ 512 := by show (pgBody p p.keys.length).length ≤ 512; omega
  refine ⟨byte_append (pgBody_byte hF _ (Nat.le_refl _)) (fun z hz => by have := List.eq_of_mem_replicate hz; omega), ?_⟩
  rw [pgFull, List.length_append, List.length_replicate]
  omega
 ·cases h
set_option maxHeartbeats 8000000 in
set_option maxRecDepth 20000 in
theorem specPageRead_any (a : Option Addr) (n c : Nat) (zs : List Int) (w : World) (h : Rd w a n c zs) :
  Calls Tryz.prog 63 #[.slice a n c] w fun e w' => PrPost (prd zs) w e w' := by
 have hzl : n = zs.length := h.1
 have HBY := hid h.2.2.2.2.1
 have HR := hid h
 have ba : Below w.heap.size w ((w.alloc (.cells #[.slice none 0 0, .slice none 0 0, .slice none 0 0] 107)).alloc (.cells #[.slice none 0 0, .slice none 0 0, .slice none 0 0] 107)) := below_new (below_new (Below.refl _ _))
 have LS : Hid (Pr1 w ((w.alloc (.cells #[.slice none 0 0, .slice none 0 0, .slice none 0 0] 107)).alloc (.cells #[.slice none 0 0, .slice none 0 0, .slice none 0 0] 107)) (.slice none 0 0) (.slice none 0 0) (.slice none 0 0) ⟨[], [], []⟩) := by
  have k1 := Bk.new (w.alloc (.cells #[.slice none 0 0, .slice none 0 0, .slice none 0 0] 107)) 107 [.slice none 0 0, .slice none 0 0, .slice none 0 0]
  exact ⟨ba, (Bk.new w 107 [.slice none 0 0, .slice none 0 0, .slice none 0 0]).alloc _, by simpa using k1, World.ownsRow_nil _ _ _ _, World.ownsRow_nil _ _ _ _, World.ownsRow_nil _ _ _ _, fun y hy => (by rcases hy with e | e | e <;> cases e), fun y => ⟨fun e => (by cases e), fun e => (by cases e)⟩⟩
 clear ba
 have r0 := LS.out.rb.cell (j := 0) rfl
 have r1 := LS.out.rb.cell (j := 1) rfl
 have r2 := LS.out.rb.cell (j := 2) rfl
 have f0 := LS.out.rb.free 0
 have f1 := LS.out.rb.free 1
 have f2 := LS.out.rb.free 2
 obtain ⟨p0, p1, p2⟩ := LS.out.cells
 by_cases h512 : n = 512
 ·subst h512
  have HZL : Hid (zs.length = 512) := hzl.symm
  obtain ⟨b, off, rfl, hbl, hcell⟩ := h.2.2.2.2.2 (by omega)
  have HC0 : Hid (∀ v, Below w.heap.size w v → v.cell? ⟨b, off, none⟩ = some (.int .u8 (zAt zs 0))) := by
   intro v hb
   rw [hb.cell (p := ⟨b, off, none⟩) hbl]
   exact hcell 0 (by omega)
  have hz0 := HBY.out 0
  have hz0' : 0 ≤ zAt zs 0 ∧ zAt zs 0 ≤ 255 := hz0
  have HPRN : Hid (¬ (zAt zs 0 = 76 ∨ zAt zs 0 = 66) → prd zs = none) := by
   intro hn
   rw [prd, if_neg]
   rintro ⟨_, h, _⟩
   exact hn h
  have HCDEF : Hid (cd zs = if zAt zs 0 = 66 then
    (if 0 ≤ (gv zs 1).2 then cdGo zs true (gv zs 1).1 6 0 ⟨[], [], [(gv zs (gv zs 1).2).1]⟩ (gv zs (gv zs 1).2).2 else cdGo zs true (gv zs 1).1 6 0 ⟨[], [], []⟩ (gv zs 1).2)
   else cdGo zs false (gv zs 1).1 6 0 ⟨[], [], []⟩ (gv zs 1).2) := rfl
  have HZC : Hid (zAt zs 0 = 76 ∨ zAt zs 0 = 66 → zAt zs 0 = 76 ∨ zAt zs 0 = 66) := fun h => h
  clear hcell hbl hzl h hz0
  have bS := HC0.out _ LS.out.be
  by_cases z76 : zAt zs 0 = 76
  ·have HZ0 : Hid (zAt zs 0 = 76 ∨ zAt zs 0 = 66) := .inl z76
   rw [if_neg (by rw [z76]; decide)] at HCDEF
   have HC0' : Hid (∀ v, Below w.heap.size w v → v.cell? ⟨b, off, none⟩ = some (.int .u8 76)) := fun v hv => by rw [HC0.out v hv, z76]
   rw [z76] at bS
   clear HC0 HPRN HZC hz0' z76
   have HC0 := HC0'
   clear HC0'
   have RDS := hid (HR.out.kept LS.out.be)
   go_enter Tryz.func63, Tryz.ntmps63
   go_wp2_with fail
   refine (specGetVar_any _ 512 c zs 1 _ RDS.out (by omega)).mono ?_
   generalize (w.alloc (.cells #[.slice none 0 0, .slice none 0 0, .slice none 0 0] 107)).alloc (.cells #[.slice none 0 0, .slice none 0 0, .slice none 0 0] 107) = U at *
   rintro e w1 ⟨rfl, hb1⟩
   have L1 := hid (LS.out.below hb1)
   have hgv := gv_rng zs HBY.out 1
   generalize (gv zs 1).1 = n0 at *
   generalize (gv zs 1).2 = at0 at *
   clear hb1 LS RDS r0 r1 r2 f0 f1 f2 p0 p1 p2 bS
   rw [HZL.out] at hgv
   have b1 := HC0.out _ L1.out.be
   generalize hA : (some ⟨b, off, none⟩ : Option Addr) = a at *
   subst hA
   have LS := L1
   go_wp2_with fail
   go_loopw [6, 9] (fun xa xi wr => ∃ (j : Nat) (at' : Int) (ka : Option Addr) (kn kc : Nat) (va : Option Addr) (vn vc : Nat) (ia : Option Addr) (jn ic : Nat) (p : PG), xa = .int .i64 at' ∧ xi = .int .i64 j ∧ j ≤ 5 ∧ (-1 ≤ at' ∧ at' ≤ 512) ∧ Hid (p.keys.length ≤ j ∧ p.vals.length ≤ j ∧ p.kids.length ≤ j + 1) ∧ Hid (Pr1 w wr (.slice ka kn kc) (.slice va vn vc) (.slice ia jn ic) p) ∧ Hid (cdGo zs false n0 (6 - j) j p at' = cd zs)) (fun _ xi _ => 6 - (intOf xi).toNat)
   case atStart => exact ⟨0, at0, none, 0, 0, none, 0, 0, none, 0, 0, ⟨[], [], []⟩, rfl, rfl, by omega, by omega, ⟨by simp, by simp, by simp⟩, L1.out, HCDEF.out.symm⟩
   case round =>
    obtain ⟨j, at', ka, kn, kc, va, vn, vc, ia, jn, ic, p, rfl, rfl, hj, hat, HPL, L4, HCD⟩ := hrel
    clear LS
    by_cases q1 : (j : Int) < n0
    ·by_cases q2 : (j : Int) ≤ 4
     ·by_cases q3 : 0 ≤ at'
      ·have L4B := L4
       have RD4 := hid (HR.out.kept L4.out.be)
       have b4 := HC0.out _ L4.out.be
       go_wp2_with fail
       refine (specGetText_any _ _ _ zs at' _ RD4.out (by omega)).mono ?_
       rintro e w5 ⟨rfl, hb5⟩
       have L5 := hid ((L4.out.below hb5).below (below_new (o := .cells #[.string (strOf (gt zs at').1)] 9) (Below.refl _ _)))
       have LL5 := hid (L4.out.below hb5)
       have Q5 := hid (Bk.new w5 9 [.string (strOf (gt zs at').1)])
       clear hb5 L4 RD4 b4
       obtain ⟨d0, d1, d2⟩ := LL5.out.cells
       have hgt := gt_range zs HBY.out at'
       rw [HZL.out] at hgt
       generalize hkk : strOf (gt zs at').1 = kk at *
       have HKK := hid hkk
       clear hkk
       have hkn2 : kn = p.keys.length := (Rw.len L4B.out.pgr.hk).1
       have hq1 : kn ≤ 1048576 := by have := HPL.out; omega
       have HOK := hid L5.out.hk
       rw [← hkn2] at HOK
       have HKN := hid hkn2
       clear hkn2
       go_wp2_with (at_builtin; refine wpList_append_st1 rfl _ _ rfl _ kn _ rfl HOK.out w5.heap.size kk rfl Q5.out hq1 ?_)
       intro a6 n6 c6 w6 hO6 hg6 ha6
       rw [HKN.out] at hO6
       obtain ⟨hL6, hB6⟩ := L5.out.addK hO6 hg6 (ha6.imp id (fun e => ⟨_, e, by simp⟩))
       have L6 := hid hL6
       have b6 := hB6.cell (j := 0) rfl
       have g6 := hB6.free 0
       have RD6 := hid (HR.out.kept L6.out.be)
       have b7 := HC0.out _ L6.out.be
       clear hO6 hg6 ha6 hL6 hB6 L5 Q5 LL5 HOK HKN d0 d1 d2
       go_wp2_with fail
       refine (specGetText_any _ _ _ zs (gt zs at').2 _ RD6.out (by omega)).mono ?_
       rintro e w7 ⟨rfl, hb7⟩
       have L7 := hid ((L6.out.below hb7).below (below_new (o := .cells #[.string (strOf (gt zs (gt zs at').2).1)] 9) (Below.refl _ _)))
       have Q7 := hid (Bk.new w7 9 [.string (strOf (gt zs (gt zs at').2).1)])
       have LL7 := hid (L6.out.below hb7)
       clear hb7 L6 RD6
       obtain ⟨d0, d1, d2⟩ := LL7.out.cells
       have hgv := gt_range zs HBY.out (gt zs at').2
       rw [HZL.out] at hgv
       generalize hgk : strOf (gt zs (gt zs at').2).1 = vv' at *
       generalize hga : (gt zs (gt zs at').2).2 = at3 at *
       have hjn2 : vn = p.vals.length := (Rw.len L4B.out.pgr.hv).1
       have hq2 : vn ≤ 1048576 := by have := HPL.out; omega
       have HOW := hid L7.out.hv
       rw [← hjn2] at HOW
       have HJN := hid hjn2
       clear hjn2
       go_wp2_with (at_builtin; refine wpList_append_st1 rfl _ _ rfl _ vn _ rfl HOW.out w7.heap.size vv' rfl Q7.out hq2 ?_)
       intro a8 n8 c8 w8 hO8 hg8 ha8
       rw [HJN.out] at hO8
       obtain ⟨hL8, hB8⟩ := L7.out.addV hO8 hg8 (ha8.imp id (fun e => ⟨_, e, by simp⟩))
       have L8 := hid hL8
       have b8 := hB8.cell (j := 1) rfl
       have g8 := hB8.free 1
       have HCX : Hid (cdGo zs false n0 (6 - (j + 1)) (j + 1) ⟨p.keys ++ [kk], p.vals ++ [vv'], p.kids⟩ at3 = cd zs) := by
        have := HCD.out
        rw [show 6 - j = (6 - (j + 1)) + 1 by omega, cdGo_on _ _ _ _ _ _ _ ⟨q1, by omega, q3⟩] at this
        show _ = cd zs
        simpa [cdStep, HKK.out, hgk, hga] using this
       clear hO8 hg8 ha8 hL8 hB8 L7 Q7 LL7 HOW hgk hga HJN
       go_wp2
       go_roundw
       case rel => exact ⟨j + 1, at3, _, _, _, _, _, _, _, _, _, _, rfl, by go_num, by omega, by omega, by have := HPL.out; exact ⟨by simp; omega, by simp; omega, by simp; omega⟩, L8.out, HCX.out⟩
       case measure => simp [intOf]; omega
      ·have HPC : Hid (p = cd zs) := by
        have := HCD.out
        rw [cdGo_stop _ _ _ _ _ _ _ (by omega)] at this
        exact this
       have L := L4
       clear HCD L4
       have HCD := HPC
       clear HPC
       have lf := hid L.out.pgr
       obtain ⟨d0, d1, d2⟩ := L.out.cells
       go_wp2_with fail
       refine (specPageBytes_any _ ka kn kc va vn vc ia jn ic p _ lf.out).mono ?_
       intro e w5 hput
       obtain ⟨hb5, ⟨hnn, rfl⟩ | ⟨v5, bs, hss, rfl, hO5⟩⟩ := hput
       ·have HPR : Hid (prd zs = none) := by
         show prd zs = none
         rw [prd, if_neg]
         rintro ⟨_, _, h⟩
         rw [← HCD.out, hnn] at h
         cases h
        have L5 := hid (L.out.below hb5)
        have r0 := L5.out.rb.cell (j := 0) rfl
        have r1 := L5.out.rb.cell (j := 1) rfl
        have r2 := L5.out.rb.cell (j := 2) rfl
        have f0 := L5.out.rb.free 0
        have f1 := L5.out.rb.free 1
        have f2 := L5.out.rb.free 2
        have HBF := hid L5.out.be
        clear hb5 hnn L lf d0 d1 d2 L5
        go_wp2
        refine bodyPost_ret (results_pg2 (x := .slice none 0 0) (y := .slice none 0 0) (z := .slice none 0 0) rfl _ _ _ rfl rfl (by go_simp) (by go_simp) (by go_simp)) rfl ?_
        exact ⟨((HBF.out.setCell (p := ⟨w.heap.size, 0, none⟩) (Nat.le_refl _) _).setCell (p := ⟨w.heap.size, 1, none⟩) (Nat.le_refl _) _).setCell (p := ⟨w.heap.size, 2, none⟩) (Nat.le_refl _) _, .inl ⟨HPR.out, rfl⟩⟩
       ·have hbs := pgBytes_some hss
        obtain ⟨a5, n5, c5, rfl, R5, hn5⟩ := hO5.rdS hbs.1 (by rw [hbs.2]; omega)
        have L5 := hid (L.out.below hb5)
        have RB := hid (HR.out.kept L5.out.be)
        have HSS := hid hss
        clear hb5 hO5 hbs hss L lf d0 d1 d2
        obtain ⟨d0, d1, d2⟩ := L5.out.cells
        have r0 := L5.out.rb.cell (j := 0) rfl
        have r1 := L5.out.rb.cell (j := 1) rfl
        have r2 := L5.out.rb.cell (j := 2) rfl
        have f0 := L5.out.rb.free 0
        have f1 := L5.out.rb.free 1
        have f2 := L5.out.rb.free 2
        go_wp2_with fail
        refine (same_any a5 _ n5 _ c5 _ bs zs _ R5.out RB.out).mono ?_
        by_cases heq : bs = zs
        ·have HPR : Hid (prd zs = some p) := by
          show prd zs = some p
          rw [prd, if_pos, HCD.out]
          exact ⟨HZL.out, HZ0.out, by rw [← HCD.out, HSS.out, heq]⟩
         rw [decide_eq_true heq]
         rintro e w6 ⟨rfl, rfl⟩
         have L6 := hid L5.out.pgr
         have HBF := hid L5.out.be
         clear L5 R5 RB HSS heq
         go_wp2
         refine bodyPost_ret (results_pg2 (x := .slice ka kn kc) (y := .slice va vn vc) (z := .slice ia jn ic) rfl _ _ _ rfl rfl (by go_simp) (by go_simp) (by go_simp)) rfl ?_
         refine ⟨((HBF.out.setCell (p := ⟨w.heap.size, 0, none⟩) (Nat.le_refl _) _).setCell (p := ⟨w.heap.size, 1, none⟩) (Nat.le_refl _) _).setCell (p := ⟨w.heap.size, 2, none⟩) (Nat.le_refl _) _, .inr ⟨p, _, _, _, _, _, _, _, _, _, HPR.out, rfl, ?_⟩⟩
         have hon : Only (fun y => y = w.heap.size) w5 (((w5.setCell ⟨w.heap.size, 0, none⟩ (.slice ka kn kc)).setCell ⟨w.heap.size, 1, none⟩ (.slice va vn vc)).setCell ⟨w.heap.size, 2, none⟩ (.slice ia jn ic)) := (only_set (R := fun y => y = w.heap.size) rfl _).trans ((only_set (R := fun y => y = w.heap.size) rfl _).trans (only_set (R := fun y => y = w.heap.size) rfl _))
         have h7 := L6.out.to hon (fun y hy _ e => by omega)
         exact ⟨Rw.mono h7.hk (fun y hy _ => by omega), Rw.mono h7.hv (fun y hy _ => by omega), Rw.mono h7.hi (fun y hy _ => by omega)⟩
        ·have HPR : Hid (prd zs = none) := by
          show prd zs = none
          rw [prd, if_neg]
          rintro ⟨_, _, h⟩
          rw [← HCD.out, HSS.out] at h
          cases h
          exact heq rfl
         rw [decide_eq_false heq]
         rintro e w6 ⟨rfl, rfl⟩
         have HBF := hid L5.out.be
         clear L5 R5 RB HSS heq
         go_wp2
         refine bodyPost_ret (results_pg2 (x := .slice none 0 0) (y := .slice none 0 0) (z := .slice none 0 0) rfl _ _ _ rfl rfl (by go_simp) (by go_simp) (by go_simp)) rfl ?_
         exact ⟨((HBF.out.setCell (p := ⟨w.heap.size, 0, none⟩) (Nat.le_refl _) _).setCell (p := ⟨w.heap.size, 1, none⟩) (Nat.le_refl _) _).setCell (p := ⟨w.heap.size, 2, none⟩) (Nat.le_refl _) _, .inl ⟨HPR.out, rfl⟩⟩
     ·have HPC : Hid (p = cd zs) := by
       have := HCD.out
       rw [cdGo_stop _ _ _ _ _ _ _ (by omega)] at this
       exact this
      have L := L4
      clear HCD L4
      have HCD := HPC
      clear HPC
      have lf := hid L.out.pgr
      obtain ⟨d0, d1, d2⟩ := L.out.cells
      go_wp2_with fail
      refine (specPageBytes_any _ ka kn kc va vn vc ia jn ic p _ lf.out).mono ?_
      intro e w5 hput
      obtain ⟨hb5, ⟨hnn, rfl⟩ | ⟨v5, bs, hss, rfl, hO5⟩⟩ := hput
      ·have HPR : Hid (prd zs = none) := by
        show prd zs = none
        rw [prd, if_neg]
        rintro ⟨_, _, h⟩
        rw [← HCD.out, hnn] at h
        cases h
       have L5 := hid (L.out.below hb5)
       have r0 := L5.out.rb.cell (j := 0) rfl
       have r1 := L5.out.rb.cell (j := 1) rfl
       have r2 := L5.out.rb.cell (j := 2) rfl
       have f0 := L5.out.rb.free 0
       have f1 := L5.out.rb.free 1
       have f2 := L5.out.rb.free 2
       have HBF := hid L5.out.be
       clear hb5 hnn L lf d0 d1 d2 L5
       go_wp2
       refine bodyPost_ret (results_pg2 (x := .slice none 0 0) (y := .slice none 0 0) (z := .slice none 0 0) rfl _ _ _ rfl rfl (by go_simp) (by go_simp) (by go_simp)) rfl ?_
       exact ⟨((HBF.out.setCell (p := ⟨w.heap.size, 0, none⟩) (Nat.le_refl _) _).setCell (p := ⟨w.heap.size, 1, none⟩) (Nat.le_refl _) _).setCell (p := ⟨w.heap.size, 2, none⟩) (Nat.le_refl _) _, .inl ⟨HPR.out, rfl⟩⟩
      ·have hbs := pgBytes_some hss
       obtain ⟨a5, n5, c5, rfl, R5, hn5⟩ := hO5.rdS hbs.1 (by rw [hbs.2]; omega)
       have L5 := hid (L.out.below hb5)
       have RB := hid (HR.out.kept L5.out.be)
       have HSS := hid hss
       clear hb5 hO5 hbs hss L lf d0 d1 d2
       obtain ⟨d0, d1, d2⟩ := L5.out.cells
       have r0 := L5.out.rb.cell (j := 0) rfl
       have r1 := L5.out.rb.cell (j := 1) rfl
       have r2 := L5.out.rb.cell (j := 2) rfl
       have f0 := L5.out.rb.free 0
       have f1 := L5.out.rb.free 1
       have f2 := L5.out.rb.free 2
       go_wp2_with fail
       refine (same_any a5 _ n5 _ c5 _ bs zs _ R5.out RB.out).mono ?_
       by_cases heq : bs = zs
       ·have HPR : Hid (prd zs = some p) := by
         show prd zs = some p
         rw [prd, if_pos, HCD.out]
         exact ⟨HZL.out, HZ0.out, by rw [← HCD.out, HSS.out, heq]⟩
        rw [decide_eq_true heq]
        rintro e w6 ⟨rfl, rfl⟩
        have L6 := hid L5.out.pgr
        have HBF := hid L5.out.be
        clear L5 R5 RB HSS heq
        go_wp2
        refine bodyPost_ret (results_pg2 (x := .slice ka kn kc) (y := .slice va vn vc) (z := .slice ia jn ic) rfl _ _ _ rfl rfl (by go_simp) (by go_simp) (by go_simp)) rfl ?_
        refine ⟨((HBF.out.setCell (p := ⟨w.heap.size, 0, none⟩) (Nat.le_refl _) _).setCell (p := ⟨w.heap.size, 1, none⟩) (Nat.le_refl _) _).setCell (p := ⟨w.heap.size, 2, none⟩) (Nat.le_refl _) _, .inr ⟨p, _, _, _, _, _, _, _, _, _, HPR.out, rfl, ?_⟩⟩
        have hon : Only (fun y => y = w.heap.size) w5 (((w5.setCell ⟨w.heap.size, 0, none⟩ (.slice ka kn kc)).setCell ⟨w.heap.size, 1, none⟩ (.slice va vn vc)).setCell ⟨w.heap.size, 2, none⟩ (.slice ia jn ic)) := (only_set (R := fun y => y = w.heap.size) rfl _).trans ((only_set (R := fun y => y = w.heap.size) rfl _).trans (only_set (R := fun y => y = w.heap.size) rfl _))
        have h7 := L6.out.to hon (fun y hy _ e => by omega)
        exact ⟨Rw.mono h7.hk (fun y hy _ => by omega), Rw.mono h7.hv (fun y hy _ => by omega), Rw.mono h7.hi (fun y hy _ => by omega)⟩
       ·have HPR : Hid (prd zs = none) := by
         show prd zs = none
         rw [prd, if_neg]
         rintro ⟨_, _, h⟩
         rw [← HCD.out, HSS.out] at h
         cases h
         exact heq rfl
        rw [decide_eq_false heq]
        rintro e w6 ⟨rfl, rfl⟩
        have HBF := hid L5.out.be
        clear L5 R5 RB HSS heq
        go_wp2
        refine bodyPost_ret (results_pg2 (x := .slice none 0 0) (y := .slice none 0 0) (z := .slice none 0 0) rfl _ _ _ rfl rfl (by go_simp) (by go_simp) (by go_simp)) rfl ?_
        exact ⟨((HBF.out.setCell (p := ⟨w.heap.size, 0, none⟩) (Nat.le_refl _) _).setCell (p := ⟨w.heap.size, 1, none⟩) (Nat.le_refl _) _).setCell (p := ⟨w.heap.size, 2, none⟩) (Nat.le_refl _) _, .inl ⟨HPR.out, rfl⟩⟩
    ·have HPC : Hid (p = cd zs) := by
      have := HCD.out
      rw [cdGo_stop _ _ _ _ _ _ _ (by omega)] at this
      exact this
     have L := L4
     clear HCD L4
     have HCD := HPC
     clear HPC
     have lf := hid L.out.pgr
     obtain ⟨d0, d1, d2⟩ := L.out.cells
     go_wp2_with fail
     refine (specPageBytes_any _ ka kn kc va vn vc ia jn ic p _ lf.out).mono ?_
     intro e w5 hput
     obtain ⟨hb5, ⟨hnn, rfl⟩ | ⟨v5, bs, hss, rfl, hO5⟩⟩ := hput
     ·have HPR : Hid (prd zs = none) := by
       show prd zs = none
       rw [prd, if_neg]
       rintro ⟨_, _, h⟩
       rw [← HCD.out, hnn] at h
       cases h
      have L5 := hid (L.out.below hb5)
      have r0 := L5.out.rb.cell (j := 0) rfl
      have r1 := L5.out.rb.cell (j := 1) rfl
      have r2 := L5.out.rb.cell (j := 2) rfl
      have f0 := L5.out.rb.free 0
      have f1 := L5.out.rb.free 1
      have f2 := L5.out.rb.free 2
      have HBF := hid L5.out.be
      clear hb5 hnn L lf d0 d1 d2 L5
      go_wp2
      refine bodyPost_ret (results_pg2 (x := .slice none 0 0) (y := .slice none 0 0) (z := .slice none 0 0) rfl _ _ _ rfl rfl (by go_simp) (by go_simp) (by go_simp)) rfl ?_
      exact ⟨((HBF.out.setCell (p := ⟨w.heap.size, 0, none⟩) (Nat.le_refl _) _).setCell (p := ⟨w.heap.size, 1, none⟩) (Nat.le_refl _) _).setCell (p := ⟨w.heap.size, 2, none⟩) (Nat.le_refl _) _, .inl ⟨HPR.out, rfl⟩⟩
     ·have hbs := pgBytes_some hss
      obtain ⟨a5, n5, c5, rfl, R5, hn5⟩ := hO5.rdS hbs.1 (by rw [hbs.2]; omega)
      have L5 := hid (L.out.below hb5)
      have RB := hid (HR.out.kept L5.out.be)
      have HSS := hid hss
      clear hb5 hO5 hbs hss L lf d0 d1 d2
      obtain ⟨d0, d1, d2⟩ := L5.out.cells
      have r0 := L5.out.rb.cell (j := 0) rfl
      have r1 := L5.out.rb.cell (j := 1) rfl
      have r2 := L5.out.rb.cell (j := 2) rfl
      have f0 := L5.out.rb.free 0
      have f1 := L5.out.rb.free 1
      have f2 := L5.out.rb.free 2
      go_wp2_with fail
      refine (same_any a5 _ n5 _ c5 _ bs zs _ R5.out RB.out).mono ?_
      by_cases heq : bs = zs
      ·have HPR : Hid (prd zs = some p) := by
        show prd zs = some p
        rw [prd, if_pos, HCD.out]
        exact ⟨HZL.out, HZ0.out, by rw [← HCD.out, HSS.out, heq]⟩
       rw [decide_eq_true heq]
       rintro e w6 ⟨rfl, rfl⟩
       have L6 := hid L5.out.pgr
       have HBF := hid L5.out.be
       clear L5 R5 RB HSS heq
       go_wp2
       refine bodyPost_ret (results_pg2 (x := .slice ka kn kc) (y := .slice va vn vc) (z := .slice ia jn ic) rfl _ _ _ rfl rfl (by go_simp) (by go_simp) (by go_simp)) rfl ?_
       refine ⟨((HBF.out.setCell (p := ⟨w.heap.size, 0, none⟩) (Nat.le_refl _) _).setCell (p := ⟨w.heap.size, 1, none⟩) (Nat.le_refl _) _).setCell (p := ⟨w.heap.size, 2, none⟩) (Nat.le_refl _) _, .inr ⟨p, _, _, _, _, _, _, _, _, _, HPR.out, rfl, ?_⟩⟩
       have hon : Only (fun y => y = w.heap.size) w5 (((w5.setCell ⟨w.heap.size, 0, none⟩ (.slice ka kn kc)).setCell ⟨w.heap.size, 1, none⟩ (.slice va vn vc)).setCell ⟨w.heap.size, 2, none⟩ (.slice ia jn ic)) := (only_set (R := fun y => y = w.heap.size) rfl _).trans ((only_set (R := fun y => y = w.heap.size) rfl _).trans (only_set (R := fun y => y = w.heap.size) rfl _))
       have h7 := L6.out.to hon (fun y hy _ e => by omega)
       exact ⟨Rw.mono h7.hk (fun y hy _ => by omega), Rw.mono h7.hv (fun y hy _ => by omega), Rw.mono h7.hi (fun y hy _ => by omega)⟩
      ·have HPR : Hid (prd zs = none) := by
        show prd zs = none
        rw [prd, if_neg]
        rintro ⟨_, _, h⟩
        rw [← HCD.out, HSS.out] at h
        cases h
        exact heq rfl
       rw [decide_eq_false heq]
       rintro e w6 ⟨rfl, rfl⟩
       have HBF := hid L5.out.be
       clear L5 R5 RB HSS heq
       go_wp2
       refine bodyPost_ret (results_pg2 (x := .slice none 0 0) (y := .slice none 0 0) (z := .slice none 0 0) rfl _ _ _ rfl rfl (by go_simp) (by go_simp) (by go_simp)) rfl ?_
       exact ⟨((HBF.out.setCell (p := ⟨w.heap.size, 0, none⟩) (Nat.le_refl _) _).setCell (p := ⟨w.heap.size, 1, none⟩) (Nat.le_refl _) _).setCell (p := ⟨w.heap.size, 2, none⟩) (Nat.le_refl _) _, .inl ⟨HPR.out, rfl⟩⟩
  ·by_cases z66 : zAt zs 0 = 66
   ·have HZ0 : Hid (zAt zs 0 = 76 ∨ zAt zs 0 = 66) := .inr z66
    rw [if_pos z66] at HCDEF
    have HC0' : Hid (∀ v, Below w.heap.size w v → v.cell? ⟨b, off, none⟩ = some (.int .u8 66)) := fun v hv => by rw [HC0.out v hv, z66]
    rw [z66] at bS
    clear HC0 HPRN HZC hz0' z66 z76
    have HC0 := HC0'
    clear HC0'
    have RDS := hid (HR.out.kept LS.out.be)
    go_enter Tryz.func63, Tryz.ntmps63
    go_wp2_with fail
    refine (specGetVar_any _ 512 c zs 1 _ RDS.out (by omega)).mono ?_
    generalize (w.alloc (.cells #[.slice none 0 0, .slice none 0 0, .slice none 0 0] 107)).alloc (.cells #[.slice none 0 0, .slice none 0 0, .slice none 0 0] 107) = U at *
    rintro e w1 ⟨rfl, hb1⟩
    have L1 := hid (LS.out.below hb1)
    have hgv := gv_rng zs HBY.out 1
    generalize (gv zs 1).1 = n0 at *
    generalize (gv zs 1).2 = at0 at *
    clear hb1 LS RDS r0 r1 r2 f0 f1 f2 p0 p1 p2 bS
    rw [HZL.out] at hgv
    have b1 := HC0.out _ L1.out.be
    by_cases hat0 : 0 ≤ at0
    ·rw [if_pos hat0] at HCDEF
     have RD1 := hid (HR.out.kept L1.out.be)
     go_wp2_with fail
     refine (specGetVar_any _ 512 c zs at0 _ RD1.out (by omega)).mono ?_
     rintro e w2 ⟨rfl, hb2⟩
     have L2 := hid (L1.out.below hb2)
     have hgv2 := gv_rng zs HBY.out at0
     generalize (gv zs at0).1 = kid0 at *
     generalize (gv zs at0).2 = at1 at *
     rw [HZL.out] at hgv2
     have L3 := hid (L2.out.below (below_new (o := .cells #[.int .i64 kid0] 3) (w := w2) (Below.refl _ _)))
     have Q3 := hid (Bk.new w2 3 [.int .i64 kid0])
     obtain ⟨d0, d1, d2⟩ := L2.out.cells
     have b2 := HC0.out _ L2.out.be
     clear hb2 L1 RD1 b1
     go_wp2_with (at_builtin; refine wpList_append_in1 rfl _ _ rfl _ 0 _ rfl L3.out.hi w2.heap.size kid0 rfl Q3.out (by omega) ?_)
     intro a8 n8 c8 w8 hO8 hg8 ha8
     obtain ⟨hL8, hB8⟩ := L3.out.addI hO8 hg8 (ha8.imp id (fun e => ⟨_, e, by simp⟩))
     have LS := hid hL8
     have b8 := hB8.cell (j := 2) rfl
     have g8 := hB8.free 2
     clear hO8 hg8 ha8 hL8 hB8 L3 Q3 L2 d0 d1 d2 b2
     go_wp2_with fail
     clear b8 g8
     go_loopw [6, 9] (fun xa xi wr => ∃ (j : Nat) (at' : Int) (ka : Option Addr) (kn kc : Nat) (va : Option Addr) (vn vc : Nat) (ia : Option Addr) (jn ic : Nat) (p : PG), xa = .int .i64 at' ∧ xi = .int .i64 j ∧ j ≤ 5 ∧ (-1 ≤ at' ∧ at' ≤ 512) ∧ Hid (p.keys.length ≤ j ∧ p.vals.length ≤ j ∧ p.kids.length ≤ j + 1) ∧ Hid (Pr1 w wr (.slice ka kn kc) (.slice va vn vc) (.slice ia jn ic) p) ∧ Hid (cdGo zs true n0 (6 - j) j p at' = cd zs)) (fun _ xi _ => 6 - (intOf xi).toNat)
     case atStart => exact ⟨0, at1, none, 0, 0, none, 0, 0, _, _, _, ⟨[], [], [] ++ [kid0]⟩, rfl, rfl, by omega, by omega, ⟨by simp, by simp, by simp⟩, LS.out, HCDEF.out.symm⟩
     case round =>
      obtain ⟨j, at', ka, kn, kc, va, vn, vc, ia, jn, ic, p, rfl, rfl, hj, hat, HPL, L4, HCD⟩ := hrel
      clear LS
      by_cases q1 : (j : Int) < n0
      ·by_cases q2 : (j : Int) ≤ 4
       ·by_cases q3 : 0 ≤ at'
        ·have L4B := L4
         have RD4 := hid (HR.out.kept L4.out.be)
         have b4 := HC0.out _ L4.out.be
         go_wp2_with fail
         refine (specGetText_any _ _ _ zs at' _ RD4.out (by omega)).mono ?_
         rintro e w5 ⟨rfl, hb5⟩
         have L5 := hid ((L4.out.below hb5).below (below_new (o := .cells #[.string (strOf (gt zs at').1)] 9) (Below.refl _ _)))
         have LL5 := hid (L4.out.below hb5)
         have Q5 := hid (Bk.new w5 9 [.string (strOf (gt zs at').1)])
         clear hb5 L4 RD4 b4
         obtain ⟨d0, d1, d2⟩ := LL5.out.cells
         have hgt := gt_range zs HBY.out at'
         rw [HZL.out] at hgt
         generalize hkk : strOf (gt zs at').1 = kk at *
         have HKK := hid hkk
         clear hkk
         have hkn2 : kn = p.keys.length := (Rw.len L4B.out.pgr.hk).1
         have hq1 : kn ≤ 1048576 := by have := HPL.out; omega
         have HOK := hid L5.out.hk
         rw [← hkn2] at HOK
         have HKN := hid hkn2
         clear hkn2
         go_wp2_with (at_builtin; refine wpList_append_st1 rfl _ _ rfl _ kn _ rfl HOK.out w5.heap.size kk rfl Q5.out hq1 ?_)
         intro a6 n6 c6 w6 hO6 hg6 ha6
         rw [HKN.out] at hO6
         obtain ⟨hL6, hB6⟩ := L5.out.addK hO6 hg6 (ha6.imp id (fun e => ⟨_, e, by simp⟩))
         have L6 := hid hL6
         have b6 := hB6.cell (j := 0) rfl
         have g6 := hB6.free 0
         have RD6 := hid (HR.out.kept L6.out.be)
         have b7 := HC0.out _ L6.out.be
         clear hO6 hg6 ha6 hL6 hB6 L5 Q5 LL5 HOK HKN d0 d1 d2
         go_wp2_with fail
         refine (specGetVar_any _ _ _ zs (gt zs at').2 _ RD6.out (by omega)).mono ?_
         rintro e w7 ⟨rfl, hb7⟩
         have L7 := hid ((L6.out.below hb7).below (below_new (o := .cells #[.int .i64 (gv zs (gt zs at').2).1] 3) (Below.refl _ _)))
         have Q7 := hid (Bk.new w7 3 [.int .i64 (gv zs (gt zs at').2).1])
         have LL7 := hid (L6.out.below hb7)
         clear hb7 L6 RD6
         obtain ⟨d0, d1, d2⟩ := LL7.out.cells
         have hgv := gv_rng zs HBY.out (gt zs at').2
         rw [HZL.out] at hgv
         generalize hgk : (gv zs (gt zs at').2).1 = kid at *
         generalize hga : (gv zs (gt zs at').2).2 = at3 at *
         have hjn2 : jn = p.kids.length := (Rw.len L4B.out.pgr.hi).1
         have hq2 : jn ≤ 1048576 := by have := HPL.out; omega
         have HOW := hid L7.out.hi
         rw [← hjn2] at HOW
         have HJN := hid hjn2
         clear hjn2
         go_wp2_with (at_builtin; refine wpList_append_in1 rfl _ _ rfl _ jn _ rfl HOW.out w7.heap.size kid rfl Q7.out hq2 ?_)
         intro a8 n8 c8 w8 hO8 hg8 ha8
         rw [HJN.out] at hO8
         obtain ⟨hL8, hB8⟩ := L7.out.addI hO8 hg8 (ha8.imp id (fun e => ⟨_, e, by simp⟩))
         have L8 := hid hL8
         have b8 := hB8.cell (j := 2) rfl
         have g8 := hB8.free 2
         have HCX : Hid (cdGo zs true n0 (6 - (j + 1)) (j + 1) ⟨p.keys ++ [kk], p.vals, p.kids ++ [kid]⟩ at3 = cd zs) := by
          have := HCD.out
          rw [show 6 - j = (6 - (j + 1)) + 1 by omega, cdGo_on _ _ _ _ _ _ _ ⟨q1, by omega, q3⟩] at this
          show _ = cd zs
          simpa [cdStep, HKK.out, hgk, hga] using this
         clear hO8 hg8 ha8 hL8 hB8 L7 Q7 LL7 HOW hgk hga HJN
         go_wp2
         go_roundw
         case rel => exact ⟨j + 1, at3, _, _, _, _, _, _, _, _, _, _, rfl, by go_num, by omega, by omega, by have := HPL.out; exact ⟨by simp; omega, by simp; omega, by simp; omega⟩, L8.out, HCX.out⟩
         case measure => simp [intOf]; omega
        ·have HPC : Hid (p = cd zs) := by
          have := HCD.out
          rw [cdGo_stop _ _ _ _ _ _ _ (by omega)] at this
          exact this
         have L := L4
         clear HCD L4
         have HCD := HPC
         clear HPC
         have lf := hid L.out.pgr
         obtain ⟨d0, d1, d2⟩ := L.out.cells
         go_wp2_with fail
         refine (specPageBytes_any _ ka kn kc va vn vc ia jn ic p _ lf.out).mono ?_
         intro e w5 hput
         obtain ⟨hb5, ⟨hnn, rfl⟩ | ⟨v5, bs, hss, rfl, hO5⟩⟩ := hput
         ·have HPR : Hid (prd zs = none) := by
           show prd zs = none
           rw [prd, if_neg]
           rintro ⟨_, _, h⟩
           rw [← HCD.out, hnn] at h
           cases h
          have L5 := hid (L.out.below hb5)
          have r0 := L5.out.rb.cell (j := 0) rfl
          have r1 := L5.out.rb.cell (j := 1) rfl
          have r2 := L5.out.rb.cell (j := 2) rfl
          have f0 := L5.out.rb.free 0
          have f1 := L5.out.rb.free 1
          have f2 := L5.out.rb.free 2
          have HBF := hid L5.out.be
          clear hb5 hnn L lf d0 d1 d2 L5
          go_wp2
          refine bodyPost_ret (results_pg2 (x := .slice none 0 0) (y := .slice none 0 0) (z := .slice none 0 0) rfl _ _ _ rfl rfl (by go_simp) (by go_simp) (by go_simp)) rfl ?_
          exact ⟨((HBF.out.setCell (p := ⟨w.heap.size, 0, none⟩) (Nat.le_refl _) _).setCell (p := ⟨w.heap.size, 1, none⟩) (Nat.le_refl _) _).setCell (p := ⟨w.heap.size, 2, none⟩) (Nat.le_refl _) _, .inl ⟨HPR.out, rfl⟩⟩
         ·have hbs := pgBytes_some hss
          obtain ⟨a5, n5, c5, rfl, R5, hn5⟩ := hO5.rdS hbs.1 (by rw [hbs.2]; omega)
          have L5 := hid (L.out.below hb5)
          have RB := hid (HR.out.kept L5.out.be)
          have HSS := hid hss
          clear hb5 hO5 hbs hss L lf d0 d1 d2
          obtain ⟨d0, d1, d2⟩ := L5.out.cells
          have r0 := L5.out.rb.cell (j := 0) rfl
          have r1 := L5.out.rb.cell (j := 1) rfl
          have r2 := L5.out.rb.cell (j := 2) rfl
          have f0 := L5.out.rb.free 0
          have f1 := L5.out.rb.free 1
          have f2 := L5.out.rb.free 2
          go_wp2_with fail
          refine (same_any a5 _ n5 _ c5 _ bs zs _ R5.out RB.out).mono ?_
          by_cases heq : bs = zs
          ·have HPR : Hid (prd zs = some p) := by
            show prd zs = some p
            rw [prd, if_pos, HCD.out]
            exact ⟨HZL.out, HZ0.out, by rw [← HCD.out, HSS.out, heq]⟩
           rw [decide_eq_true heq]
           rintro e w6 ⟨rfl, rfl⟩
           have L6 := hid L5.out.pgr
           have HBF := hid L5.out.be
           clear L5 R5 RB HSS heq
           go_wp2
           refine bodyPost_ret (results_pg2 (x := .slice ka kn kc) (y := .slice va vn vc) (z := .slice ia jn ic) rfl _ _ _ rfl rfl (by go_simp) (by go_simp) (by go_simp)) rfl ?_
           refine ⟨((HBF.out.setCell (p := ⟨w.heap.size, 0, none⟩) (Nat.le_refl _) _).setCell (p := ⟨w.heap.size, 1, none⟩) (Nat.le_refl _) _).setCell (p := ⟨w.heap.size, 2, none⟩) (Nat.le_refl _) _, .inr ⟨p, _, _, _, _, _, _, _, _, _, HPR.out, rfl, ?_⟩⟩
           have hon : Only (fun y => y = w.heap.size) w5 (((w5.setCell ⟨w.heap.size, 0, none⟩ (.slice ka kn kc)).setCell ⟨w.heap.size, 1, none⟩ (.slice va vn vc)).setCell ⟨w.heap.size, 2, none⟩ (.slice ia jn ic)) := (only_set (R := fun y => y = w.heap.size) rfl _).trans ((only_set (R := fun y => y = w.heap.size) rfl _).trans (only_set (R := fun y => y = w.heap.size) rfl _))
           have h7 := L6.out.to hon (fun y hy _ e => by omega)
           exact ⟨Rw.mono h7.hk (fun y hy _ => by omega), Rw.mono h7.hv (fun y hy _ => by omega), Rw.mono h7.hi (fun y hy _ => by omega)⟩
          ·have HPR : Hid (prd zs = none) := by
            show prd zs = none
            rw [prd, if_neg]
            rintro ⟨_, _, h⟩
            rw [← HCD.out, HSS.out] at h
            cases h
            exact heq rfl
           rw [decide_eq_false heq]
           rintro e w6 ⟨rfl, rfl⟩
           have HBF := hid L5.out.be
           clear L5 R5 RB HSS heq
           go_wp2
           refine bodyPost_ret (results_pg2 (x := .slice none 0 0) (y := .slice none 0 0) (z := .slice none 0 0) rfl _ _ _ rfl rfl (by go_simp) (by go_simp) (by go_simp)) rfl ?_
           exact ⟨((HBF.out.setCell (p := ⟨w.heap.size, 0, none⟩) (Nat.le_refl _) _).setCell (p := ⟨w.heap.size, 1, none⟩) (Nat.le_refl _) _).setCell (p := ⟨w.heap.size, 2, none⟩) (Nat.le_refl _) _, .inl ⟨HPR.out, rfl⟩⟩
       ·have HPC : Hid (p = cd zs) := by
         have := HCD.out
         rw [cdGo_stop _ _ _ _ _ _ _ (by omega)] at this
         exact this
        have L := L4
        clear HCD L4
        have HCD := HPC
        clear HPC
        have lf := hid L.out.pgr
        obtain ⟨d0, d1, d2⟩ := L.out.cells
        go_wp2_with fail
        refine (specPageBytes_any _ ka kn kc va vn vc ia jn ic p _ lf.out).mono ?_
        intro e w5 hput
        obtain ⟨hb5, ⟨hnn, rfl⟩ | ⟨v5, bs, hss, rfl, hO5⟩⟩ := hput
        ·have HPR : Hid (prd zs = none) := by
          show prd zs = none
          rw [prd, if_neg]
          rintro ⟨_, _, h⟩
          rw [← HCD.out, hnn] at h
          cases h
         have L5 := hid (L.out.below hb5)
         have r0 := L5.out.rb.cell (j := 0) rfl
         have r1 := L5.out.rb.cell (j := 1) rfl
         have r2 := L5.out.rb.cell (j := 2) rfl
         have f0 := L5.out.rb.free 0
         have f1 := L5.out.rb.free 1
         have f2 := L5.out.rb.free 2
         have HBF := hid L5.out.be
         clear hb5 hnn L lf d0 d1 d2 L5
         go_wp2
         refine bodyPost_ret (results_pg2 (x := .slice none 0 0) (y := .slice none 0 0) (z := .slice none 0 0) rfl _ _ _ rfl rfl (by go_simp) (by go_simp) (by go_simp)) rfl ?_
         exact ⟨((HBF.out.setCell (p := ⟨w.heap.size, 0, none⟩) (Nat.le_refl _) _).setCell (p := ⟨w.heap.size, 1, none⟩) (Nat.le_refl _) _).setCell (p := ⟨w.heap.size, 2, none⟩) (Nat.le_refl _) _, .inl ⟨HPR.out, rfl⟩⟩
        ·have hbs := pgBytes_some hss
         obtain ⟨a5, n5, c5, rfl, R5, hn5⟩ := hO5.rdS hbs.1 (by rw [hbs.2]; omega)
         have L5 := hid (L.out.below hb5)
         have RB := hid (HR.out.kept L5.out.be)
         have HSS := hid hss
         clear hb5 hO5 hbs hss L lf d0 d1 d2
         obtain ⟨d0, d1, d2⟩ := L5.out.cells
         have r0 := L5.out.rb.cell (j := 0) rfl
         have r1 := L5.out.rb.cell (j := 1) rfl
         have r2 := L5.out.rb.cell (j := 2) rfl
         have f0 := L5.out.rb.free 0
         have f1 := L5.out.rb.free 1
         have f2 := L5.out.rb.free 2
         go_wp2_with fail
         refine (same_any a5 _ n5 _ c5 _ bs zs _ R5.out RB.out).mono ?_
         by_cases heq : bs = zs
         ·have HPR : Hid (prd zs = some p) := by
           show prd zs = some p
           rw [prd, if_pos, HCD.out]
           exact ⟨HZL.out, HZ0.out, by rw [← HCD.out, HSS.out, heq]⟩
          rw [decide_eq_true heq]
          rintro e w6 ⟨rfl, rfl⟩
          have L6 := hid L5.out.pgr
          have HBF := hid L5.out.be
          clear L5 R5 RB HSS heq
          go_wp2
          refine bodyPost_ret (results_pg2 (x := .slice ka kn kc) (y := .slice va vn vc) (z := .slice ia jn ic) rfl _ _ _ rfl rfl (by go_simp) (by go_simp) (by go_simp)) rfl ?_
          refine ⟨((HBF.out.setCell (p := ⟨w.heap.size, 0, none⟩) (Nat.le_refl _) _).setCell (p := ⟨w.heap.size, 1, none⟩) (Nat.le_refl _) _).setCell (p := ⟨w.heap.size, 2, none⟩) (Nat.le_refl _) _, .inr ⟨p, _, _, _, _, _, _, _, _, _, HPR.out, rfl, ?_⟩⟩
          have hon : Only (fun y => y = w.heap.size) w5 (((w5.setCell ⟨w.heap.size, 0, none⟩ (.slice ka kn kc)).setCell ⟨w.heap.size, 1, none⟩ (.slice va vn vc)).setCell ⟨w.heap.size, 2, none⟩ (.slice ia jn ic)) := (only_set (R := fun y => y = w.heap.size) rfl _).trans ((only_set (R := fun y => y = w.heap.size) rfl _).trans (only_set (R := fun y => y = w.heap.size) rfl _))
          have h7 := L6.out.to hon (fun y hy _ e => by omega)
          exact ⟨Rw.mono h7.hk (fun y hy _ => by omega), Rw.mono h7.hv (fun y hy _ => by omega), Rw.mono h7.hi (fun y hy _ => by omega)⟩
         ·have HPR : Hid (prd zs = none) := by
           show prd zs = none
           rw [prd, if_neg]
           rintro ⟨_, _, h⟩
           rw [← HCD.out, HSS.out] at h
           cases h
           exact heq rfl
          rw [decide_eq_false heq]
          rintro e w6 ⟨rfl, rfl⟩
          have HBF := hid L5.out.be
          clear L5 R5 RB HSS heq
          go_wp2
          refine bodyPost_ret (results_pg2 (x := .slice none 0 0) (y := .slice none 0 0) (z := .slice none 0 0) rfl _ _ _ rfl rfl (by go_simp) (by go_simp) (by go_simp)) rfl ?_
          exact ⟨((HBF.out.setCell (p := ⟨w.heap.size, 0, none⟩) (Nat.le_refl _) _).setCell (p := ⟨w.heap.size, 1, none⟩) (Nat.le_refl _) _).setCell (p := ⟨w.heap.size, 2, none⟩) (Nat.le_refl _) _, .inl ⟨HPR.out, rfl⟩⟩
      ·have HPC : Hid (p = cd zs) := by
        have := HCD.out
        rw [cdGo_stop _ _ _ _ _ _ _ (by omega)] at this
        exact this
       have L := L4
       clear HCD L4
       have HCD := HPC
       clear HPC
       have lf := hid L.out.pgr
       obtain ⟨d0, d1, d2⟩ := L.out.cells
       go_wp2_with fail
       refine (specPageBytes_any _ ka kn kc va vn vc ia jn ic p _ lf.out).mono ?_
       intro e w5 hput
       obtain ⟨hb5, ⟨hnn, rfl⟩ | ⟨v5, bs, hss, rfl, hO5⟩⟩ := hput
       ·have HPR : Hid (prd zs = none) := by
         show prd zs = none
         rw [prd, if_neg]
         rintro ⟨_, _, h⟩
         rw [← HCD.out, hnn] at h
         cases h
        have L5 := hid (L.out.below hb5)
        have r0 := L5.out.rb.cell (j := 0) rfl
        have r1 := L5.out.rb.cell (j := 1) rfl
        have r2 := L5.out.rb.cell (j := 2) rfl
        have f0 := L5.out.rb.free 0
        have f1 := L5.out.rb.free 1
        have f2 := L5.out.rb.free 2
        have HBF := hid L5.out.be
        clear hb5 hnn L lf d0 d1 d2 L5
        go_wp2
        refine bodyPost_ret (results_pg2 (x := .slice none 0 0) (y := .slice none 0 0) (z := .slice none 0 0) rfl _ _ _ rfl rfl (by go_simp) (by go_simp) (by go_simp)) rfl ?_
        exact ⟨((HBF.out.setCell (p := ⟨w.heap.size, 0, none⟩) (Nat.le_refl _) _).setCell (p := ⟨w.heap.size, 1, none⟩) (Nat.le_refl _) _).setCell (p := ⟨w.heap.size, 2, none⟩) (Nat.le_refl _) _, .inl ⟨HPR.out, rfl⟩⟩
       ·have hbs := pgBytes_some hss
        obtain ⟨a5, n5, c5, rfl, R5, hn5⟩ := hO5.rdS hbs.1 (by rw [hbs.2]; omega)
        have L5 := hid (L.out.below hb5)
        have RB := hid (HR.out.kept L5.out.be)
        have HSS := hid hss
        clear hb5 hO5 hbs hss L lf d0 d1 d2
        obtain ⟨d0, d1, d2⟩ := L5.out.cells
        have r0 := L5.out.rb.cell (j := 0) rfl
        have r1 := L5.out.rb.cell (j := 1) rfl
        have r2 := L5.out.rb.cell (j := 2) rfl
        have f0 := L5.out.rb.free 0
        have f1 := L5.out.rb.free 1
        have f2 := L5.out.rb.free 2
        go_wp2_with fail
        refine (same_any a5 _ n5 _ c5 _ bs zs _ R5.out RB.out).mono ?_
        by_cases heq : bs = zs
        ·have HPR : Hid (prd zs = some p) := by
          show prd zs = some p
          rw [prd, if_pos, HCD.out]
          exact ⟨HZL.out, HZ0.out, by rw [← HCD.out, HSS.out, heq]⟩
         rw [decide_eq_true heq]
         rintro e w6 ⟨rfl, rfl⟩
         have L6 := hid L5.out.pgr
         have HBF := hid L5.out.be
         clear L5 R5 RB HSS heq
         go_wp2
         refine bodyPost_ret (results_pg2 (x := .slice ka kn kc) (y := .slice va vn vc) (z := .slice ia jn ic) rfl _ _ _ rfl rfl (by go_simp) (by go_simp) (by go_simp)) rfl ?_
         refine ⟨((HBF.out.setCell (p := ⟨w.heap.size, 0, none⟩) (Nat.le_refl _) _).setCell (p := ⟨w.heap.size, 1, none⟩) (Nat.le_refl _) _).setCell (p := ⟨w.heap.size, 2, none⟩) (Nat.le_refl _) _, .inr ⟨p, _, _, _, _, _, _, _, _, _, HPR.out, rfl, ?_⟩⟩
         have hon : Only (fun y => y = w.heap.size) w5 (((w5.setCell ⟨w.heap.size, 0, none⟩ (.slice ka kn kc)).setCell ⟨w.heap.size, 1, none⟩ (.slice va vn vc)).setCell ⟨w.heap.size, 2, none⟩ (.slice ia jn ic)) := (only_set (R := fun y => y = w.heap.size) rfl _).trans ((only_set (R := fun y => y = w.heap.size) rfl _).trans (only_set (R := fun y => y = w.heap.size) rfl _))
         have h7 := L6.out.to hon (fun y hy _ e => by omega)
         exact ⟨Rw.mono h7.hk (fun y hy _ => by omega), Rw.mono h7.hv (fun y hy _ => by omega), Rw.mono h7.hi (fun y hy _ => by omega)⟩
        ·have HPR : Hid (prd zs = none) := by
          show prd zs = none
          rw [prd, if_neg]
          rintro ⟨_, _, h⟩
          rw [← HCD.out, HSS.out] at h
          cases h
          exact heq rfl
         rw [decide_eq_false heq]
         rintro e w6 ⟨rfl, rfl⟩
         have HBF := hid L5.out.be
         clear L5 R5 RB HSS heq
         go_wp2
         refine bodyPost_ret (results_pg2 (x := .slice none 0 0) (y := .slice none 0 0) (z := .slice none 0 0) rfl _ _ _ rfl rfl (by go_simp) (by go_simp) (by go_simp)) rfl ?_
         exact ⟨((HBF.out.setCell (p := ⟨w.heap.size, 0, none⟩) (Nat.le_refl _) _).setCell (p := ⟨w.heap.size, 1, none⟩) (Nat.le_refl _) _).setCell (p := ⟨w.heap.size, 2, none⟩) (Nat.le_refl _) _, .inl ⟨HPR.out, rfl⟩⟩
    ·rw [if_neg hat0] at HCDEF
     have LS := L1
     clear L1
     go_wp2_with fail
     clear b1
     go_loopw [6, 9] (fun xa xi wr => ∃ (j : Nat) (at' : Int) (ka : Option Addr) (kn kc : Nat) (va : Option Addr) (vn vc : Nat) (ia : Option Addr) (jn ic : Nat) (p : PG), xa = .int .i64 at' ∧ xi = .int .i64 j ∧ j ≤ 5 ∧ (-1 ≤ at' ∧ at' ≤ 512) ∧ Hid (p.keys.length ≤ j ∧ p.vals.length ≤ j ∧ p.kids.length ≤ j + 1) ∧ Hid (Pr1 w wr (.slice ka kn kc) (.slice va vn vc) (.slice ia jn ic) p) ∧ Hid (cdGo zs true n0 (6 - j) j p at' = cd zs)) (fun _ xi _ => 6 - (intOf xi).toNat)
     case atStart => exact ⟨0, at0, none, 0, 0, none, 0, 0, none, 0, 0, ⟨[], [], []⟩, rfl, rfl, by omega, by omega, ⟨by simp, by simp, by simp⟩, LS.out, HCDEF.out.symm⟩
     case round =>
      obtain ⟨j, at', ka, kn, kc, va, vn, vc, ia, jn, ic, p, rfl, rfl, hj, hat, HPL, L4, HCD⟩ := hrel
      clear LS
      by_cases q1 : (j : Int) < n0
      ·by_cases q2 : (j : Int) ≤ 4
       ·by_cases q3 : 0 ≤ at'
        ·have L4B := L4
         have RD4 := hid (HR.out.kept L4.out.be)
         have b4 := HC0.out _ L4.out.be
         go_wp2_with fail
         refine (specGetText_any _ _ _ zs at' _ RD4.out (by omega)).mono ?_
         rintro e w5 ⟨rfl, hb5⟩
         have L5 := hid ((L4.out.below hb5).below (below_new (o := .cells #[.string (strOf (gt zs at').1)] 9) (Below.refl _ _)))
         have LL5 := hid (L4.out.below hb5)
         have Q5 := hid (Bk.new w5 9 [.string (strOf (gt zs at').1)])
         clear hb5 L4 RD4 b4
         obtain ⟨d0, d1, d2⟩ := LL5.out.cells
         have hgt := gt_range zs HBY.out at'
         rw [HZL.out] at hgt
         generalize hkk : strOf (gt zs at').1 = kk at *
         have HKK := hid hkk
         clear hkk
         have hkn2 : kn = p.keys.length := (Rw.len L4B.out.pgr.hk).1
         have hq1 : kn ≤ 1048576 := by have := HPL.out; omega
         have HOK := hid L5.out.hk
         rw [← hkn2] at HOK
         have HKN := hid hkn2
         clear hkn2
         go_wp2_with (at_builtin; refine wpList_append_st1 rfl _ _ rfl _ kn _ rfl HOK.out w5.heap.size kk rfl Q5.out hq1 ?_)
         intro a6 n6 c6 w6 hO6 hg6 ha6
         rw [HKN.out] at hO6
         obtain ⟨hL6, hB6⟩ := L5.out.addK hO6 hg6 (ha6.imp id (fun e => ⟨_, e, by simp⟩))
         have L6 := hid hL6
         have b6 := hB6.cell (j := 0) rfl
         have g6 := hB6.free 0
         have RD6 := hid (HR.out.kept L6.out.be)
         have b7 := HC0.out _ L6.out.be
         clear hO6 hg6 ha6 hL6 hB6 L5 Q5 LL5 HOK HKN d0 d1 d2
         go_wp2_with fail
         refine (specGetVar_any _ _ _ zs (gt zs at').2 _ RD6.out (by omega)).mono ?_
         rintro e w7 ⟨rfl, hb7⟩
         have L7 := hid ((L6.out.below hb7).below (below_new (o := .cells #[.int .i64 (gv zs (gt zs at').2).1] 3) (Below.refl _ _)))
         have Q7 := hid (Bk.new w7 3 [.int .i64 (gv zs (gt zs at').2).1])
         have LL7 := hid (L6.out.below hb7)
         clear hb7 L6 RD6
         obtain ⟨d0, d1, d2⟩ := LL7.out.cells
         have hgv := gv_rng zs HBY.out (gt zs at').2
         rw [HZL.out] at hgv
         generalize hgk : (gv zs (gt zs at').2).1 = kid at *
         generalize hga : (gv zs (gt zs at').2).2 = at3 at *
         have hjn2 : jn = p.kids.length := (Rw.len L4B.out.pgr.hi).1
         have hq2 : jn ≤ 1048576 := by have := HPL.out; omega
         have HOW := hid L7.out.hi
         rw [← hjn2] at HOW
         have HJN := hid hjn2
         clear hjn2
         go_wp2_with (at_builtin; refine wpList_append_in1 rfl _ _ rfl _ jn _ rfl HOW.out w7.heap.size kid rfl Q7.out hq2 ?_)
         intro a8 n8 c8 w8 hO8 hg8 ha8
         rw [HJN.out] at hO8
         obtain ⟨hL8, hB8⟩ := L7.out.addI hO8 hg8 (ha8.imp id (fun e => ⟨_, e, by simp⟩))
         have L8 := hid hL8
         have b8 := hB8.cell (j := 2) rfl
         have g8 := hB8.free 2
         have HCX : Hid (cdGo zs true n0 (6 - (j + 1)) (j + 1) ⟨p.keys ++ [kk], p.vals, p.kids ++ [kid]⟩ at3 = cd zs) := by
          have := HCD.out
          rw [show 6 - j = (6 - (j + 1)) + 1 by omega, cdGo_on _ _ _ _ _ _ _ ⟨q1, by omega, q3⟩] at this
          show _ = cd zs
          simpa [cdStep, HKK.out, hgk, hga] using this
         clear hO8 hg8 ha8 hL8 hB8 L7 Q7 LL7 HOW hgk hga HJN
         go_wp2
         go_roundw
         case rel => exact ⟨j + 1, at3, _, _, _, _, _, _, _, _, _, _, rfl, by go_num, by omega, by omega, by have := HPL.out; exact ⟨by simp; omega, by simp; omega, by simp; omega⟩, L8.out, HCX.out⟩
         case measure => simp [intOf]; omega
        ·have HPC : Hid (p = cd zs) := by
          have := HCD.out
          rw [cdGo_stop _ _ _ _ _ _ _ (by omega)] at this
          exact this
         have L := L4
         clear HCD L4
         have HCD := HPC
         clear HPC
         have lf := hid L.out.pgr
         obtain ⟨d0, d1, d2⟩ := L.out.cells
         go_wp2_with fail
         refine (specPageBytes_any _ ka kn kc va vn vc ia jn ic p _ lf.out).mono ?_
         intro e w5 hput
         obtain ⟨hb5, ⟨hnn, rfl⟩ | ⟨v5, bs, hss, rfl, hO5⟩⟩ := hput
         ·have HPR : Hid (prd zs = none) := by
           show prd zs = none
           rw [prd, if_neg]
           rintro ⟨_, _, h⟩
           rw [← HCD.out, hnn] at h
           cases h
          have L5 := hid (L.out.below hb5)
          have r0 := L5.out.rb.cell (j := 0) rfl
          have r1 := L5.out.rb.cell (j := 1) rfl
          have r2 := L5.out.rb.cell (j := 2) rfl
          have f0 := L5.out.rb.free 0
          have f1 := L5.out.rb.free 1
          have f2 := L5.out.rb.free 2
          have HBF := hid L5.out.be
          clear hb5 hnn L lf d0 d1 d2 L5
          go_wp2
          refine bodyPost_ret (results_pg2 (x := .slice none 0 0) (y := .slice none 0 0) (z := .slice none 0 0) rfl _ _ _ rfl rfl (by go_simp) (by go_simp) (by go_simp)) rfl ?_
          exact ⟨((HBF.out.setCell (p := ⟨w.heap.size, 0, none⟩) (Nat.le_refl _) _).setCell (p := ⟨w.heap.size, 1, none⟩) (Nat.le_refl _) _).setCell (p := ⟨w.heap.size, 2, none⟩) (Nat.le_refl _) _, .inl ⟨HPR.out, rfl⟩⟩
         ·have hbs := pgBytes_some hss
          obtain ⟨a5, n5, c5, rfl, R5, hn5⟩ := hO5.rdS hbs.1 (by rw [hbs.2]; omega)
          have L5 := hid (L.out.below hb5)
          have RB := hid (HR.out.kept L5.out.be)
          have HSS := hid hss
          clear hb5 hO5 hbs hss L lf d0 d1 d2
          obtain ⟨d0, d1, d2⟩ := L5.out.cells
          have r0 := L5.out.rb.cell (j := 0) rfl
          have r1 := L5.out.rb.cell (j := 1) rfl
          have r2 := L5.out.rb.cell (j := 2) rfl
          have f0 := L5.out.rb.free 0
          have f1 := L5.out.rb.free 1
          have f2 := L5.out.rb.free 2
          go_wp2_with fail
          refine (same_any a5 _ n5 _ c5 _ bs zs _ R5.out RB.out).mono ?_
          by_cases heq : bs = zs
          ·have HPR : Hid (prd zs = some p) := by
            show prd zs = some p
            rw [prd, if_pos, HCD.out]
            exact ⟨HZL.out, HZ0.out, by rw [← HCD.out, HSS.out, heq]⟩
           rw [decide_eq_true heq]
           rintro e w6 ⟨rfl, rfl⟩
           have L6 := hid L5.out.pgr
           have HBF := hid L5.out.be
           clear L5 R5 RB HSS heq
           go_wp2
           refine bodyPost_ret (results_pg2 (x := .slice ka kn kc) (y := .slice va vn vc) (z := .slice ia jn ic) rfl _ _ _ rfl rfl (by go_simp) (by go_simp) (by go_simp)) rfl ?_
           refine ⟨((HBF.out.setCell (p := ⟨w.heap.size, 0, none⟩) (Nat.le_refl _) _).setCell (p := ⟨w.heap.size, 1, none⟩) (Nat.le_refl _) _).setCell (p := ⟨w.heap.size, 2, none⟩) (Nat.le_refl _) _, .inr ⟨p, _, _, _, _, _, _, _, _, _, HPR.out, rfl, ?_⟩⟩
           have hon : Only (fun y => y = w.heap.size) w5 (((w5.setCell ⟨w.heap.size, 0, none⟩ (.slice ka kn kc)).setCell ⟨w.heap.size, 1, none⟩ (.slice va vn vc)).setCell ⟨w.heap.size, 2, none⟩ (.slice ia jn ic)) := (only_set (R := fun y => y = w.heap.size) rfl _).trans ((only_set (R := fun y => y = w.heap.size) rfl _).trans (only_set (R := fun y => y = w.heap.size) rfl _))
           have h7 := L6.out.to hon (fun y hy _ e => by omega)
           exact ⟨Rw.mono h7.hk (fun y hy _ => by omega), Rw.mono h7.hv (fun y hy _ => by omega), Rw.mono h7.hi (fun y hy _ => by omega)⟩
          ·have HPR : Hid (prd zs = none) := by
            show prd zs = none
            rw [prd, if_neg]
            rintro ⟨_, _, h⟩
            rw [← HCD.out, HSS.out] at h
            cases h
            exact heq rfl
           rw [decide_eq_false heq]
           rintro e w6 ⟨rfl, rfl⟩
           have HBF := hid L5.out.be
           clear L5 R5 RB HSS heq
           go_wp2
           refine bodyPost_ret (results_pg2 (x := .slice none 0 0) (y := .slice none 0 0) (z := .slice none 0 0) rfl _ _ _ rfl rfl (by go_simp) (by go_simp) (by go_simp)) rfl ?_
           exact ⟨((HBF.out.setCell (p := ⟨w.heap.size, 0, none⟩) (Nat.le_refl _) _).setCell (p := ⟨w.heap.size, 1, none⟩) (Nat.le_refl _) _).setCell (p := ⟨w.heap.size, 2, none⟩) (Nat.le_refl _) _, .inl ⟨HPR.out, rfl⟩⟩
       ·have HPC : Hid (p = cd zs) := by
         have := HCD.out
         rw [cdGo_stop _ _ _ _ _ _ _ (by omega)] at this
         exact this
        have L := L4
        clear HCD L4
        have HCD := HPC
        clear HPC
        have lf := hid L.out.pgr
        obtain ⟨d0, d1, d2⟩ := L.out.cells
        go_wp2_with fail
        refine (specPageBytes_any _ ka kn kc va vn vc ia jn ic p _ lf.out).mono ?_
        intro e w5 hput
        obtain ⟨hb5, ⟨hnn, rfl⟩ | ⟨v5, bs, hss, rfl, hO5⟩⟩ := hput
        ·have HPR : Hid (prd zs = none) := by
          show prd zs = none
          rw [prd, if_neg]
          rintro ⟨_, _, h⟩
          rw [← HCD.out, hnn] at h
          cases h
         have L5 := hid (L.out.below hb5)
         have r0 := L5.out.rb.cell (j := 0) rfl
         have r1 := L5.out.rb.cell (j := 1) rfl
         have r2 := L5.out.rb.cell (j := 2) rfl
         have f0 := L5.out.rb.free 0
         have f1 := L5.out.rb.free 1
         have f2 := L5.out.rb.free 2
         have HBF := hid L5.out.be
         clear hb5 hnn L lf d0 d1 d2 L5
         go_wp2
         refine bodyPost_ret (results_pg2 (x := .slice none 0 0) (y := .slice none 0 0) (z := .slice none 0 0) rfl _ _ _ rfl rfl (by go_simp) (by go_simp) (by go_simp)) rfl ?_
         exact ⟨((HBF.out.setCell (p := ⟨w.heap.size, 0, none⟩) (Nat.le_refl _) _).setCell (p := ⟨w.heap.size, 1, none⟩) (Nat.le_refl _) _).setCell (p := ⟨w.heap.size, 2, none⟩) (Nat.le_refl _) _, .inl ⟨HPR.out, rfl⟩⟩
        ·have hbs := pgBytes_some hss
         obtain ⟨a5, n5, c5, rfl, R5, hn5⟩ := hO5.rdS hbs.1 (by rw [hbs.2]; omega)
         have L5 := hid (L.out.below hb5)
         have RB := hid (HR.out.kept L5.out.be)
         have HSS := hid hss
         clear hb5 hO5 hbs hss L lf d0 d1 d2
         obtain ⟨d0, d1, d2⟩ := L5.out.cells
         have r0 := L5.out.rb.cell (j := 0) rfl
         have r1 := L5.out.rb.cell (j := 1) rfl
         have r2 := L5.out.rb.cell (j := 2) rfl
         have f0 := L5.out.rb.free 0
         have f1 := L5.out.rb.free 1
         have f2 := L5.out.rb.free 2
         go_wp2_with fail
         refine (same_any a5 _ n5 _ c5 _ bs zs _ R5.out RB.out).mono ?_
         by_cases heq : bs = zs
         ·have HPR : Hid (prd zs = some p) := by
           show prd zs = some p
           rw [prd, if_pos, HCD.out]
           exact ⟨HZL.out, HZ0.out, by rw [← HCD.out, HSS.out, heq]⟩
          rw [decide_eq_true heq]
          rintro e w6 ⟨rfl, rfl⟩
          have L6 := hid L5.out.pgr
          have HBF := hid L5.out.be
          clear L5 R5 RB HSS heq
          go_wp2
          refine bodyPost_ret (results_pg2 (x := .slice ka kn kc) (y := .slice va vn vc) (z := .slice ia jn ic) rfl _ _ _ rfl rfl (by go_simp) (by go_simp) (by go_simp)) rfl ?_
          refine ⟨((HBF.out.setCell (p := ⟨w.heap.size, 0, none⟩) (Nat.le_refl _) _).setCell (p := ⟨w.heap.size, 1, none⟩) (Nat.le_refl _) _).setCell (p := ⟨w.heap.size, 2, none⟩) (Nat.le_refl _) _, .inr ⟨p, _, _, _, _, _, _, _, _, _, HPR.out, rfl, ?_⟩⟩
          have hon : Only (fun y => y = w.heap.size) w5 (((w5.setCell ⟨w.heap.size, 0, none⟩ (.slice ka kn kc)).setCell ⟨w.heap.size, 1, none⟩ (.slice va vn vc)).setCell ⟨w.heap.size, 2, none⟩ (.slice ia jn ic)) := (only_set (R := fun y => y = w.heap.size) rfl _).trans ((only_set (R := fun y => y = w.heap.size) rfl _).trans (only_set (R := fun y => y = w.heap.size) rfl _))
          have h7 := L6.out.to hon (fun y hy _ e => by omega)
          exact ⟨Rw.mono h7.hk (fun y hy _ => by omega), Rw.mono h7.hv (fun y hy _ => by omega), Rw.mono h7.hi (fun y hy _ => by omega)⟩
         ·have HPR : Hid (prd zs = none) := by
           show prd zs = none
           rw [prd, if_neg]
           rintro ⟨_, _, h⟩
           rw [← HCD.out, HSS.out] at h
           cases h
           exact heq rfl
          rw [decide_eq_false heq]
          rintro e w6 ⟨rfl, rfl⟩
          have HBF := hid L5.out.be
          clear L5 R5 RB HSS heq
          go_wp2
          refine bodyPost_ret (results_pg2 (x := .slice none 0 0) (y := .slice none 0 0) (z := .slice none 0 0) rfl _ _ _ rfl rfl (by go_simp) (by go_simp) (by go_simp)) rfl ?_
          exact ⟨((HBF.out.setCell (p := ⟨w.heap.size, 0, none⟩) (Nat.le_refl _) _).setCell (p := ⟨w.heap.size, 1, none⟩) (Nat.le_refl _) _).setCell (p := ⟨w.heap.size, 2, none⟩) (Nat.le_refl _) _, .inl ⟨HPR.out, rfl⟩⟩
      ·have HPC : Hid (p = cd zs) := by
        have := HCD.out
        rw [cdGo_stop _ _ _ _ _ _ _ (by omega)] at this
        exact this
       have L := L4
       clear HCD L4
       have HCD := HPC
       clear HPC
       have lf := hid L.out.pgr
       obtain ⟨d0, d1, d2⟩ := L.out.cells
       go_wp2_with fail
       refine (specPageBytes_any _ ka kn kc va vn vc ia jn ic p _ lf.out).mono ?_
       intro e w5 hput
       obtain ⟨hb5, ⟨hnn, rfl⟩ | ⟨v5, bs, hss, rfl, hO5⟩⟩ := hput
       ·have HPR : Hid (prd zs = none) := by
         show prd zs = none
         rw [prd, if_neg]
         rintro ⟨_, _, h⟩
         rw [← HCD.out, hnn] at h
         cases h
        have L5 := hid (L.out.below hb5)
        have r0 := L5.out.rb.cell (j := 0) rfl
        have r1 := L5.out.rb.cell (j := 1) rfl
        have r2 := L5.out.rb.cell (j := 2) rfl
        have f0 := L5.out.rb.free 0
        have f1 := L5.out.rb.free 1
        have f2 := L5.out.rb.free 2
        have HBF := hid L5.out.be
        clear hb5 hnn L lf d0 d1 d2 L5
        go_wp2
        refine bodyPost_ret (results_pg2 (x := .slice none 0 0) (y := .slice none 0 0) (z := .slice none 0 0) rfl _ _ _ rfl rfl (by go_simp) (by go_simp) (by go_simp)) rfl ?_
        exact ⟨((HBF.out.setCell (p := ⟨w.heap.size, 0, none⟩) (Nat.le_refl _) _).setCell (p := ⟨w.heap.size, 1, none⟩) (Nat.le_refl _) _).setCell (p := ⟨w.heap.size, 2, none⟩) (Nat.le_refl _) _, .inl ⟨HPR.out, rfl⟩⟩
       ·have hbs := pgBytes_some hss
        obtain ⟨a5, n5, c5, rfl, R5, hn5⟩ := hO5.rdS hbs.1 (by rw [hbs.2]; omega)
        have L5 := hid (L.out.below hb5)
        have RB := hid (HR.out.kept L5.out.be)
        have HSS := hid hss
        clear hb5 hO5 hbs hss L lf d0 d1 d2
        obtain ⟨d0, d1, d2⟩ := L5.out.cells
        have r0 := L5.out.rb.cell (j := 0) rfl
        have r1 := L5.out.rb.cell (j := 1) rfl
        have r2 := L5.out.rb.cell (j := 2) rfl
        have f0 := L5.out.rb.free 0
        have f1 := L5.out.rb.free 1
        have f2 := L5.out.rb.free 2
        go_wp2_with fail
        refine (same_any a5 _ n5 _ c5 _ bs zs _ R5.out RB.out).mono ?_
        by_cases heq : bs = zs
        ·have HPR : Hid (prd zs = some p) := by
          show prd zs = some p
          rw [prd, if_pos, HCD.out]
          exact ⟨HZL.out, HZ0.out, by rw [← HCD.out, HSS.out, heq]⟩
         rw [decide_eq_true heq]
         rintro e w6 ⟨rfl, rfl⟩
         have L6 := hid L5.out.pgr
         have HBF := hid L5.out.be
         clear L5 R5 RB HSS heq
         go_wp2
         refine bodyPost_ret (results_pg2 (x := .slice ka kn kc) (y := .slice va vn vc) (z := .slice ia jn ic) rfl _ _ _ rfl rfl (by go_simp) (by go_simp) (by go_simp)) rfl ?_
         refine ⟨((HBF.out.setCell (p := ⟨w.heap.size, 0, none⟩) (Nat.le_refl _) _).setCell (p := ⟨w.heap.size, 1, none⟩) (Nat.le_refl _) _).setCell (p := ⟨w.heap.size, 2, none⟩) (Nat.le_refl _) _, .inr ⟨p, _, _, _, _, _, _, _, _, _, HPR.out, rfl, ?_⟩⟩
         have hon : Only (fun y => y = w.heap.size) w5 (((w5.setCell ⟨w.heap.size, 0, none⟩ (.slice ka kn kc)).setCell ⟨w.heap.size, 1, none⟩ (.slice va vn vc)).setCell ⟨w.heap.size, 2, none⟩ (.slice ia jn ic)) := (only_set (R := fun y => y = w.heap.size) rfl _).trans ((only_set (R := fun y => y = w.heap.size) rfl _).trans (only_set (R := fun y => y = w.heap.size) rfl _))
         have h7 := L6.out.to hon (fun y hy _ e => by omega)
         exact ⟨Rw.mono h7.hk (fun y hy _ => by omega), Rw.mono h7.hv (fun y hy _ => by omega), Rw.mono h7.hi (fun y hy _ => by omega)⟩
        ·have HPR : Hid (prd zs = none) := by
          show prd zs = none
          rw [prd, if_neg]
          rintro ⟨_, _, h⟩
          rw [← HCD.out, HSS.out] at h
          cases h
          exact heq rfl
         rw [decide_eq_false heq]
         rintro e w6 ⟨rfl, rfl⟩
         have HBF := hid L5.out.be
         clear L5 R5 RB HSS heq
         go_wp2
         refine bodyPost_ret (results_pg2 (x := .slice none 0 0) (y := .slice none 0 0) (z := .slice none 0 0) rfl _ _ _ rfl rfl (by go_simp) (by go_simp) (by go_simp)) rfl ?_
         exact ⟨((HBF.out.setCell (p := ⟨w.heap.size, 0, none⟩) (Nat.le_refl _) _).setCell (p := ⟨w.heap.size, 1, none⟩) (Nat.le_refl _) _).setCell (p := ⟨w.heap.size, 2, none⟩) (Nat.le_refl _) _, .inl ⟨HPR.out, rfl⟩⟩
   ·have HPR := hid (HPRN.out (by rintro (h | h); exact z76 h; exact z66 h))
    have n76 : (zAt zs 0 != 76) = true := by simp [z76]
    have n66 : (zAt zs 0 != 66) = true := by simp [z66]
    have HBF := hid LS.out.be
    generalize zAt zs 0 = q at *
    clear HPRN HCDEF HZC HC0 LS
    go_enter Tryz.func63, Tryz.ntmps63
    go_wp2
    refine bodyPost_ret (results_pg2 (x := .slice none 0 0) (y := .slice none 0 0) (z := .slice none 0 0) rfl _ _ _ rfl rfl (by go_simp) (by go_simp) (by go_simp)) rfl ?_
    exact ⟨HBF.out, .inl ⟨HPR.out, rfl⟩⟩
 ·have h512' : ((n : Int) != 512) = true := by simp; omega
  have HPR : Hid (prd zs = none) := by
   show prd zs = none
   rw [prd, if_neg]
   rintro ⟨h, _⟩
   omega
  have HBF := hid LS.out.be
  clear HBY HR LS h hzl
  go_enter Tryz.func63, Tryz.ntmps63
  go_wp2
  refine bodyPost_ret (results_pg2 (x := .slice none 0 0) (y := .slice none 0 0) (z := .slice none 0 0) rfl _ _ _ rfl rfl (by go_simp) (by go_simp) (by go_simp)) rfl ?_
  exact ⟨HBF.out, .inl ⟨HPR.out, rfl⟩⟩
theorem encF_down (f : Nat) : ∀ n : Int, n < bnd f → encF (f + 1) n = encF f n := by
 induction f with
 | zero => intro n h; rw [encF_small _ n (by simpa [bnd] using h), encF_small _ n (by simpa [bnd] using h)]
 | succ f ih =>
  intro n h
  by_cases hn : 128 ≤ n
  ·rw [encF_big _ n hn, encF_big _ n hn, ih (n / 128) (bnd_down f n h)]
  ·rw [encF_small _ n (by omega), encF_small _ n (by omega)]
theorem at_here (pre : List Int) (z : Int) (r : List Int) : (pre ++ z :: r)[pre.length]?.getD 0 = z := by simp
theorem not_bad {r q u : Int} (hs : r + q * u ≤ 1099511627775) (hz : q = 0 → ¬ 1 < u) : ¬ (1099511627775 < r + q * u ∨ (q = 0 ∧ 1 < u)) := by
 rintro (h | ⟨h, h'⟩)
 ·omega
 ·exact hz h h'
theorem gvGo_enc (f' : Nat) : ∀ (f : Nat) (pre rest : List Int) (q r u : Int), 0 ≤ q → q < bnd f' → f' < f → r + q * u ≤ 1099511627775 → (q = 0 → ¬ 1 < u) →
  gvGo f (pre ++ encF f' q ++ rest) pre.length r u = (r + q * u, ((pre.length + (encF f' q).length : Nat) : Int)) := by
 induction f' with
 | zero =>
  intro f pre rest q r u h0 hq hf hs hz
  obtain ⟨g, rfl⟩ : ∃ g, f = g + 1 := ⟨f - 1, by omega⟩
  have e : pre ++ encF 0 q ++ rest = pre ++ q :: rest := by simp [encF]
  have hq' : q < 128 := hq
  rw [e, gvGo_good g _ pre.length r u (by simp) (by rw [at_here]; exact hq') (by rw [at_here]; exact not_bad hs hz), at_here]
  simp [encF]
 | succ f' ih =>
  intro f pre rest q r u h0 hq hf hs hz
  obtain ⟨g, rfl⟩ : ∃ g, f = g + 1 := ⟨f - 1, by omega⟩
  by_cases hb : 128 ≤ q
  ·rw [encF_big f' q hb]
   have e : pre ++ (128 + q % 128) :: encF f' (q / 128) ++ rest = pre ++ (128 + q % 128) :: (encF f' (q / 128) ++ rest) := by simp
   have e2 : pre ++ (128 + q % 128) :: encF f' (q / 128) ++ rest = (pre ++ [128 + q % 128]) ++ encF f' (q / 128) ++ rest := by simp
   have hm : q * u = q % 128 * u + q / 128 * (u * 128) := by
    have : q = q % 128 + 128 * (q / 128) := by omega
    rw [Int.mul_comm u 128, ← Int.mul_assoc, ← Int.add_mul]
    congr 1
    omega
   have hk : pre.length < (pre ++ (128 + q % 128) :: (encF f' (q / 128) ++ rest)).length := by simp
   rw [e, gvGo_more g _ pre.length r u hk (by rw [at_here]; omega), at_here, ← e, e2]
   have hl : pre.length + 1 = (pre ++ [128 + q % 128]).length := by simp
   rw [hl, ih g (pre ++ [128 + q % 128]) rest (q / 128) (r + (128 + q % 128 - 128) * u) (u * 128) (by omega) (bnd_down f' q hq) (by omega) (by
    rw [show 128 + q % 128 - 128 = q % 128 from by omega]; omega) (by intro h; omega)]
   rw [show 128 + q % 128 - 128 = q % 128 from by omega]
   simp only [Prod.mk.injEq]
   constructor
   ·omega
   ·simp; omega
  ·have e : pre ++ encF (f' + 1) q ++ rest = pre ++ q :: rest := by rw [encF_small _ q (by omega)]; simp
   rw [e, gvGo_good g _ pre.length r u (by simp) (by rw [at_here]; omega) (by rw [at_here]; exact not_bad hs hz), at_here, encF_small _ q (by omega)]
   simp
theorem gv_enc (pre rest : List Int) (n : Int) (h0 : 0 ≤ n) (h1 : n ≤ 1099511627775) : gv (pre ++ enc n ++ rest) (pre.length : Int) = (n, ((pre.length + (enc n).length : Nat) : Int)) := by
 have e : enc n = encF 5 n := encF_down 5 n (by simp [bnd]; omega)
 rw [gv_nat, e, gvGo_enc 5 6 pre rest n 0 1 h0 (by simp [bnd]; omega) (by omega) (by omega) (by omega)]
 simp
open Go.RowKit
theorem gt_rest (pre zs rest : List Int) (h : zs.length ≤ 1048576) : gt (pre ++ enc (zs.length : Int) ++ zs ++ rest) (pre.length : Int) = (zs, ((pre ++ enc (zs.length : Int) ++ zs).length : Int)) := by
 have hg := gv_enc pre (zs ++ rest) (zs.length : Int) (by omega) (by omega)
 have e : pre ++ enc (zs.length : Int) ++ zs ++ rest = pre ++ enc (zs.length : Int) ++ (zs ++ rest) := by simp
 have hlen : (pre ++ enc (zs.length : Int) ++ (zs ++ rest)).length = pre.length + (enc (zs.length : Int)).length + (zs.length + rest.length) := by simp only [List.length_append]
 rw [e, gt, hg]
 simp only
 rw [if_neg (by rw [hlen]; omega)]
 have hd : ((pre ++ enc (zs.length : Int) ++ (zs ++ rest)).drop ((pre.length + (enc (zs.length : Int)).length : Nat) : Int).toNat) = zs ++ rest := by
  rw [Int.toNat_natCast, show pre.length + (enc (zs.length : Int)).length = (pre ++ enc (zs.length : Int)).length by simp, List.drop_left]
 rw [hd, Int.toNat_natCast, List.take_left]
 simp only [List.length_append, Prod.mk.injEq, true_and]
 omega
theorem strOf_bytesOf (s : ByteArray) : strOf (bytesOf s) = s := by
 apply ByteArray.ext
 simp only [strOf, bytesOf, List.map_map]
 have : (List.map ((fun z : Int => UInt8.ofNat z.toNat) ∘ fun b : UInt8 => ((b.toNat : Nat) : Int)) s.data.toList) = s.data.toList := by
  conv => rhs; rw [← List.map_id s.data.toList]
  refine List.map_congr_left fun b _ => ?_
  simp
 rw [this]
theorem body_split (p : PG) (j : Nat) : ∀ m, ∃ R, pgBody p (j + m) = pgBody p j ++ R
 | 0 => ⟨[], by simp⟩
 | m + 1 => by
  obtain ⟨R, h⟩ := body_split p j m
  exact ⟨R ++ pgPart p (j + m), by rw [← Nat.add_assoc, pgBody, h, List.append_assoc]⟩
theorem sAt_take {l : List ByteArray} {j : Nat} (h : j < l.length) : l.take j ++ [sAt l j] = l.take (j + 1) := by
 rw [List.take_succ_eq_append_getElem h]; simp [sAt, h]
theorem iAt_take {l : List Int} {j : Nat} (h : j < l.length) : l.take j ++ [iAt l j] = l.take (j + 1) := by
 rw [List.take_succ_eq_append_getElem h]; simp [iAt, h]
theorem PG.ext' {p : PG} {a b : List ByteArray} {c : List Int} (h1 : a = p.keys) (h2 : b = p.vals) (h3 : c = p.kids) : (⟨a, b, c⟩ : PG) = p := by
 cases p; simp at h1 h2 h3; simp [h1, h2, h3]
theorem cd_leaf {p : PG} {zs rest : List Int} (hF : PgF p) (h0 : p.kids.length = 0) (hz : zs = pgRaw p ++ rest) : ∀ m j, j + m = p.keys.length → cdGo zs false (p.keys.length : Int) (6 - j) j ⟨p.keys.take j, p.vals.take j, []⟩ ((pgBody p j).length : Int) = p
 | 0, j, hj => by
  obtain ⟨hv, _⟩ := hF.lf h0
  rw [cdGo_stop _ _ _ _ _ _ _ (by omega)]
  exact PG.ext' (List.take_of_length_le (by omega)) (List.take_of_length_le (by omega)) (List.eq_nil_of_length_eq_zero h0).symm
 | m + 1, j, hj => by
  obtain ⟨hv, hvs⟩ := hF.lf h0
  have hn := hF.nk
  have hk := hF.ks j (by omega)
  have hvj := hvs j (by omega)
  obtain ⟨R, hR⟩ := body_split p (j + 1) m
  have e1 : zs = pgBody p j ++ (enc ((bytesOf (sAt p.keys j)).length : Int) ++ bytesOf (sAt p.keys j) ++ (enc ((bytesOf (sAt p.vals j)).length : Int) ++ bytesOf (sAt p.vals j))) ++ (R ++ rest) := by
   rw [hz, pgRaw, ← hj, show j + (m + 1) = j + 1 + m by omega, hR, pgBody, pgPart, if_pos h0, bytesOf_len, bytesOf_len]
   simp only [List.append_assoc]
  have g1 : gt zs ((pgBody p j).length : Int) = (bytesOf (sAt p.keys j), ((pgBody p j ++ enc ((bytesOf (sAt p.keys j)).length : Int) ++ bytesOf (sAt p.keys j)).length : Int)) := by
   have := gt_rest (pgBody p j) (bytesOf (sAt p.keys j)) (enc ((bytesOf (sAt p.vals j)).length : Int) ++ bytesOf (sAt p.vals j) ++ (R ++ rest)) (by rw [bytesOf_len]; omega)
   rw [← this, e1]
   simp only [List.append_assoc]
  have g2 : gt zs ((pgBody p j ++ enc ((bytesOf (sAt p.keys j)).length : Int) ++ bytesOf (sAt p.keys j)).length : Int) = (bytesOf (sAt p.vals j), ((pgBody p (j + 1)).length : Int)) := by
   have := gt_rest (pgBody p j ++ enc ((bytesOf (sAt p.keys j)).length : Int) ++ bytesOf (sAt p.keys j)) (bytesOf (sAt p.vals j)) (R ++ rest) (by rw [bytesOf_len]; omega)
   have e2 : pgBody p (j + 1) = pgBody p j ++ enc ((bytesOf (sAt p.keys j)).length : Int) ++ bytesOf (sAt p.keys j) ++ enc ((bytesOf (sAt p.vals j)).length : Int) ++ bytesOf (sAt p.vals j) := by
    rw [pgBody, pgPart, if_pos h0, bytesOf_len, bytesOf_len]
    simp only [List.append_assoc]
   rw [e2, ← this, e1]
   simp only [List.append_assoc]
  have st : cdStep zs false ⟨p.keys.take j, p.vals.take j, []⟩ ((pgBody p j).length : Int) = (⟨p.keys.take (j + 1), p.vals.take (j + 1), []⟩, ((pgBody p (j + 1)).length : Int)) := by
   rw [cdStep, if_neg (by simp), g1]
   simp only
   rw [g2, strOf_bytesOf, strOf_bytesOf, sAt_take (by omega), sAt_take (by omega)]
  rw [show 6 - j = (6 - (j + 1)) + 1 by omega, cdGo_on _ _ _ _ _ _ _ ⟨by omega, by omega, by omega⟩, st]
  exact cd_leaf hF h0 hz m (j + 1) (by omega)
theorem cd_branch {p : PG} {zs rest : List Int} (hF : PgF p) (h0 : ¬ p.kids.length = 0) (hv0 : p.vals = []) (hz : zs = pgRaw p ++ rest) : ∀ m j, j + m = p.keys.length → cdGo zs true (p.keys.length : Int) (6 - j) j ⟨p.keys.take j, [], p.kids.take (j + 1)⟩ ((pgBody p j).length : Int) = p
 | 0, j, hj => by
  obtain ⟨hv, _⟩ := hF.br h0
  rw [cdGo_stop _ _ _ _ _ _ _ (by omega)]
  exact PG.ext' (List.take_of_length_le (by omega)) hv0.symm (List.take_of_length_le (by omega))
 | m + 1, j, hj => by
  obtain ⟨hv, hvs⟩ := hF.br h0
  have hn := hF.nk
  have hk := hF.ks j (by omega)
  have hvj := hvs (j + 1) (by omega)
  obtain ⟨R, hR⟩ := body_split p (j + 1) m
  have e1 : zs = pgBody p j ++ (enc ((bytesOf (sAt p.keys j)).length : Int) ++ bytesOf (sAt p.keys j) ++ enc (iAt p.kids (j + 1))) ++ (R ++ rest) := by
   rw [hz, pgRaw, ← hj, show j + (m + 1) = j + 1 + m by omega, hR, pgBody, pgPart, if_neg h0, bytesOf_len]
   simp only [List.append_assoc]
  have g1 : gt zs ((pgBody p j).length : Int) = (bytesOf (sAt p.keys j), ((pgBody p j ++ enc ((bytesOf (sAt p.keys j)).length : Int) ++ bytesOf (sAt p.keys j)).length : Int)) := by
   have := gt_rest (pgBody p j) (bytesOf (sAt p.keys j)) (enc (iAt p.kids (j + 1)) ++ (R ++ rest)) (by rw [bytesOf_len]; omega)
   rw [← this, e1]
   simp only [List.append_assoc]
  have g2 : gv zs ((pgBody p j ++ enc ((bytesOf (sAt p.keys j)).length : Int) ++ bytesOf (sAt p.keys j)).length : Int) = (iAt p.kids (j + 1), ((pgBody p (j + 1)).length : Int)) := by
   have := gv_enc (pgBody p j ++ enc ((bytesOf (sAt p.keys j)).length : Int) ++ bytesOf (sAt p.keys j)) (R ++ rest) (iAt p.kids (j + 1)) (by omega) (by omega)
   have e2 : pgBody p (j + 1) = pgBody p j ++ enc ((bytesOf (sAt p.keys j)).length : Int) ++ bytesOf (sAt p.keys j) ++ enc (iAt p.kids (j + 1)) := by
    rw [pgBody, pgPart, if_neg h0, bytesOf_len]
    simp only [List.append_assoc]
   have e3 : ((pgBody p j ++ enc ((bytesOf (sAt p.keys j)).length : Int) ++ bytesOf (sAt p.keys j)).length + (enc (iAt p.kids (j + 1))).length : Nat) = (pgBody p (j + 1)).length := by rw [e2]; exact List.length_append.symm
   rw [e3] at this
   rw [← this, e1]
   simp only [List.append_assoc]
  have st : cdStep zs true ⟨p.keys.take j, [], p.kids.take (j + 1)⟩ ((pgBody p j).length : Int) = (⟨p.keys.take (j + 1), [], p.kids.take (j + 1 + 1)⟩, ((pgBody p (j + 1)).length : Int)) := by
   rw [cdStep, if_pos rfl, g1]
   simp only
   rw [g2, strOf_bytesOf, sAt_take (by omega), iAt_take (by omega)]
  rw [show 6 - j = (6 - (j + 1)) + 1 by omega, cdGo_on _ _ _ _ _ _ _ ⟨by omega, by omega, by omega⟩, st]
  exact cd_branch hF h0 hv0 hz m (j + 1) (by omega)
theorem cd_full {p : PG} (hok : pgOk p = true) : cd (pgFull p) = p ∧ (zAt (pgFull p) 0 = 76 ∨ zAt (pgFull p) 0 = 66) := by
 have hF := pgOk_facts hok
 have hn := hF.nk
 obtain ⟨R, hR⟩ := body_split p 0 p.keys.length
 rw [Nat.zero_add] at hR
 have hz : pgFull p = pgRaw p ++ List.replicate (512 - (pgRaw p).length) 0 := rfl
 have hh : pgFull p = pgHead p ++ (R ++ List.replicate (512 - (pgRaw p).length) 0) := by
  have hr : pgRaw p = pgHead p ++ R := hR
  rw [hz]
  generalize List.replicate (512 - (pgRaw p).length) 0 = Z
  rw [hr, List.append_assoc]
 generalize R ++ List.replicate (512 - (pgRaw p).length) 0 = R2 at hh
 by_cases h0 : p.kids.length = 0
 ·have hhd : pgHead p = [76] ++ enc (p.keys.length : Int) := by rw [pgHead, if_pos h0, if_pos h0]; simp
  have hz0 : zAt (pgFull p) 0 = 76 := by rw [hh, hhd]; rfl
  have hgv : gv (pgFull p) 1 = ((p.keys.length : Int), ((pgHead p).length : Int)) := by
   have := gv_enc [76] R2 (p.keys.length : Int) (by omega) (by omega)
   rw [hh, hhd]
   simpa [Int.add_comm] using this
  refine ⟨?_, .inl hz0⟩
  rw [cd, if_neg (by rw [hz0]; decide), hgv]
  have := cd_leaf hF h0 hz p.keys.length 0 (by omega)
  simpa [pgBody] using this
 ·have hbr := hF.br h0
  have hk0 := hbr.2 0 (by omega)
  have hhd : pgHead p = [66] ++ enc (p.keys.length : Int) ++ enc (iAt p.kids 0) := by rw [pgHead, if_neg h0, if_neg h0]
  have hz0 : zAt (pgFull p) 0 = 66 := by rw [hh, hhd]; rfl
  have hgv : gv (pgFull p) 1 = ((p.keys.length : Int), (([66] ++ enc (p.keys.length : Int)).length : Int)) := by
   have := gv_enc [66] (enc (iAt p.kids 0) ++ R2) (p.keys.length : Int) (by omega) (by omega)
   rw [hh, hhd]
   simpa [Int.add_comm] using this
  have hgv2 : gv (pgFull p) (([66] ++ enc (p.keys.length : Int)).length : Int) = (iAt p.kids 0, ((pgHead p).length : Int)) := by
   have := gv_enc ([66] ++ enc (p.keys.length : Int)) R2 (iAt p.kids 0) (by omega) (by omega)
   rw [hh, hhd, this]
   simp
   omega
  have hv0 : p.vals = [] := by
   have h1 := hok
   simp only [pgOk, Bool.and_eq_true] at h1
   have h2 := h1.2
   rw [if_neg h0] at h2
   simp only [pgBranch, Bool.and_eq_true, decide_eq_true_eq] at h2
   exact List.eq_nil_of_length_eq_zero h2.2.2
  refine ⟨?_, .inr hz0⟩
  rw [cd, if_pos hz0, hgv]
  simp only
  rw [if_pos (by omega), hgv2]
  simp only
  have := cd_branch hF h0 hv0 hz p.keys.length 0 (by omega)
  have e : p.kids.take (0 + 1) = [iAt p.kids 0] := by
   rw [← iAt_take (by omega)]; rfl
  rw [e] at this
  simpa [pgBody] using this
theorem pgFull_len {p : PG} (hok : pgOk p = true) : (pgFull p).length = 512 := (pgBytes_some (p := p) (by rw [pgBytes, if_pos hok])).2
theorem prd_iff (zs : List Int) (p : PG) : prd zs = some p ↔ pgBytes p = some zs := by
 constructor
 ·intro h
  unfold prd at h
  split at h
  ·rename_i hc
   cases h
   exact hc.2.2
  ·cases h
 ·intro h
  have h2 := h
  unfold pgBytes at h2
  split at h2
  ·rename_i hok
   cases h2
   obtain ⟨h3, h4⟩ := cd_full hok
   rw [prd, if_pos ⟨pgFull_len hok, h4, by rw [h3]; exact h⟩, h3]
  ·cases h2
open Go.RowKit
def Uf (w : World) (b : Nat) : Prop := ∃ xs T, w.heap[b]? = some (.cells xs T (0, 0))
theorem Bk.uf {w : World} {g : Nat} {T : TypeId} {xs : List Value} (h : Bk w g T xs) : Uf w g := ⟨_, _, h⟩
theorem Uf.to {w w' : World} {b : Nat} {R : Nat → Prop} (h : Uf w b) (ho : Only R w w') (hR : ¬ R b) : Uf w' b := by
 obtain ⟨xs, T, h⟩ := h
 exact ⟨xs, T, (ho.block b (Array.getElem?_eq_some_iff.1 h).1 hR).trans h⟩
open Go.RowKit
abbrev DW := Int × List Int
def byt (zs : List Int) : Prop := ∀ i : Nat, 0 ≤ zs[i]?.getD 0 ∧ zs[i]?.getD 0 ≤ 255
def shAt (ss : List (List Int)) (i : Nat) : List Int := ss[i]?.getD []
def dwAt (ds : List DW) (i : Nat) : DW := ds[i]?.getD (0, [])
def uAt (V : List Value) (i : Nat) : Value := V[i]?.getD (.slice none 0 0)
def xAt (U : List (Int × Value)) (i : Nat) : Int × Value := U[i]?.getD (0, .slice none 0 0)
theorem uAt_some {V : List Value} {i : Nat} (h : i < V.length) : V[i]? = some (uAt V i) := by simp [uAt, h]
def By (w : World) (S : Nat → Prop) (v : Value) (zs : List Int) : Prop := Rw w S v zs.length (zs.map (Value.int .u8)) ∧ byt zs
theorem By.to {w w' : World} {S R : Nat → Prop} {v : Value} {zs : List Int} (h : By w S v zs) (ho : Only R w w') (hd : ∀ b, S b → b < w.heap.size → ¬ R b) : By w' S v zs := ⟨h.1.to ho hd, h.2⟩
theorem By.mono {w : World} {S R : Nat → Prop} {v : Value} {zs : List Int} (h : By w S v zs) (hd : ∀ b, S b → b < w.heap.size → R b) : By w R v zs := ⟨h.1.mono hd, h.2⟩
theorem By.below {w w' : World} {S : Nat → Prop} {v : Value} {zs : List Int} (h : By w S v zs) (hb : Below w.heap.size w w') : By w' S v zs := ⟨h.1.below hb, h.2⟩
theorem By.len {w : World} {S : Nat → Prop} {a : Option Addr} {n c : Nat} {zs : List Int} (h : By w S (.slice a n c) zs) : n = zs.length ∧ n ≤ c ∧ c ≤ 9223372036854775807 := Rw.len h.1
theorem By.rd {w : World} {S : Nat → Prop} {a : Option Addr} {n c : Nat} {zs : List Int} (h : By w S (.slice a n c) zs) (hn : n ≤ 1048576) : Rd w a n c zs := by
 obtain ⟨h1, h2, h3⟩ := h.len
 refine ⟨h1, h2, h3, by omega, h.2, fun hp => ?_⟩
 obtain ⟨b, off, e, _, hb, hc⟩ := Rw.at h.1 hp
 exact ⟨b, off, e, hb, fun i hi => hc i _ (by simp [show i < zs.length by omega])⟩
theorem by_ob {w : World} {B : Nat} {v : Value} {zs : List Int} (h : Ob w B v zs) (hb : byt zs) {S : Nat → Prop} (hS : ∀ k, v.ownBlock = some k → B ≤ k → k < w.heap.size → S k) : By w S v zs := ⟨rw_own h hS, hb⟩
def Shr (w : World) (S : Nat → Prop) (v : Value) (ss : List (List Int)) : Prop := ∃ V : List Value, V.length = ss.length ∧ Rw w S v ss.length V ∧ ∀ i, i < ss.length → By w S (uAt V i) (shAt ss i)
theorem Shr.to {w w' : World} {S R : Nat → Prop} {v : Value} {ss : List (List Int)} (h : Shr w S v ss) (ho : Only R w w') (hd : ∀ b, S b → b < w.heap.size → ¬ R b) : Shr w' S v ss := by
 obtain ⟨V, h1, h2, h3⟩ := h
 exact ⟨V, h1, h2.to ho hd, fun i hi => (h3 i hi).to ho hd⟩
theorem Shr.mono {w : World} {S R : Nat → Prop} {v : Value} {ss : List (List Int)} (h : Shr w S v ss) (hd : ∀ b, S b → b < w.heap.size → R b) : Shr w R v ss := by
 obtain ⟨V, h1, h2, h3⟩ := h
 exact ⟨V, h1, h2.mono hd, fun i hi => (h3 i hi).mono hd⟩
theorem Shr.below {w w' : World} {S : Nat → Prop} {v : Value} {ss : List (List Int)} (h : Shr w S v ss) (hb : Below w.heap.size w w') : Shr w' S v ss := h.to (only_of_below hb (fun _ => False)) (fun _ _ _ h => h)
theorem Shr.shape {w : World} {S : Nat → Prop} {v : Value} {ss : List (List Int)} (h : Shr w S v ss) : ∃ a c, v = .slice a ss.length c ∧ ss.length ≤ c ∧ c ≤ 9223372036854775807 := by
 obtain ⟨V, h1, h2, h3⟩ := h
 exact h2.shape
theorem Shr.len {w : World} {S : Nat → Prop} {a : Option Addr} {n c : Nat} {ss : List (List Int)} (h : Shr w S (.slice a n c) ss) : n = ss.length ∧ n ≤ c ∧ c ≤ 9223372036854775807 := by
 obtain ⟨V, h1, h2, h3⟩ := h
 exact Rw.len h2
theorem Rw.sliceOf {w : World} {S : Nat → Prop} {v : Value} {n : Nat} {xs : List Value} (h : Rw w S v n xs) : ∃ a c, v = .slice a n c := by
 obtain ⟨a, c, h, _⟩ := h
 exact ⟨a, c, h⟩
theorem Shr.at {w : World} {S : Nat → Prop} {a : Option Addr} {n c : Nat} {ss : List (List Int)} (h : Shr w S (.slice a n c) ss) (hp : 0 < n) : ∃ b off, a = some ⟨b, off, none⟩ ∧ S b ∧ b < w.heap.size ∧ ∀ i, i < n → ∃ ap np cp,
  w.cell? ⟨b, off + i, none⟩ = some (.slice ap np cp) ∧ By w S (.slice ap np cp) (shAt ss i) := by
 obtain ⟨V, h1, h2, h3⟩ := h
 have hn := (Rw.len h2).1
 obtain ⟨b, off, e1, e2, e3, e4⟩ := h2.at hp
 refine ⟨b, off, e1, e2, e3, fun i hi => ?_⟩
 have k1 := h3 i (by omega)
 have d0 := e4 i _ (uAt_some (by omega))
 obtain ⟨ap, cp, g0⟩ := k1.1.sliceOf
 rw [g0] at d0 k1
 exact ⟨ap, _, cp, d0, k1⟩
def wcs : List (Int × Value) → List Value
 | [] => []
 | p :: ps => .int .i64 p.1 :: p.2 :: wcs ps
theorem wcs_length (ps : List (Int × Value)) : (wcs ps).length = ps.length * 2 := by
 induction ps with
 | nil => rfl
 | cons p ps ih => simp only [wcs, List.length_cons, ih]; omega
theorem wcs_append (ps qs : List (Int × Value)) : wcs (ps ++ qs) = wcs ps ++ wcs qs := by
 induction ps with
 | nil => rfl
 | cons p ps ih => simp only [wcs, List.cons_append, ih]
theorem wcs_at (ps : List (Int × Value)) : ∀ i, i < ps.length → (wcs ps)[i * 2]? = some (.int .i64 (xAt ps i).1) ∧ (wcs ps)[i * 2 + 1]? = some (xAt ps i).2 := by
 induction ps with
 | nil => intro i h; exact absurd h (Nat.not_lt_zero _)
 | cons p ps ih =>
  intro i h
  cases i with
  | zero => exact ⟨rfl, rfl⟩
  | succ i =>
   have := ih i (by simpa using h)
   have e : (i + 1) * 2 = i * 2 + 2 := by omega
   rw [e]
   exact this
theorem wcs_set (ps : List (Int × Value)) (p : Int × Value) : ∀ j, j < ps.length → wcs (ps.set j p) = ((wcs ps).set (j * 2) (.int .i64 p.1)).set (j * 2 + 1) p.2 := by
 induction ps with
 | nil => intro j h; exact absurd h (Nat.not_lt_zero _)
 | cons q ps ih =>
  intro j h
  cases j with
  | zero => rfl
  | succ j =>
   have := ih j (by simpa using h)
   rw [show (j + 1) * 2 = j * 2 + 2 by omega, show j * 2 + 2 + 1 = j * 2 + 1 + 2 by omega]
   show .int .i64 q.1 :: q.2 :: wcs (ps.set j p) = _
   rw [this]
   rfl
def Wrr (w : World) (S : Nat → Prop) (v : Value) (ds : List DW) : Prop := ∃ U : List (Int × Value), U.length = ds.length ∧ Rw w S v ds.length (wcs U) ∧ ∀ i, i < ds.length → (xAt U i).1 = (dwAt ds i).1 ∧ By w S (xAt U i).2 (dwAt ds i).2
theorem Wrr.to {w w' : World} {S R : Nat → Prop} {v : Value} {ds : List DW} (h : Wrr w S v ds) (ho : Only R w w') (hd : ∀ b, S b → b < w.heap.size → ¬ R b) : Wrr w' S v ds := by
 obtain ⟨V, h1, h2, h3⟩ := h
 exact ⟨V, h1, h2.to ho hd, fun i hi => ⟨(h3 i hi).1, (h3 i hi).2.to ho hd⟩⟩
theorem Wrr.mono {w : World} {S R : Nat → Prop} {v : Value} {ds : List DW} (h : Wrr w S v ds) (hd : ∀ b, S b → b < w.heap.size → R b) : Wrr w R v ds := by
 obtain ⟨V, h1, h2, h3⟩ := h
 exact ⟨V, h1, h2.mono hd, fun i hi => ⟨(h3 i hi).1, (h3 i hi).2.mono hd⟩⟩
theorem Wrr.below {w w' : World} {S : Nat → Prop} {v : Value} {ds : List DW} (h : Wrr w S v ds) (hb : Below w.heap.size w w') : Wrr w' S v ds := h.to (only_of_below hb (fun _ => False)) (fun _ _ _ h => h)
theorem Wrr.shape {w : World} {S : Nat → Prop} {v : Value} {ds : List DW} (h : Wrr w S v ds) : ∃ a c, v = .slice a ds.length c ∧ ds.length ≤ c ∧ c ≤ 9223372036854775807 := by
 obtain ⟨V, h1, h2, h3⟩ := h
 exact h2.shape
theorem Wrr.len {w : World} {S : Nat → Prop} {a : Option Addr} {n c : Nat} {ds : List DW} (h : Wrr w S (.slice a n c) ds) : n = ds.length ∧ n ≤ c ∧ c ≤ 9223372036854775807 := by
 obtain ⟨V, h1, h2, h3⟩ := h
 exact Rw.len h2
theorem Wrr.at {w : World} {S : Nat → Prop} {a : Option Addr} {n c : Nat} {ds : List DW} (h : Wrr w S (.slice a n c) ds) (hp : 0 < n) : ∃ b off, a = some ⟨b, off, none⟩ ∧ S b ∧ b < w.heap.size ∧ ∀ i, i < n → ∃ ap np cp,
  w.cell? ⟨b, off + i * 2, none⟩ = some (.int .i64 (dwAt ds i).1) ∧ w.cell? ⟨b, off + i * 2 + 1, none⟩ = some (.slice ap np cp) ∧ By w S (.slice ap np cp) (dwAt ds i).2 := by
 obtain ⟨V, h1, h2, h3⟩ := h
 have hn := (Rw.len h2).1
 obtain ⟨b, off, e1, e2, e3, e4⟩ := h2.at hp
 refine ⟨b, off, e1, e2, e3, fun i hi => ?_⟩
 obtain ⟨k0, k1⟩ := h3 i (by omega)
 obtain ⟨c0, c1⟩ := wcs_at V i (by omega)
 have d0 := e4 _ _ c0
 have d1 := e4 _ _ c1
 obtain ⟨ap, cp, g0⟩ := k1.1.sliceOf
 rw [g0] at d1 k1
 rw [k0] at d0
 exact ⟨ap, _, cp, d0, d1, k1⟩
structure DK where
 sh : List (List Int)
 dw : List DW
instance : DecidableEq DK := fun a b => decidable_of_iff (a.sh = b.sh ∧ a.dw = b.dw) (by cases a; cases b; simp)
structure Dk (w : World) (S : Nat → Prop) (sa : Option Addr) (sn sc : Nat) (da : Option Addr) (dn dc : Nat) (d : DK) : Prop where
 hs : Shr w S (.slice sa sn sc) d.sh
 hd : Wrr w S (.slice da dn dc) d.dw
theorem Dk.to {w w' : World} {S R : Nat → Prop} {sa : Option Addr} {sn sc : Nat} {da : Option Addr} {dn dc : Nat} {d : DK} (h : Dk w S sa sn sc da dn dc d) (ho : Only R w w') (hd : ∀ b, S b → b < w.heap.size → ¬ R b) : Dk w' S sa sn sc da dn dc d := ⟨h.hs.to ho hd, h.hd.to ho hd⟩
theorem Dk.mono {w : World} {S R : Nat → Prop} {sa : Option Addr} {sn sc : Nat} {da : Option Addr} {dn dc : Nat} {d : DK} (h : Dk w S sa sn sc da dn dc d) (hd : ∀ b, S b → b < w.heap.size → R b) : Dk w R sa sn sc da dn dc d := ⟨h.hs.mono hd, h.hd.mono hd⟩
theorem Dk.below {w w' : World} {S : Nat → Prop} {sa : Option Addr} {sn sc : Nat} {da : Option Addr} {dn dc : Nat} {d : DK} (h : Dk w S sa sn sc da dn dc d) (hb : Below w.heap.size w w') : Dk w' S sa sn sc da dn dc d := ⟨h.hs.below hb, h.hd.below hb⟩
def smallD (d : DK) : Prop := (∀ i, i < d.sh.length → (shAt d.sh i).length ≤ 1048576) ∧ ∀ i, i < d.dw.length → (dwAt d.dw i).2.length ≤ 1048576
def shtOk (l : List Int) : Bool := decide (l.length = 0) || decide (l.length = 512)
def wrtOk (n : Nat) (p : DW) : Bool := decide (0 ≤ p.1) && decide (p.1 < (n : Int)) && decide (p.2.length = 512)
def dkOk (d : DK) : Bool := decide (2 ≤ d.sh.length) && decide (d.sh.length ≤ 400) && decide (d.dw.length ≤ 500) && d.sh.all shtOk && d.dw.all (wrtOk d.sh.length)
theorem allD_at {α : Type} {f : α → Bool} {l : List α} (z : α) : l.all f = true ↔ ∀ i, i < l.length → f (l[i]?.getD z) = true := by
 rw [List.all_eq_true]
 constructor
 ·intro h i hi
  rw [List.getElem?_eq_getElem hi]
  exact h _ (List.getElem_mem hi)
 ·intro h x hx
  obtain ⟨i, hi, rfl⟩ := List.mem_iff_getElem.1 hx
  have := h i hi
  rwa [List.getElem?_eq_getElem hi] at this
open Go.RowKit
set_option linter.unusedVariables false
def pairsP (p : PG) : List PB := (List.range p.keys.length).map fun i => (sAt p.keys i, sAt p.vals i)
theorem pairsP_len (p : PG) : (pairsP p).length = p.keys.length := by simp [pairsP]
theorem pairsP_take (p : PG) {k : Nat} (h : k < p.keys.length) : (pairsP p).take (k + 1) = (pairsP p).take k ++ [(sAt p.keys k, sAt p.vals k)] := by
 have hl : k < (pairsP p).length := by rw [pairsP_len]; exact h
 rw [List.take_succ_eq_append_getElem hl]
 simp [pairsP]
def nodeP (p : PG) : NB := if p.kids.length = 0 then ⟨pairsP p, [], []⟩ else ⟨[], p.keys, []⟩
def pgAt (ss : List (List Int)) (t : Int) : Option PG := if 0 ≤ t ∧ t < (ss.length : Int) then prd (shAt ss t.toNat) else none
def addK (ns : List NB) (me : Nat) (q : Int) : List NB := ns.set me ⟨(nAt ns me).ps, (nAt ns me).keys, (nAt ns me).kids ++ [q]⟩
theorem addK_len (ns : List NB) (me : Nat) (q : Int) : (addK ns me q).length = ns.length := by simp [addK]
abbrev LS := List NB × List Int
def ldK (F : Int → LS → Option LS) (me : Nat) : List Int → LS → Option LS
 | [], s => some s
 | k :: ks, s => match F k (addK s.1 me (s.1.length : Int), s.2) with
  | none => none
  | some s' => ldK F me ks s'
def ldV (ss : List (List Int)) : Nat → Int → LS → Option LS
 | 0, _, _ => none
 | f + 1, t, s => match pgAt ss t with
  | none => none
  | some p => if t ∈ s.2 ∨ 400 ≤ s.1.length then none else ldK (ldV ss f) s.1.length p.kids (s.1 ++ [nodeP p], s.2 ++ [t])
theorem ldK_at (F : Int → LS → Option LS) (me : Nat) (ks : List Int) {j : Nat} (h : j < ks.length) (s : LS) : ldK F me (ks.drop j) s = match F (iAt ks j) (addK s.1 me (s.1.length : Int), s.2) with | none => none | some s' => ldK F me (ks.drop (j + 1)) s' := by
 rw [List.drop_eq_getElem_cons h]
 have e : iAt ks j = ks[j] := by simp [iAt, h]
 rw [e]
 rfl
theorem ldV_page {ss : List (List Int)} {f : Nat} {t : Int} {s : LS} (h : pgAt ss t = none) : ldV ss f t s = none := by
 cases f with
 | zero => rfl
 | succ f => rw [ldV, h]
theorem ldV_bad {ss : List (List Int)} {f : Nat} {t : Int} {s : LS} (h : t ∈ s.2 ∨ 400 ≤ s.1.length) : ldV ss f t s = none := by
 cases f with
 | zero => rfl
 | succ f =>
  rw [ldV]
  cases pgAt ss t with
  | none => rfl
  | some p => simp only; rw [if_pos h]
theorem ldV_go {ss : List (List Int)} {f : Nat} {t : Int} {s : LS} {p : PG} (h : pgAt ss t = some p) (h2 : ¬ (t ∈ s.2 ∨ 400 ≤ s.1.length)) : ldV ss (f + 1) t s = ldK (ldV ss f) s.1.length p.kids (s.1 ++ [nodeP p], s.2 ++ [t]) := by
 rw [ldV, h]
 simp only
 rw [if_neg h2]
theorem ldK_len {F : Int → LS → Option LS} (hF : ∀ t s s', F t s = some s' → s.1.length + 1 ≤ s'.1.length ∧ s'.1.length ≤ 400) (me : Nat) : ∀ (ks : List Int) (s s' : LS), s.1.length ≤ 400 → ldK F me ks s = some s' → s.1.length ≤ s'.1.length ∧ s'.1.length ≤ 400
 | [], s, s', h4, h => by cases h; exact ⟨Nat.le_refl _, h4⟩
 | k :: ks, s, s', h4, h => by
  rw [ldK] at h
  cases e : F k (addK s.1 me (s.1.length : Int), s.2) with
  | none => rw [e] at h; cases h
  | some s2 =>
   rw [e] at h
   have h1 := hF _ _ _ e
   simp only [addK_len] at h1
   have h2 := ldK_len hF me ks s2 s' h1.2 h
   omega
theorem ldV_len (ss : List (List Int)) : ∀ (f : Nat) (t : Int) (s s' : LS), ldV ss f t s = some s' → s.1.length + 1 ≤ s'.1.length ∧ s'.1.length ≤ 400
 | 0, t, s, s', h => by cases h
 | f + 1, t, s, s', h => by
  rw [ldV] at h
  cases e : pgAt ss t with
  | none => rw [e] at h; cases h
  | some p =>
   rw [e] at h
   simp only at h
   by_cases hb : t ∈ s.2 ∨ 400 ≤ s.1.length
   ·rw [if_pos hb] at h; cases h
   ·rw [if_neg hb] at h
    have := ldK_len (ldV_len ss f) s.1.length p.kids _ s' (by simp; omega) h
    simpa using this
theorem prd_ok {zs : List Int} {p : PG} (h : prd zs = some p) : pgOk p = true := by
 have := (prd_iff zs p).1 h
 unfold pgBytes at this
 by_cases e : pgOk p = true
 ·exact e
 ·rw [if_neg e] at this; cases this
theorem pgOk_shape {p : PG} (h : pgOk p = true) : (p.kids.length = 0 → p.vals.length = p.keys.length) ∧ p.keys.length ≤ 4 ∧ p.kids.length ≤ 4 ∧ ∀ k ∈ p.kids, 2 ≤ k ∧ k < 400 := by
 simp only [pgOk, Bool.and_eq_true] at h
 obtain ⟨-, h⟩ := h
 split at h
 ·rename_i h0
  simp only [pgLeaf, Bool.and_eq_true, decide_eq_true_eq] at h
  exact ⟨fun _ => h.2.2, by omega, by omega, fun k hk => by rw [List.eq_nil_of_length_eq_zero h0] at hk; cases hk⟩
 ·rename_i h0
  simp only [pgBranch, Bool.and_eq_true, decide_eq_true_eq] at h
  refine ⟨fun e => absurd e h0, by omega, by omega, fun k hk => ?_⟩
  have := List.all_eq_true.1 h.1 k hk
  simpa [kidOk] using this
open Go.RowKit
theorem made_strs (n : Nat) : madeCells (Value.string ⟨#[]⟩).cells (n * 1) = ((List.replicate n ⟨#[]⟩).map Value.string).toArray := by
 apply Array.ext
 ·simp [madeCells]
 ·intro i h1 h2; simp [madeCells, Value.cells, Nat.mod_one]
theorem infoStringS : (Tryz.prog.info? 9).map (fun i => (i.zero, i.size, i.bytes)) = some (some (Value.string ⟨#[]⟩), 1, 16) := by kernel_rfl
def ptStringS (l : List ByteArray) (k : Nat) : List ByteArray := l.take k ++ List.replicate (l.length - k) ⟨#[]⟩
theorem ptStringS_length (l : List ByteArray) (k : Nat) (h : k ≤ l.length) : (ptStringS l k).length = l.length := by simp [ptStringS]; omega
theorem ptStringS_set (l : List ByteArray) (k : Nat) (h : k < l.length) : (ptStringS l k).set k (sAt l k) = ptStringS l (k + 1) := by
 have e : sAt l k = l[k] := by simp [sAt, h]
 rw [e]
 have hl : (l.take k).length = k := by simp; omega
 simp only [ptStringS]
 rw [List.set_append_right _ _ (by omega), hl]
 have h2 : l.length - k = (l.length - (k + 1)) + 1 := by omega
 rw [List.take_succ_eq_append_getElem h, h2, List.replicate_succ, Nat.sub_self, List.set_cons_zero, List.append_assoc]
 rfl
set_option maxHeartbeats 2000000 in
theorem toStringS_at (S : Nat → Prop) (a : Option Addr) (n c : Nat) (l : List ByteArray) (w : World) (h : Sr w S (.slice a n c) l) (hnm : n ≤ 1048576) :
  Calls Tryz.prog 160 #[.slice a n c] w fun e w' => e = .returned (.slice (some ⟨w.heap.size, 0, none⟩) n n) ∧ Bk w' w.heap.size 9 (l.map Value.string) ∧ Below w.heap.size w w' := by
 have HN := hid (Rw.len h).1
 have H0 := hid h
 clear h
 have hmk := run_make_n (P := Tryz.prog) 83 9 (Value.string ⟨#[]⟩) 1 16 Tryz.underlying83 infoStringS n (by omega) (by omega)
 rw [made_strs] at hmk
 have HM : Hid ((List.replicate n ⟨#[]⟩).map Value.string = (ptStringS l 0).map Value.string) := by
  show _ = _
  rw [HN.out]; simp [ptStringS]
 rw [HM.out] at hmk
 have h63 : n ≤ 9223372036854775807 := by omega
 go_enter Tryz.func160, Tryz.ntmps160
 go_wp2
 go_loopw [4] (fun i wr => ∃ k : Nat, k ≤ n ∧ i = .int .i64 k ∧ Hid (Bk wr w.heap.size 9 ((ptStringS l k).map Value.string)) ∧ Hid (Below w.heap.size w wr)) (fun i _ => n - (intOf i).toNat)
 case atStart => exact ⟨0, Nat.zero_le _, rfl, Bk.new _ _ _, (Below.refl _ _).alloc (Nat.le_refl _) _⟩
 case round =>
  obtain ⟨k, hk, rfl, HK, HB⟩ := hrel
  by_cases hlt : k < n
  ·have hlt' : (k : Int) < (n : Int) := by omega
   have HP := hid (H0.out.below HB.out)
   obtain ⟨b, off, rfl, _, hbw, hcell⟩ := HP.out.at (by omega)
   have hck := hcell k hlt
   have HSET : Hid ((ptStringS l k).set k (sAt l k) = ptStringS l (k + 1)) := ptStringS_set l k (by rw [← HN.out]; exact hlt)
   have HLE : Hid ((ptStringS l k).length = n) := by show _ = _; rw [ptStringS_length l k (by rw [← HN.out]; exact hk), ← HN.out]
   clear hcell hbw
   generalize hcur : sAt l k = ck at hck HSET
   clear hcur HP
   have hc0 : wr.cell? ⟨w.heap.size, k, none⟩ = some (Value.string (sAt (ptStringS l k) k)) := HK.out.cell (by simp [sAt, show k < (ptStringS l k).length by rw [HLE.out]; exact hlt])
   have hf0 := HK.out.free k
   have HK2 : Hid (Bk (wr.setCell ⟨w.heap.size, k, none⟩ (Value.string ck)) w.heap.size 9 ((ptStringS l (k + 1)).map Value.string)) := by
    show Bk _ _ _ _
    rw [← HSET.out, List.map_set]
    exact HK.out.set _ _
   have HB2 : Hid (Below w.heap.size w (wr.setCell ⟨w.heap.size, k, none⟩ (Value.string ck))) := HB.out.setCell (Nat.le_refl _) _
   generalize sAt (ptStringS l k) k = old at hc0
   go_wp2
   go_roundw
   case rel => exact ⟨k + 1, by omega, by go_num, HK2.out, HB2.out⟩
   case measure => simp [intOf]; omega
  ·have hk' : k = n := by omega
   have HA : Hid ((ptStringS l k).map Value.string = l.map Value.string) := by show _ = _; rw [hk', HN.out]; simp [ptStringS]
   clear hk'
   go_wp2
   go_ret
   refine ⟨rfl, ?_, HB.out⟩
   rw [← HA.out]; exact HK.out
set_option maxHeartbeats 2000000 in
theorem eqStringS_at (S S' : Nat → Prop) (a a' : Option Addr) (n n' c c' : Nat) (l l' : List ByteArray) (w : World) (h : Sr w S (.slice a n c) l) (h' : Sr w S' (.slice a' n' c') l') :
  Calls Tryz.prog 155 #[.slice a n c, .slice a' n' c'] w fun e w' => e = .returned (.bool (decide (l = l'))) ∧ Below w.heap.size w w' := by
 obtain ⟨hn, hnc, hcc⟩ := Rw.len h
 obtain ⟨hn', hnc', hcc'⟩ := Rw.len h'
 have HN := hid hn
 have HN' := hid hn'
 have H0 := hid h
 have H0' := hid h'
 clear h h' hn hn'
 by_cases hne : n = n'
 ·subst hne
  have hz : ((n : Int) != (n : Int)) = false := by simp
  go_enter Tryz.func155, Tryz.ntmps155
  go_wp2
  go_loopw [5] (fun i wr => ∃ k : Nat, k ≤ n ∧ i = .int .i64 k ∧ Hid (Below w.heap.size w wr) ∧ Hid (l.take k = l'.take k)) (fun i _ => n - (intOf i).toNat)
  case atStart => exact ⟨0, Nat.zero_le _, rfl, Below.refl _ _, rfl⟩
  case round =>
   obtain ⟨k, hk, rfl, HB, HT⟩ := hrel
   by_cases hlt : k < n
   ·have hlt' : (k : Int) < (n : Int) := by omega
    have HP := hid (H0.out.below HB.out)
    have HP' := hid (H0'.out.below HB.out)
    obtain ⟨b, off, rfl, _, hbw, hcell⟩ := HP.out.at (by omega)
    obtain ⟨b', off', rfl, _, hbw', hcell'⟩ := HP'.out.at (by omega)
    have hck := hcell k hlt
    have hck' := hcell' k hlt
    have HS : Hid (sAt l k = sAt l' k → l.take (k + 1) = l'.take (k + 1)) := by
     intro e
     have hl : k < l.length := by rw [← HN.out]; exact hlt
     have hl' : k < l'.length := by rw [← HN'.out]; exact hlt
     rw [List.take_succ_eq_append_getElem hl, List.take_succ_eq_append_getElem hl', HT.out]
     simp [sAt, hl, hl'] at e
     rw [e]
    have HF : Hid (sAt l k ≠ sAt l' k → decide (l = l') = false) := by
     intro e
     rw [decide_eq_false_iff_not]
     intro e'
     exact e (by rw [e'])
    clear hcell hcell' hbw hbw' HP HP' HT
    generalize sAt l k = ck at *
    generalize sAt l' k = ck' at *
    by_cases he : ck = ck'
    ·have HS1 := hid (HS.out he)
     subst he
     skip
     clear HS HF
     go_wp2
     go_quiet (fail)
     go_wp2
     go_roundw
     case rel => exact ⟨k + 1, by omega, by go_num, Below.drewN' HB.out _, HS1.out⟩
     case measure => simp [intOf]; omega
    ·have HF1 := hid (HF.out he)
     have t := str_beq he
     clear he HS HF
     go_wp2
     go_quiet (fail)
     go_wp2
     go_ret
     exact ⟨by rw [HF1.out]; rfl, Below.drewN' HB.out _⟩
   ·have HF : Hid (decide (l = l') = true) := by
     show decide (l = l') = true
     have hk' : k = n := by omega
     have e := HT.out
     have e1 : l.length ≤ k := by rw [← HN.out]; omega
     have e2 : l'.length ≤ k := by rw [← HN'.out]; omega
     rw [List.take_of_length_le e1, List.take_of_length_le e2] at e
     simp [e]
    clear HT
    go_wp2
    go_ret
    exact ⟨by rw [HF.out]; rfl, HB.out⟩
 ·have hz : ((n : Int) != (n' : Int)) = true := by simp; omega
  have HF : Hid (decide (l = l') = false) := by
   show decide (l = l') = false
   rw [decide_eq_false_iff_not]
   intro e
   exact hne (by rw [HN.out, HN'.out, e])
  clear hne
  go_enter Tryz.func155, Tryz.ntmps155
  go_wp2
  go_ret
  exact ⟨by rw [HF.out]; rfl, Below.refl _ _⟩
theorem made_ints (n : Nat) : madeCells (Value.int .i64 0).cells (n * 1) = ((List.replicate n 0).map (Value.int .i64)).toArray := by
 apply Array.ext
 ·simp [madeCells]
 ·intro i h1 h2; simp [madeCells, Value.cells, Nat.mod_one]
theorem infoIntS : (Tryz.prog.info? 3).map (fun i => (i.zero, i.size, i.bytes)) = some (some (Value.int .i64 0), 1, 8) := by kernel_rfl
def ptIntS (l : List Int) (k : Nat) : List Int := l.take k ++ List.replicate (l.length - k) 0
theorem ptIntS_length (l : List Int) (k : Nat) (h : k ≤ l.length) : (ptIntS l k).length = l.length := by simp [ptIntS]; omega
theorem ptIntS_set (l : List Int) (k : Nat) (h : k < l.length) : (ptIntS l k).set k (iAt l k) = ptIntS l (k + 1) := by
 have e : iAt l k = l[k] := by simp [iAt, h]
 rw [e]
 have hl : (l.take k).length = k := by simp; omega
 simp only [ptIntS]
 rw [List.set_append_right _ _ (by omega), hl]
 have h2 : l.length - k = (l.length - (k + 1)) + 1 := by omega
 rw [List.take_succ_eq_append_getElem h, h2, List.replicate_succ, Nat.sub_self, List.set_cons_zero, List.append_assoc]
 rfl
set_option maxHeartbeats 2000000 in
theorem toIntS_at (S : Nat → Prop) (a : Option Addr) (n c : Nat) (l : List Int) (w : World) (h : Ir w S (.slice a n c) l) (hnm : n ≤ 1048576) :
  Calls Tryz.prog 48 #[.slice a n c] w fun e w' => e = .returned (.slice (some ⟨w.heap.size, 0, none⟩) n n) ∧ Bk w' w.heap.size 3 (l.map (Value.int .i64)) ∧ Below w.heap.size w w' := by
 have HN := hid (Rw.len h).1
 have H0 := hid h
 clear h
 have hmk := run_make_n (P := Tryz.prog) 34 3 (Value.int .i64 0) 1 8 Tryz.underlying34 infoIntS n (by omega) (by omega)
 rw [made_ints] at hmk
 have HM : Hid ((List.replicate n 0).map (Value.int .i64) = (ptIntS l 0).map (Value.int .i64)) := by
  show _ = _
  rw [HN.out]; simp [ptIntS]
 rw [HM.out] at hmk
 have h63 : n ≤ 9223372036854775807 := by omega
 go_enter Tryz.func48, Tryz.ntmps48
 go_wp2
 go_loopw [4] (fun i wr => ∃ k : Nat, k ≤ n ∧ i = .int .i64 k ∧ Hid (Bk wr w.heap.size 3 ((ptIntS l k).map (Value.int .i64))) ∧ Hid (Below w.heap.size w wr)) (fun i _ => n - (intOf i).toNat)
 case atStart => exact ⟨0, Nat.zero_le _, rfl, Bk.new _ _ _, (Below.refl _ _).alloc (Nat.le_refl _) _⟩
 case round =>
  obtain ⟨k, hk, rfl, HK, HB⟩ := hrel
  by_cases hlt : k < n
  ·have hlt' : (k : Int) < (n : Int) := by omega
   have HP := hid (H0.out.below HB.out)
   obtain ⟨b, off, rfl, _, hbw, hcell⟩ := HP.out.at (by omega)
   have hck := hcell k hlt
   have HSET : Hid ((ptIntS l k).set k (iAt l k) = ptIntS l (k + 1)) := ptIntS_set l k (by rw [← HN.out]; exact hlt)
   have HLE : Hid ((ptIntS l k).length = n) := by show _ = _; rw [ptIntS_length l k (by rw [← HN.out]; exact hk), ← HN.out]
   clear hcell hbw
   generalize hcur : iAt l k = ck at hck HSET
   clear hcur HP
   have hc0 : wr.cell? ⟨w.heap.size, k, none⟩ = some ((Value.int .i64) (iAt (ptIntS l k) k)) := HK.out.cell (by simp [iAt, show k < (ptIntS l k).length by rw [HLE.out]; exact hlt])
   have hf0 := HK.out.free k
   have HK2 : Hid (Bk (wr.setCell ⟨w.heap.size, k, none⟩ ((Value.int .i64) ck)) w.heap.size 3 ((ptIntS l (k + 1)).map (Value.int .i64))) := by
    show Bk _ _ _ _
    rw [← HSET.out, List.map_set]
    exact HK.out.set _ _
   have HB2 : Hid (Below w.heap.size w (wr.setCell ⟨w.heap.size, k, none⟩ ((Value.int .i64) ck))) := HB.out.setCell (Nat.le_refl _) _
   generalize iAt (ptIntS l k) k = old at hc0
   go_wp2
   go_roundw
   case rel => exact ⟨k + 1, by omega, by go_num, HK2.out, HB2.out⟩
   case measure => simp [intOf]; omega
  ·have hk' : k = n := by omega
   have HA : Hid ((ptIntS l k).map (Value.int .i64) = l.map (Value.int .i64)) := by show _ = _; rw [hk', HN.out]; simp [ptIntS]
   clear hk'
   go_wp2
   go_ret
   refine ⟨rfl, ?_, HB.out⟩
   rw [← HA.out]; exact HK.out
set_option maxHeartbeats 2000000 in
theorem eqIntS_at (S S' : Nat → Prop) (a a' : Option Addr) (n n' c c' : Nat) (l l' : List Int) (w : World) (h : Ir w S (.slice a n c) l) (h' : Ir w S' (.slice a' n' c') l') :
  Calls Tryz.prog 33 #[.slice a n c, .slice a' n' c'] w fun e w' => e = .returned (.bool (decide (l = l'))) ∧ Below w.heap.size w w' := by
 obtain ⟨hn, hnc, hcc⟩ := Rw.len h
 obtain ⟨hn', hnc', hcc'⟩ := Rw.len h'
 have HN := hid hn
 have HN' := hid hn'
 have H0 := hid h
 have H0' := hid h'
 clear h h' hn hn'
 by_cases hne : n = n'
 ·subst hne
  have hz : ((n : Int) != (n : Int)) = false := by simp
  go_enter Tryz.func33, Tryz.ntmps33
  go_wp2
  go_loopw [5] (fun i wr => ∃ k : Nat, k ≤ n ∧ i = .int .i64 k ∧ Hid (Below w.heap.size w wr) ∧ Hid (l.take k = l'.take k)) (fun i _ => n - (intOf i).toNat)
  case atStart => exact ⟨0, Nat.zero_le _, rfl, Below.refl _ _, rfl⟩
  case round =>
   obtain ⟨k, hk, rfl, HB, HT⟩ := hrel
   by_cases hlt : k < n
   ·have hlt' : (k : Int) < (n : Int) := by omega
    have HP := hid (H0.out.below HB.out)
    have HP' := hid (H0'.out.below HB.out)
    obtain ⟨b, off, rfl, _, hbw, hcell⟩ := HP.out.at (by omega)
    obtain ⟨b', off', rfl, _, hbw', hcell'⟩ := HP'.out.at (by omega)
    have hck := hcell k hlt
    have hck' := hcell' k hlt
    have HS : Hid (iAt l k = iAt l' k → l.take (k + 1) = l'.take (k + 1)) := by
     intro e
     have hl : k < l.length := by rw [← HN.out]; exact hlt
     have hl' : k < l'.length := by rw [← HN'.out]; exact hlt
     rw [List.take_succ_eq_append_getElem hl, List.take_succ_eq_append_getElem hl', HT.out]
     simp [iAt, hl, hl'] at e
     rw [e]
    have HF : Hid (iAt l k ≠ iAt l' k → decide (l = l') = false) := by
     intro e
     rw [decide_eq_false_iff_not]
     intro e'
     exact e (by rw [e'])
    clear hcell hcell' hbw hbw' HP HP' HT
    generalize iAt l k = ck at *
    generalize iAt l' k = ck' at *
    by_cases he : ck = ck'
    ·have HS1 := hid (HS.out he)
     subst he
     have t : (ck != ck) = false := by simp
     clear HS HF
     go_wp2
     go_quiet (fail)
     go_wp2
     go_roundw
     case rel => exact ⟨k + 1, by omega, by go_num, Below.drewN' HB.out _, HS1.out⟩
     case measure => simp [intOf]; omega
    ·have HF1 := hid (HF.out he)
     have t : (ck != ck') = true := by simp [he]
     clear he HS HF
     go_wp2
     go_quiet (fail)
     go_wp2
     go_ret
     exact ⟨by rw [HF1.out]; rfl, Below.drewN' HB.out _⟩
   ·have HF : Hid (decide (l = l') = true) := by
     show decide (l = l') = true
     have hk' : k = n := by omega
     have e := HT.out
     have e1 : l.length ≤ k := by rw [← HN.out]; omega
     have e2 : l'.length ≤ k := by rw [← HN'.out]; omega
     rw [List.take_of_length_le e1, List.take_of_length_le e2] at e
     simp [e]
    clear HT
    go_wp2
    go_ret
    exact ⟨by rw [HF.out]; rfl, HB.out⟩
 ·have hz : ((n : Int) != (n' : Int)) = true := by simp; omega
  have HF : Hid (decide (l = l') = false) := by
   show decide (l = l') = false
   rw [decide_eq_false_iff_not]
   intro e
   exact hne (by rw [HN.out, HN'.out, e])
  clear hne
  go_enter Tryz.func33, Tryz.ntmps33
  go_wp2
  go_ret
  exact ⟨by rw [HF.out]; rfl, Below.refl _ _⟩
def szOkS (l : List ByteArray) : Prop := ∀ i, (sAt l i).size ≤ 9223372036854775807
set_option maxHeartbeats 2000000 in
theorem szStringS_at (S : Nat → Prop) (a : Option Addr) (n c : Nat) (l : List ByteArray) (left : Int) (w : World) (h : Sr w S (.slice a n c) l) (hsz : szOkS l) (h0 : 0 ≤ left) (h1 : left ≤ 1048576) :
  Calls Tryz.prog 158 #[.slice a n c, .int .i64 left] w fun e w' => (∃ x : Int, e = .returned (.int .i64 x) ∧ x ≤ left ∧ -1 ≤ x ∧ (0 ≤ x → n ≤ 1048576)) ∧ Below w.heap.size w w' := by
 obtain ⟨hn, hnc, hcc⟩ := Rw.len h
 have HN := hid hn
 have H0 := hid h
 have HZ := hid hsz
 clear h hsz hn
 by_cases hbig : left - (n : Int) < 0
 ·go_enter Tryz.func158, Tryz.ntmps158
  go_wp2
  go_ret
  exact ⟨⟨_, rfl, by omega, by omega, fun h => by omega⟩, Below.refl _ _⟩
 ·have hn2 : n ≤ 1048576 := by omega
  go_enter Tryz.func158, Tryz.ntmps158
  go_wp2
  go_loopw [1, 5] (fun x i wr => ∃ (k : Nat) (y : Int), k ≤ n ∧ i = .int .i64 k ∧ x = .int .i64 y ∧ 0 ≤ y ∧ y ≤ left ∧ wr = w) (fun _ i _ => n - (intOf i).toNat)
  case atStart => exact ⟨0, _, Nat.zero_le _, rfl, rfl, by omega, by omega, rfl⟩
  case round =>
   obtain ⟨k, y, hk, rfl, rfl, hy0, hy1, rfl⟩ := hrel
   by_cases hlt : k < n
   ·have hlt' : (k : Int) < (n : Int) := by omega
    obtain ⟨b, off, rfl, _, hbw, hcell⟩ := H0.out.at (by omega)
    have hck := hcell k hlt
    have hs := HZ.out k
    clear hcell hbw
    generalize sAt l k = s at hck hs
    by_cases hneg : y - (s.size : Int) < 0
    ·go_wp2
     go_ret
     exact ⟨⟨_, rfl, by omega, by omega, fun h => by omega⟩, Below.refl _ _⟩
    ·go_wp2
     go_roundw
     case rel => exact ⟨k + 1, y - (s.size : Int), by omega, by go_num, rfl, by omega, by omega, by trivial⟩
     case measure => simp [intOf]; omega
   ·go_wp2
    go_ret
    exact ⟨⟨_, rfl, by omega, by omega, fun _ => hn2⟩, Below.refl _ _⟩
theorem szIntS_at (a : Option Addr) (n c : Nat) (left : Int) (w : World) (hc : n ≤ 9223372036854775807) (h0 : 0 ≤ left) (h1 : left ≤ 1048576) :
  Calls Tryz.prog 44 #[.slice a n c, .int .i64 left] w fun e w' => (∃ x : Int, e = .returned (.int .i64 x) ∧ x ≤ left ∧ -1 ≤ x ∧ (0 ≤ x → n ≤ 1048576)) ∧ Below w.heap.size w w' := by
 go_enter Tryz.func44, Tryz.ntmps44
 go_wp2
 all_goals (go_ret; exact ⟨⟨_, rfl, by omega, by omega, fun h => by omega⟩, Below.refl _ _⟩)
open Go.RowKit
instance : DecidableEq PG := fun a b => decidable_of_iff (a.keys = b.keys ∧ a.vals = b.vals ∧ a.kids = b.kids) (by cases a; cases b; simp)
theorem load_pg {w : World} {g : Nat} {x y z : Value} (c0 : w.cell? ⟨g, 0, none⟩ = some x) (c1 : w.cell? ⟨g, 1, none⟩ = some y) (c2 : w.cell? ⟨g, 2, none⟩ = some z) :
  (loadVar 107 ⟨g, 0, none⟩).run Tryz.prog w = .ok (.agg #[x, y, z]) w := by go_simp
theorem results_pg {fn : Func} {p : Tmp} (h : fn.results = #[.cell p 107]) (tmps : Array Value) (w : World) (g : Nat) {x y z : Value} (hp : tmps.getD p undef = .pointer (some ⟨g, 0, none⟩))
  (c0 : w.cell? ⟨g, 0, none⟩ = some x) (c1 : w.cell? ⟨g, 1, none⟩ = some y) (c2 : w.cell? ⟨g, 2, none⟩ = some z) : (results fn tmps).run Tryz.prog w = .ok (.agg #[x, y, z]) w := by
 have hp' : tmps[p]?.getD undef = .pointer (some ⟨g, 0, none⟩) := by simpa using hp
 simp [results, h, hp', asAddr, load_pg c0 c1 c2]
open Go.RowKit
def mtG : Nat → Nat → ByteArray → ByteArray
 | 0, _, acc => acc
 | f + 1, k, acc => if k = 0 then acc else mtG f (k / 10) (strOf [48 + ((k % 10 : Nat) : Int)] ++ acc)
def mt (k : Nat) : ByteArray := ⟨#[109]⟩ ++ mtG k k ⟨#[]⟩
open Go.RowKit
theorem load_node {w : World} {g : Nat} {x y z : Value} (c0 : w.cell? ⟨g, 0, none⟩ = some x) (c1 : w.cell? ⟨g, 1, none⟩ = some y) (c2 : w.cell? ⟨g, 2, none⟩ = some z) :
  (loadVar 85 ⟨g, 0, none⟩).run Tryz.prog w = .ok (.agg #[x, y, z]) w := by go_simp
theorem results_node {fn : Func} {p : Tmp} (h : fn.results = #[.cell p 85]) (tmps : Array Value) (w : World) (g : Nat) {x y z : Value} (hp : tmps.getD p undef = .pointer (some ⟨g, 0, none⟩))
  (c0 : w.cell? ⟨g, 0, none⟩ = some x) (c1 : w.cell? ⟨g, 1, none⟩ = some y) (c2 : w.cell? ⟨g, 2, none⟩ = some z) : (results fn tmps).run Tryz.prog w = .ok (.agg #[x, y, z]) w := by
 have hp' : tmps[p]?.getD undef = .pointer (some ⟨g, 0, none⟩) := by simpa using hp
 simp [results, h, hp', asAddr, load_node c0 c1 c2]
set_option maxHeartbeats 2000000 in
theorem toNode_any (S : Nat → Prop) (ap ax ai : Option Addr) (np cp nx cx ni ci : Nat) (x : NB) (w : World) (hP : Pr w S (.slice ap np cp) x.ps) (hS : Sr w S (.slice ax nx cx) x.keys) (hI : Ir w S (.slice ai ni ci) x.kids)
  (h1 : np ≤ 1048576) (h2 : nx ≤ 1048576) (h3 : ni ≤ 1048576) :
  Calls Tryz.prog 128 #[.agg #[.slice ap np cp, .slice ax nx cx, .slice ai ni ci]] w fun e w' => ∃ g0 g1 g2, e = .returned (.agg #[.slice (some ⟨g0, 0, none⟩) np np, .slice (some ⟨g1, 0, none⟩) nx nx, .slice (some ⟨g2, 0, none⟩) ni ni]) ∧
   w.heap.size ≤ g0 ∧ w.heap.size ≤ g1 ∧ w.heap.size ≤ g2 ∧ Bk w' g0 112 (pcs x.ps) ∧ Bk w' g1 9 (x.keys.map Value.string) ∧ Bk w' g2 3 (x.kids.map (Value.int .i64)) ∧ Below w.heap.size w w' := by
 have HP := hid hP
 have HS := hid hS
 have HI := hid hI
 clear hP hS hI
 go_enter Tryz.func128, Tryz.ntmps128
 have HB0 : Hid (Below w.heap.size w (((w.alloc (.cells #[.slice ap np cp, .slice ax nx cx, .slice ai ni ci] 172)).alloc (.cells #[.slice none 0 0, .slice none 0 0, .slice none 0 0] 85)).alloc (.cells #[.slice none 0 0, .slice none 0 0, .slice none 0 0] 85))) := below_new (below_new (below_new (Below.refl _ _)))
 have KP : Hid (Bk (((w.alloc (.cells #[.slice ap np cp, .slice ax nx cx, .slice ai ni ci] 172)).alloc (.cells #[.slice none 0 0, .slice none 0 0, .slice none 0 0] 85)).alloc (.cells #[.slice none 0 0, .slice none 0 0, .slice none 0 0] 85)) w.heap.size 172 [.slice ap np cp, .slice ax nx cx, .slice ai ni ci]) := ((Bk.new w 172 [.slice ap np cp, .slice ax nx cx, .slice ai ni ci]).alloc _).alloc _
 have KR : Hid (Bk (((w.alloc (.cells #[.slice ap np cp, .slice ax nx cx, .slice ai ni ci] 172)).alloc (.cells #[.slice none 0 0, .slice none 0 0, .slice none 0 0] 85)).alloc (.cells #[.slice none 0 0, .slice none 0 0, .slice none 0 0] 85)) (w.heap.size + 1) 85 [.slice none 0 0, .slice none 0 0, .slice none 0 0]) := by
  have := (Bk.new (w.alloc (.cells #[.slice ap np cp, .slice ax nx cx, .slice ai ni ci] 172)) 85 [.slice none 0 0, .slice none 0 0, .slice none 0 0]).alloc (.cells #[.slice none 0 0, .slice none 0 0, .slice none 0 0] 85)
  show Bk _ _ _ _
  simpa using this
 have KO : Hid (Bk (((w.alloc (.cells #[.slice ap np cp, .slice ax nx cx, .slice ai ni ci] 172)).alloc (.cells #[.slice none 0 0, .slice none 0 0, .slice none 0 0] 85)).alloc (.cells #[.slice none 0 0, .slice none 0 0, .slice none 0 0] 85)) (w.heap.size + 1 + 1) 85 [.slice none 0 0, .slice none 0 0, .slice none 0 0]) := by
  have := Bk.new ((w.alloc (.cells #[.slice ap np cp, .slice ax nx cx, .slice ai ni ci] 172)).alloc (.cells #[.slice none 0 0, .slice none 0 0, .slice none 0 0] 85)) 85 [.slice none 0 0, .slice none 0 0, .slice none 0 0]
  show Bk _ _ _ _
  simpa using this
 have HZ : Hid ((((w.alloc (.cells #[.slice ap np cp, .slice ax nx cx, .slice ai ni ci] 172)).alloc (.cells #[.slice none 0 0, .slice none 0 0, .slice none 0 0] 85)).alloc (.cells #[.slice none 0 0, .slice none 0 0, .slice none 0 0] 85)).heap.size = w.heap.size + 3) := by show _ = _; simp
 go_wp2_with fail
 refine (toPairS_at S ap np cp x.ps _ (HP.out.below HB0.out) h1).mono ?_
 generalize (((w.alloc (.cells #[.slice ap np cp, .slice ax nx cx, .slice ai ni ci] 172)).alloc (.cells #[.slice none 0 0, .slice none 0 0, .slice none 0 0] 85)).alloc (.cells #[.slice none 0 0, .slice none 0 0, .slice none 0 0] 85)) = W at *
 rintro e w1 ⟨rfl, K0, hb1⟩
 have HB1 := hid (HB0.out.trans (hb1.mono HB0.out.size))
 have KP1 := hid (KP.out.below hb1)
 have KR1 := hid (KR.out.below hb1)
 have KO1 := hid (KO.out.below hb1)
 have K01 := hid K0
 have HG0 : Hid (w.heap.size + 3 ≤ W.heap.size) := Nat.le_of_eq HZ.out.symm
 clear hb1 K0 KP KR KO HB0 HZ
 generalize W.heap.size = g0 at *
 have c0 := KO1.out.cell (j := 0) rfl
 have f0 := KO1.out.free 0
 have p1 := KP1.out.cell (j := 1) rfl
 have HG0' := HG0.out
 have HB2 : Hid (Below w.heap.size w (w1.setCell ⟨w.heap.size + 1 + 1, 0, none⟩ (.slice (some ⟨g0, 0, none⟩) np np))) := HB1.out.setCell (by show w.heap.size ≤ w.heap.size + 1 + 1; omega) _
 have KP2 := hid (KP1.out.setOther (b := w.heap.size + 1 + 1) (by omega) 0 (.slice (some ⟨g0, 0, none⟩) np np))
 have KR2 := hid (KR1.out.setOther (b := w.heap.size + 1 + 1) (by omega) 0 (.slice (some ⟨g0, 0, none⟩) np np))
 have KO2 := hid (KO1.out.set 0 (.slice (some ⟨g0, 0, none⟩) np np))
 have K02 := hid (K01.out.setOther (b := w.heap.size + 1 + 1) (by omega) 0 (.slice (some ⟨g0, 0, none⟩) np np))
 have HL : Hid (g0 < (w1.setCell ⟨w.heap.size + 1 + 1, 0, none⟩ (.slice (some ⟨g0, 0, none⟩) np np)).heap.size) := K02.out.lt
 clear HB1 KP1 KR1 KO1 K01 HG0'
 go_wp2_with fail
 refine (toStringS_at S ax nx cx x.keys _ (HS.out.below HB2.out) h2).mono ?_
 generalize w1.setCell ⟨w.heap.size + 1 + 1, 0, none⟩ (.slice (some ⟨g0, 0, none⟩) np np) = W2 at *
 clear c0 f0 p1
 rintro e w2 ⟨rfl, K1, hb2⟩
 have HB3 := hid (HB2.out.trans (hb2.mono HB2.out.size))
 have KP3 := hid (KP2.out.below hb2)
 have KR3 := hid (KR2.out.below hb2)
 have KO3 := hid (KO2.out.below hb2)
 have K03 := hid (K02.out.below hb2)
 have K13 := hid K1
 clear hb2 K1 KP2 KR2 KO2 K02 HB2
 generalize W2.heap.size = g1 at *
 have c1 := KO3.out.cell (j := 1) rfl
 have f1 := KO3.out.free 1
 have p2 := KP3.out.cell (j := 2) rfl
 have HG0' := HG0.out
 have HL' := HL.out
 have HB4 : Hid (Below w.heap.size w (w2.setCell ⟨w.heap.size + 1 + 1, 1, none⟩ (.slice (some ⟨g1, 0, none⟩) nx nx))) := HB3.out.setCell (by show w.heap.size ≤ w.heap.size + 1 + 1; omega) _
 have KR4 := hid (KR3.out.setOther (b := w.heap.size + 1 + 1) (by omega) 1 (.slice (some ⟨g1, 0, none⟩) nx nx))
 have KO4 := hid (KO3.out.set 1 (.slice (some ⟨g1, 0, none⟩) nx nx))
 have K04 := hid (K03.out.setOther (b := w.heap.size + 1 + 1) (by omega) 1 (.slice (some ⟨g1, 0, none⟩) nx nx))
 have K14 := hid (K13.out.setOther (b := w.heap.size + 1 + 1) (by omega) 1 (.slice (some ⟨g1, 0, none⟩) nx nx))
 have HL1 : Hid (g1 < (w2.setCell ⟨w.heap.size + 1 + 1, 1, none⟩ (.slice (some ⟨g1, 0, none⟩) nx nx)).heap.size) := K14.out.lt
 clear HB3 KP3 KR3 KO3 K03 K13 HG0' HL'
 go_wp2_with fail
 refine (toIntS_at S ai ni ci x.kids _ (HI.out.below HB4.out) h3).mono ?_
 generalize w2.setCell ⟨w.heap.size + 1 + 1, 1, none⟩ (.slice (some ⟨g1, 0, none⟩) nx nx) = W4 at *
 clear c1 f1 p2
 rintro e w3 ⟨rfl, K2, hb3⟩
 have HB5 := hid (HB4.out.trans (hb3.mono HB4.out.size))
 have KR5 := hid (KR4.out.below hb3)
 have KO5 := hid (KO4.out.below hb3)
 have K05 := hid (K04.out.below hb3)
 have K15 := hid (K14.out.below hb3)
 have K25 := hid K2
 clear hb3 K2 KR4 KO4 K04 K14 HB4
 generalize W4.heap.size = g2 at *
 have c0 := KO5.out.cell (j := 0) rfl
 have c1 := KO5.out.cell (j := 1) rfl
 have c2 := KO5.out.cell (j := 2) rfl
 have f2 := KO5.out.free 2
 have r0 := KR5.out.cell (j := 0) rfl
 have r1 := KR5.out.cell (j := 1) rfl
 have r2 := KR5.out.cell (j := 2) rfl
 have q0 := KR5.out.free 0
 have q1 := KR5.out.free 1
 have q2 := KR5.out.free 2
 go_wp2
 try simp only [Exit.inBlock, Exit.then]
 refine bodyPost_ret (v := .agg #[.slice (some ⟨g0, 0, none⟩) np np, .slice (some ⟨g1, 0, none⟩) nx nx, .slice (some ⟨g2, 0, none⟩) ni ni]) ?_ rfl ?_
 ·refine results_node rfl _ _ _ rfl ?_ ?_ ?_
  ·go_simp
  ·go_simp
  ·go_simp
 ·have HG0' := HG0.out
  have HL' := HL.out
  have HL1' := HL1.out
  refine ⟨g0, g1, g2, rfl, by omega, by omega, by omega, ?_, ?_, ?_, ?_⟩
  ·exact (((K05.out.setOther (by omega) _ _).setOther (by omega) _ _).setOther (by omega) _ _).setOther (by omega) _ _
  ·exact (((K15.out.setOther (by omega) _ _).setOther (by omega) _ _).setOther (by omega) _ _).setOther (by omega) _ _
  ·exact (((K25.out.setOther (by omega) _ _).setOther (by omega) _ _).setOther (by omega) _ _).setOther (by omega) _ _
  ·exact (((HB5.out.setCell (by show w.heap.size ≤ w.heap.size + 1 + 1; omega) _).setCell (by show w.heap.size ≤ w.heap.size + 1; omega) _).setCell (by show w.heap.size ≤ w.heap.size + 1; omega) _).setCell (by show w.heap.size ≤ w.heap.size + 1; omega) _
open Go.RowKit
def smallN (ns : List NB) : Prop := ∀ i, i < ns.length → (nAt ns i).ps.length ≤ 1048576 ∧ (nAt ns i).keys.length ≤ 1048576 ∧ (nAt ns i).kids.length ≤ 1048576
theorem N1.grow {w w' : World} {B : Nat} {p : V3} {x : NB} (h : N1 w (fun b => B < b ∧ Uf w b) p x) (ho : Only (fun b => b = B) w w') : N1 w' (fun b => B < b ∧ Uf w' b) p x :=
 (h.to ho (fun b hb _ e => by have := hb.1; omega)).mono (fun b hb _ => ⟨hb.1, hb.2.to ho (by have := hb.1; omega)⟩)
theorem N1.fresh {w : World} {B g0 g1 g2 : Nat} {x : NB} {np nx ni : Nat} (h0 : B < g0) (h1 : B < g1) (h2 : B < g2) (k0 : Bk w g0 112 (pcs x.ps)) (k1 : Bk w g1 9 (x.keys.map Value.string)) (k2 : Bk w g2 3 (x.kids.map (Value.int .i64)))
  (l0 : np = x.ps.length) (l1 : nx = x.keys.length) (l2 : ni = x.kids.length) (b0 : np ≤ 1048576) (b1 : nx ≤ 1048576) (b2 : ni ≤ 1048576) :
  N1 w (fun b => B < b ∧ Uf w b) (.slice (some ⟨g0, 0, none⟩) np np, .slice (some ⟨g1, 0, none⟩) nx nx, .slice (some ⟨g2, 0, none⟩) ni ni) x := by
 refine ⟨k0.pr l0 (by omega) _ ⟨h0, k0.uf⟩, ?_, ?_⟩
 ·subst l1
  exact k1.rw (Nat.le_refl _) (by omega) (fun e => by rw [List.eq_nil_of_length_eq_zero e]; rfl) _ ⟨h1, k1.uf⟩
 ·subst l2
  exact k2.rw (Nat.le_refl _) (by omega) (fun e => by rw [List.eq_nil_of_length_eq_zero e]; rfl) _ ⟨h2, k2.uf⟩
theorem vAt_set (V : List V3) (j : Nat) (p : V3) (h : j < V.length) : vAt (V.set j p) j = p := by simp [vAt, h]
theorem vAt_other (V : List V3) (j i : Nat) (p : V3) (h : i ≠ j) : vAt (V.set j p) i = vAt V i := by simp [vAt, Ne.symm h]
theorem infoNodeI : (Tryz.prog.info? 85).map (fun i => (i.zero, i.size, i.bytes)) = some (some (.agg #[.slice none 0 0, .slice none 0 0, .slice none 0 0]), 3, 72) := by kernel_rfl
theorem made_nodes (n : Nat) : madeCells (Value.agg #[.slice none 0 0, .slice none 0 0, .slice none 0 0]).cells (n * 3) = (ncs (List.replicate n (.slice none 0 0, .slice none 0 0, .slice none 0 0))).toArray := by
 apply Array.ext
 ·simp [madeCells, ncs_length]
 ·intro i h1 h2
  simp [ncs_length] at h2
  simp only [madeCells, List.getElem_toArray]
  have h3 : (ncs (List.replicate n ((.slice none 0 0, .slice none 0 0, .slice none 0 0) : V3)))[i]? = some (.slice none 0 0) := by
   obtain ⟨c0, c1, c2⟩ := ncs_at (List.replicate n ((.slice none 0 0, .slice none 0 0, .slice none 0 0) : V3)) (i / 3) (by simp; omega)
   simp [vAt, show i / 3 < n by omega] at c0 c1 c2
   have : i % 3 = 0 ∨ i % 3 = 1 ∨ i % 3 = 2 := by omega
   rcases this with e | e | e
   ·rw [show i / 3 * 3 = i by omega] at c0; exact c0
   ·rw [show i / 3 * 3 + 1 = i by omega] at c1; exact c1
   ·rw [show i / 3 * 3 + 2 = i by omega] at c2; exact c2
  have h4 := List.getElem?_eq_some_iff.1 h3
  rw [h4.2]
  have : i % 3 = 0 ∨ i % 3 = 1 ∨ i % 3 = 2 := by omega
  rcases this with e | e | e <;> simp [Value.cells, e]
set_option maxHeartbeats 4000000 in
theorem toNodeS_at (S : Nat → Prop) (a : Option Addr) (n c : Nat) (ns : List NB) (w : World) (h : Nr w S (.slice a n c) ns) (hnm : n ≤ 1048576) (hsm : smallN ns) :
  Calls Tryz.prog 88 #[.slice a n c] w fun e w' => e = .returned (.slice (some ⟨w.heap.size, 0, none⟩) n n) ∧ Nr w' (fun b => w.heap.size ≤ b ∧ Uf w' b) (.slice (some ⟨w.heap.size, 0, none⟩) n n) ns ∧ Below w.heap.size w w' := by
 have HN := hid h.len.1
 have H0 := hid h
 have HSM := hid hsm
 clear h hsm
 have hmk := run_make_n (P := Tryz.prog) 31 85 (.agg #[.slice none 0 0, .slice none 0 0, .slice none 0 0]) 3 72 Tryz.underlying31 infoNodeI n (by omega) (by omega)
 rw [made_nodes] at hmk
 have h63 : n ≤ 9223372036854775807 := by omega
 have HV0 : Hid ((List.replicate n ((.slice none 0 0, .slice none 0 0, .slice none 0 0) : V3)).length = n) := by show _ = _; simp
 generalize List.replicate n ((.slice none 0 0, .slice none 0 0, .slice none 0 0) : V3) = V0 at *
 go_enter Tryz.func88, Tryz.ntmps88
 go_wp2
 go_loopw [4] (fun i wr => ∃ (k : Nat) (V : List V3), k ≤ n ∧ i = .int .i64 k ∧ Hid (V.length = n) ∧ Hid (Bk wr w.heap.size 85 (ncs V)) ∧ Hid (∀ i, i < k → N1 wr (fun b => w.heap.size < b ∧ Uf wr b) (vAt V i) (nAt ns i)) ∧ Hid (Below w.heap.size w wr)) (fun i _ => n - (intOf i).toNat)
 case atStart => exact ⟨0, V0, Nat.zero_le _, rfl, HV0.out, Bk.new _ _ _, fun i hi => absurd hi (Nat.not_lt_zero _), (Below.refl _ _).alloc (Nat.le_refl _) _⟩
 case round =>
  obtain ⟨k, V, hk, rfl, HV, HK, HA, HB⟩ := hrel
  by_cases hlt : k < n
  ·have hlt' : (k : Int) < (n : Int) := by omega
   have HP := hid (H0.out.below HB.out)
   obtain ⟨b, off, rfl, _, hbw, hcell⟩ := HP.out.at (by omega)
   obtain ⟨ap, np, cp, ax, nx, cx, ai, ni, ci, c0, c1, c2, hp, hx, hi⟩ := hcell k hlt
   obtain ⟨s1, s2, s3⟩ := HSM.out k (by rw [← HN.out]; exact hlt)
   have l0 := hid (Rw.len hp).1
   have l1 := hid (Rw.len hx).1
   have l2 := hid (Rw.len hi).1
   have b0 : np ≤ 1048576 := by rw [l0.out]; exact s1
   have b1 : nx ≤ 1048576 := by rw [l1.out]; exact s2
   have b2 : ni ≤ 1048576 := by rw [l2.out]; exact s3
   have HPp := hid hp
   have HPx := hid hx
   have HPi := hid hi
   have HWL : Hid (w.heap.size < wr.heap.size) := HK.out.lt
   clear hcell hbw HP hp hx hi s1 s2 s3
   go_wp2_with fail
   refine (toNode_any S ap ax ai np cp nx cx ni ci (nAt ns k) wr HPp.out HPx.out HPi.out b0 b1 b2).mono ?_
   rintro e w1 ⟨g0, g1, g2, rfl, e0, e1, e2, k0, k1, k2, hb1⟩
   have HK1 := hid (HK.out.below hb1)
   have HB1 := hid (HB.out.trans (hb1.mono HB.out.size))
   have HWL' := HWL.out
   have HA1 : Hid (∀ i, i < k → N1 w1 (fun b => w.heap.size < b ∧ Uf w1 b) (vAt V i) (nAt ns i)) := fun i hi => (HA.out i hi).grow (only_of_below hb1 _)
   have HN1 : Hid (N1 w1 (fun b => w.heap.size < b ∧ Uf w1 b) (.slice (some ⟨g0, 0, none⟩) np np, .slice (some ⟨g1, 0, none⟩) nx nx, .slice (some ⟨g2, 0, none⟩) ni ni) (nAt ns k)) := N1.fresh (by omega) (by omega) (by omega) k0 k1 k2 l0.out l1.out l2.out b0 b1 b2
   clear hb1 HA HB k0 k1 k2 e0 e1 e2 HWL' c0 c1 c2 HPp HPx HPi
   obtain ⟨d0, d1, d2⟩ := ncs_at V k (by rw [HV.out]; exact hlt)
   have c0 := HK1.out.cell d0
   have c1 := HK1.out.cell d1
   have c2 := HK1.out.cell d2
   have f0 := HK1.out.free (k * 3)
   have f1 := HK1.out.free (k * 3 + 1)
   have f2 := HK1.out.free (k * 3 + 2)
   clear d0 d1 d2
   have HO : Hid (Only (fun b => b = w.heap.size) w1 (((w1.setCell ⟨w.heap.size, k * 3, none⟩ (.slice (some ⟨g0, 0, none⟩) np np)).setCell ⟨w.heap.size, k * 3 + 1, none⟩ (.slice (some ⟨g1, 0, none⟩) nx nx)).setCell ⟨w.heap.size, k * 3 + 2, none⟩ (.slice (some ⟨g2, 0, none⟩) ni ni))) := ((only_set (R := fun b => b = w.heap.size) rfl _).trans (only_set (R := fun b => b = w.heap.size) rfl _)).trans (only_set (R := fun b => b = w.heap.size) rfl _)
   have HK2 : Hid (Bk (((w1.setCell ⟨w.heap.size, k * 3, none⟩ (.slice (some ⟨g0, 0, none⟩) np np)).setCell ⟨w.heap.size, k * 3 + 1, none⟩ (.slice (some ⟨g1, 0, none⟩) nx nx)).setCell ⟨w.heap.size, k * 3 + 2, none⟩ (.slice (some ⟨g2, 0, none⟩) ni ni)) w.heap.size 85 (ncs (V.set k (.slice (some ⟨g0, 0, none⟩) np np, .slice (some ⟨g1, 0, none⟩) nx nx, .slice (some ⟨g2, 0, none⟩) ni ni)))) := by
    show Bk _ _ _ _
    rw [ncs_set _ _ _ (by rw [HV.out]; exact hlt)]
    exact ((HK1.out.set _ _).set _ _).set _ _
   have HB2 : Hid (Below w.heap.size w (((w1.setCell ⟨w.heap.size, k * 3, none⟩ (.slice (some ⟨g0, 0, none⟩) np np)).setCell ⟨w.heap.size, k * 3 + 1, none⟩ (.slice (some ⟨g1, 0, none⟩) nx nx)).setCell ⟨w.heap.size, k * 3 + 2, none⟩ (.slice (some ⟨g2, 0, none⟩) ni ni))) := ((HB1.out.setCell (Nat.le_refl _) _).setCell (Nat.le_refl _) _).setCell (Nat.le_refl _) _
   have HA2 : Hid (∀ i, i < k + 1 → N1 (((w1.setCell ⟨w.heap.size, k * 3, none⟩ (.slice (some ⟨g0, 0, none⟩) np np)).setCell ⟨w.heap.size, k * 3 + 1, none⟩ (.slice (some ⟨g1, 0, none⟩) nx nx)).setCell ⟨w.heap.size, k * 3 + 2, none⟩ (.slice (some ⟨g2, 0, none⟩) ni ni)) (fun b => w.heap.size < b ∧ Uf (((w1.setCell ⟨w.heap.size, k * 3, none⟩ (.slice (some ⟨g0, 0, none⟩) np np)).setCell ⟨w.heap.size, k * 3 + 1, none⟩ (.slice (some ⟨g1, 0, none⟩) nx nx)).setCell ⟨w.heap.size, k * 3 + 2, none⟩ (.slice (some ⟨g2, 0, none⟩) ni ni)) b) (vAt (V.set k (.slice (some ⟨g0, 0, none⟩) np np, .slice (some ⟨g1, 0, none⟩) nx nx, .slice (some ⟨g2, 0, none⟩) ni ni)) i) (nAt ns i)) := by
    intro i hi
    by_cases e : i = k
    ·subst e
     rw [vAt_set _ _ _ (by rw [HV.out]; exact hlt)]
     exact HN1.out.grow HO.out
    ·rw [vAt_other _ _ _ _ e]
     exact (HA1.out i (by omega)).grow HO.out
   have HV2 : Hid ((V.set k (.slice (some ⟨g0, 0, none⟩) np np, .slice (some ⟨g1, 0, none⟩) nx nx, .slice (some ⟨g2, 0, none⟩) ni ni)).length = n) := by show _ = _; rw [List.length_set]; exact HV.out
   clear HO HN1 HA1 HB1
   generalize (vAt V k).1 = o0 at c0
   generalize (vAt V k).2.1 = o1 at c1
   generalize (vAt V k).2.2 = o2 at c2
   go_wp2
   go_roundw
   case rel => exact ⟨k + 1, _, by omega, by go_num, HV2.out, HK2.out, HA2.out, HB2.out⟩
   case measure => simp [intOf]; omega
  ·have hk' : k = n := by omega
   have HR : Hid (Nr wr (fun b => w.heap.size ≤ b ∧ Uf wr b) (.slice (some ⟨w.heap.size, 0, none⟩) n n) ns) := by
    refine ⟨V, by rw [HV.out, HN.out], ?_, fun i hi => (HA.out i (by rw [hk', HN.out]; exact hi)).mono (fun b hb _ => ⟨Nat.le_of_lt hb.1, hb.2⟩)⟩
    rw [← HN.out]
    exact HK.out.rw (Nat.le_refl _) h63 (fun e => List.eq_nil_of_length_eq_zero (by rw [ncs_length, HV.out, e])) _ ⟨Nat.le_refl _, HK.out.uf⟩
   clear hk'
   go_wp2
   go_ret
   exact ⟨rfl, HR.out, HB.out⟩
theorem load_tree {w : World} {g : Nat} {x : Value} (c0 : w.cell? ⟨g, 0, none⟩ = some x) : (loadVar 33 ⟨g, 0, none⟩).run Tryz.prog w = .ok (.agg #[x]) w := by go_simp
theorem results_tree {fn : Func} {p : Tmp} (h : fn.results = #[.cell p 33]) (tmps : Array Value) (w : World) (g : Nat) {x : Value} (hp : tmps.getD p undef = .pointer (some ⟨g, 0, none⟩))
  (c0 : w.cell? ⟨g, 0, none⟩ = some x) : (results fn tmps).run Tryz.prog w = .ok (.agg #[x]) w := by
 have hp' : tmps[p]?.getD undef = .pointer (some ⟨g, 0, none⟩) := by simpa using hp
 simp [results, h, hp', asAddr, load_tree c0]
set_option maxHeartbeats 2000000 in
theorem toTree_at (S : Nat → Prop) (a : Option Addr) (n c : Nat) (ns : List NB) (w : World) (h : Nr w S (.slice a n c) ns) (hnm : n ≤ 1048576) (hsm : smallN ns) :
  Calls Tryz.prog 47 #[.agg #[.slice a n c]] w fun e w' => ∃ g, e = .returned (.agg #[.slice (some ⟨g, 0, none⟩) n n]) ∧ Nr w' (fun b => w.heap.size ≤ b ∧ Uf w' b) (.slice (some ⟨g, 0, none⟩) n n) ns ∧ Below w.heap.size w w' := by
 have H0 := hid h
 clear h
 have HB0 : Hid (Below w.heap.size w (((w.alloc (.cells #[.slice a n c] 47)).alloc (.cells #[.slice none 0 0] 33)).alloc (.cells #[.slice none 0 0] 33))) := below_new (below_new (below_new (Below.refl _ _)))
 have KR : Hid (Bk (((w.alloc (.cells #[.slice a n c] 47)).alloc (.cells #[.slice none 0 0] 33)).alloc (.cells #[.slice none 0 0] 33)) (w.heap.size + 1) 33 [.slice none 0 0]) := by
  have := (Bk.new (w.alloc (.cells #[.slice a n c] 47)) 33 [.slice none 0 0]).alloc (.cells #[.slice none 0 0] 33)
  show Bk _ _ _ _
  simpa using this
 have KO : Hid (Bk (((w.alloc (.cells #[.slice a n c] 47)).alloc (.cells #[.slice none 0 0] 33)).alloc (.cells #[.slice none 0 0] 33)) (w.heap.size + 1 + 1) 33 [.slice none 0 0]) := by
  have := Bk.new ((w.alloc (.cells #[.slice a n c] 47)).alloc (.cells #[.slice none 0 0] 33)) 33 [.slice none 0 0]
  show Bk _ _ _ _
  simpa using this
 have HZ : Hid ((((w.alloc (.cells #[.slice a n c] 47)).alloc (.cells #[.slice none 0 0] 33)).alloc (.cells #[.slice none 0 0] 33)).heap.size = w.heap.size + 3) := by show _ = _; simp
 go_enter Tryz.func47, Tryz.ntmps47
 go_wp2_with fail
 refine (toNodeS_at S a n c ns _ (H0.out.below HB0.out) hnm hsm).mono ?_
 generalize ((w.alloc (.cells #[.slice a n c] 47)).alloc (.cells #[.slice none 0 0] 33)).alloc (.cells #[.slice none 0 0] 33) = W at *
 rintro e w1 ⟨rfl, K0, hb1⟩
 have HB1 := hid (HB0.out.trans (hb1.mono HB0.out.size))
 have KR1 := hid (KR.out.below hb1)
 have KO1 := hid (KO.out.below hb1)
 have K01 := hid K0
 clear hb1 K0 KR KO HB0
 generalize W.heap.size = g at *
 have c0 := KO1.out.cell (j := 0) rfl
 have f0 := KO1.out.free 0
 have r0 := KR1.out.cell (j := 0) rfl
 have q0 := KR1.out.free 0
 go_wp2
 try simp only [Exit.inBlock, Exit.then]
 refine bodyPost_ret (v := .agg #[.slice (some ⟨g, 0, none⟩) n n]) ?_ rfl ?_
 ·refine results_tree rfl _ _ _ rfl ?_
  ·go_simp
 ·have HZ' := HZ.out
  have O1 : Only (fun b => b < g) w1 ((w1.setCell ⟨w.heap.size + 1 + 1, 0, none⟩ (.slice (some ⟨g, 0, none⟩) n n)).setCell ⟨w.heap.size + 1, 0, none⟩ (.slice (some ⟨g, 0, none⟩) n n)) := (only_set (R := fun b => b < g) (by show w.heap.size + 1 + 1 < g; omega) _).trans (only_set (R := fun b => b < g) (by show w.heap.size + 1 < g; omega) _)
  refine ⟨g, rfl, ?_, (HB1.out.setCell (by show w.heap.size ≤ w.heap.size + 1 + 1; omega) _).setCell (by show w.heap.size ≤ w.heap.size + 1; omega) _⟩
  exact (K01.out.to O1 (fun b hb _ h => by have := hb.1; omega)).mono (fun b hb _ => ⟨by have := hb.1; omega, hb.2.to O1 (by have := hb.1; omega)⟩)
open Go.RowKit
def tAt (ks : List T) (i : Nat) : T := ks[i]?.getD default
def ptr (b : Nat) : Value := .pointer (some ⟨b, 0, none⟩)
def ptrs (A : Nat → Nat) (n : Nat) : List Value := (List.range n).map fun i => ptr (A i)
theorem ptrs_at (A : Nat → Nat) (n i : Nat) (h : i < n) : (ptrs A n)[i]? = some (ptr (A i)) := by simp [ptrs, h]
inductive Limb (w : World) : (Nat → Prop) → Nat → T → Prop
 | mk (S : Nat → Prop) (b : Nat) (pv kv : Value) (ps : List PB) (ks : List T) (A : Nat → Nat) (SS : Nat → Nat → Prop)
   (hb : S b) (hB : Bk w b 195 [pv, kv])
   (hP : w.ownsRow 0 112 2 pv ps.length (pcs ps)) (hK : w.ownsRow 0 165 1 kv ks.length (ptrs A ks.length))
   (hPS : ∀ x, pv.ownBlock = some x → S x ∧ x ≠ b) (hKS : ∀ x, kv.ownBlock = some x → S x ∧ x ≠ b ∧ pv.ownBlock ≠ some x)
   (hSS : ∀ i, i < ks.length → ∀ x, SS i x → S x ∧ x ≠ b ∧ pv.ownBlock ≠ some x ∧ kv.ownBlock ≠ some x)
   (hD : ∀ i j, i < ks.length → j < ks.length → i ≠ j → ∀ x, SS i x → ¬ SS j x)
   (hk : ∀ i, i < ks.length → Limb w (SS i) (A i) (tAt ks i)) : Limb w S b (.mk ps ks)
theorem Limb.to {w w' : World} {R : Nat → Prop} (ho : Only R w w') {S : Nat → Prop} {b : Nat} {t : T} (h : Limb w S b t) : (∀ x, S x → ¬ R x) → Limb w' S b t := by
 induction h with
 | mk S b pv kv ps ks A SS hb hB hP hK hPS hKS hSS hD hk ih =>
  intro hR
  exact .mk S b pv kv ps ks A SS hb (hB.to ho (hR b hb)) (own_kept hP ho fun k e => hR k (hPS k e).1) (own_kept hK ho fun k e => hR k (hKS k e).1) hPS hKS hSS hD
   (fun i hi => ih i hi (fun x hx => hR x (hSS i hi x hx).1))
theorem Limb.mono {w : World} {S S' : Nat → Prop} {b : Nat} {t : T} (h : Limb w S b t) (hS : ∀ x, S x → S' x) : Limb w S' b t := by
 cases h with
 | mk _ _ pv kv ps ks A SS hb hB hP hK hPS hKS hSS hD hk =>
  exact .mk S' b pv kv ps ks A SS (hS b hb) hB hP hK (fun x hx => ⟨hS x (hPS x hx).1, (hPS x hx).2⟩) (fun x hx => ⟨hS x (hKS x hx).1, (hKS x hx).2⟩) (fun i hi x hx => ⟨hS x (hSS i hi x hx).1, (hSS i hi x hx).2⟩) hD hk
theorem Limb.kept {w w' : World} {S : Nat → Prop} {b : Nat} {t : T} (h : Limb w S b t) (hb : Below w.heap.size w w') : Limb w' S b t := h.to (only_of_below hb (fun _ => False)) (fun _ _ h => h)
theorem own_max {w : World} {base : Nat} {e : TypeId} {size : Nat} {v : Value} {n : Nat} {xs : List Value} (h : w.ownsRow base e size v n xs) : n ≤ maxLen := by
 rcases h.2 with ⟨rfl, rfl⟩ | ⟨g, cap, cur, rfl, _, _, h5, h6, _⟩
 ·exact Nat.zero_le _
 ·exact Nat.le_trans h5 h6
theorem undrew (w : World) (q : Nat) : Below (w.drewN q).heap.size (w.drewN q) w := ⟨rfl, rfl, rfl, Nat.le_refl _, fun _ _ => rfl⟩
theorem Limb.see {w : World} {S : Nat → Prop} {b : Nat} {t : T} (h : Limb w S b t) : ∃ ap cp ak ck A, w.cell? ⟨b, 0, none⟩ = some (.slice ap t.ps.length cp) ∧ w.cell? ⟨b, 1, none⟩ = some (.slice ak t.ks.length ck) ∧
  Pr w S (.slice ap t.ps.length cp) t.ps ∧ Rw w S (.slice ak t.ks.length ck) t.ks.length (ptrs A t.ks.length) ∧ (∀ i, i < t.ks.length → ∃ S', (∀ x, S' x → S x) ∧ Limb w S' (A i) (tAt t.ks i)) ∧ t.ps.length ≤ maxLen ∧ t.ks.length ≤ maxLen := by
 cases h with
 | mk _ _ pv kv ps ks A SS hb hB hP hK hPS hKS hSS hD hk =>
  obtain ⟨ap, cp, rfl⟩ := own_shape hP
  obtain ⟨ak, ck, rfl⟩ := own_shape hK
  exact ⟨ap, cp, ak, ck, A, hB.cell (j := 0) rfl, hB.cell (j := 1) rfl, rw_own hP (fun k e _ _ => (hPS k e).1), rw_own hK (fun k e _ _ => (hKS k e).1), fun i hi => ⟨SS i, fun x hx => (hSS i hi x hx).1, hk i hi⟩, own_max hP, own_max hK⟩
theorem isLeaf_any (S : Nat → Prop) (b : Nat) (t : T) (w : World) (h : Limb w S b t) : Calls Tryz.prog 192 #[.pointer (some ⟨b, 0, none⟩)] w fun e w' => e = .returned (.bool (decide (t.ks.length = 0))) ∧ w' = w := by
 obtain ⟨ap, cp, ak, ck, A, c0, c1, _, _, _, _, _⟩ := h.see
 clear h
 generalize t.ks.length = n at *
 by_cases hn : n = 0
 ·subst hn
  go_enter Tryz.func192, Tryz.ntmps192
  go_wp2
  go_ret
  exact ⟨rfl, rfl⟩
 ·have HE : Hid (decide (n = 0) = false) := decide_eq_false hn
  have hn' : ((n : Int) == 0) = false := by simp; omega
  go_enter Tryz.func192, Tryz.ntmps192
  go_wp2
  go_ret
  exact ⟨by rw [HE.out]; rfl, rfl⟩
def T.bare (t : T) : Bool := decide (t.ps.length + t.ks.length = 0)
theorem isBare_any (S : Nat → Prop) (b : Nat) (t : T) (w : World) (h : Limb w S b t) (hs : t.ps.length + t.ks.length ≤ 1048576) : Calls Tryz.prog 193 #[.pointer (some ⟨b, 0, none⟩)] w fun e w' => e = .returned (.bool t.bare) ∧ ∃ q, w' = w.drewN q := by
 obtain ⟨ap, cp, ak, ck, A, c0, c1, _, _, _, _, _⟩ := h.see
 clear h
 have HE : t.bare = decide (t.ps.length + t.ks.length = 0) := rfl
 generalize t.ks.length = n at *
 generalize t.ps.length = m at *
 generalize t.bare = Z at *
 have hz : ((m : Int) + (n : Int) == 0) = Z := by
  rw [HE]
  by_cases h : m + n = 0
  ·rw [decide_eq_true h]; simp; omega
  ·rw [decide_eq_false h]; simp; omega
 clear HE
 have hw : IntKind.i64.wrap ((m : Int) + (n : Int)) = (m : Int) + (n : Int) := by rw [IntKind.wrap_i64]; omega
 go_enter Tryz.func193, Tryz.ntmps193
 go_wp2
 go_quiet (fail)
 go_wp2
 go_ret
 exact ⟨rfl, _, rfl⟩
def T.ne : T → Prop
 | .mk ps [] => ps ≠ []
 | .mk _ (k :: _) => k.ne
set_option maxHeartbeats 2000000 in
theorem least_any (S : Nat → Prop) (b : Nat) (t : T) (w : World) (h : Limb w S b t) (hne : t.ne) : Calls Tryz.prog 184 #[.pointer (some ⟨b, 0, none⟩)] w fun e w' => e = .returned (.string t.least) ∧ ∃ q, w' = w.drewN q := by
 have H0 := hid h
 have HE := hid hne
 clear h hne
 go_enter Tryz.func184, Tryz.ntmps184
 go_wp2_with fail
 go_loopg [0] t.lv (fun k p wr => ∃ (b' : Nat) (S' : Nat → Prop) (t' : T) (q : Nat), p = .pointer (some ⟨b', 0, none⟩) ∧ wr = w.drewN q ∧ Hid (Limb w S' b' t') ∧ Hid (t'.ne ∧ t'.least = t.least ∧ k = t'.lv))
 case atStart => exact ⟨b, S, t, 0, rfl, rfl, H0.out, HE.out, rfl, rfl⟩
 case round =>
  obtain ⟨b', S', t', q, rfl, rfl, HL, HT⟩ := hrel
  have HL1 := hid (HL.out.kept (Below.drewN' (Below.refl _ _) q))
  go_wp2_with fail
  refine (isLeaf_any S' b' t' _ HL1.out).mono ?_
  rintro e w1 ⟨rfl, rfl⟩
  obtain ⟨ps, ks⟩ := t'
  obtain ⟨ap, cp, ak, ck, A, c0, c1, hp, hk, hkid, _, _⟩ := HL1.out.see
  cases ks with
  | nil =>
   obtain ⟨p, ps', rfl⟩ : ∃ p ps', ps = p :: ps' := List.exists_cons_of_ne_nil HT.out.1
   obtain ⟨x, off, rfl, _, _, hc⟩ := hp.at (by simp [T.ps])
   have d0 := (hc 0 (by simp [T.ps])).1
   simp only [T.ps, T.ks, pAtB, Nat.zero_mul, Nat.add_zero, List.length_cons, List.length_nil, List.getElem?_cons_zero, Option.getD_some, decide_true] at *
   have HR : Hid (p.1 = t.least) := HT.out.2.1
   obtain ⟨p1, p2⟩ := p
   simp only at d0 HR
   clear hc hk hkid hp
   go_wp2
   go_ret
   exact ⟨by rw [← HR.out]; rfl, q, rfl⟩
  | cons k ks =>
   obtain ⟨x, off, rfl, _, _, hc⟩ := Rw.at hk (by simp [T.ks])
   have d0 := hc 0 _ (ptrs_at A _ 0 (by simp [T.ks]))
   obtain ⟨S1, _, hk0⟩ := hkid 0 (by simp [T.ks])
   have HK0 : Hid (Limb w S1 (A 0) k) := by
    have : tAt (T.mk ps (k :: ks)).ks 0 = k := rfl
    rw [this] at hk0
    exact hk0.kept (undrew w q)
   have hz : decide ((T.mk ps (k :: ks)).ks.length = 0) = false := rfl
   rw [hz]
   simp only [T.ps, T.ks, Nat.add_zero, List.length_cons, ptr] at *
   have hpos : (0 : Int) < (ks.length : Int) + 1 := by omega
   clear hc hk hkid hp hk0 hz
   go_wp2
   go_roundg k.lv
   case measure => have := HT.out.2.2; simp [T.lv] at this; omega
   case rel => exact ⟨A 0, S1, k, q, rfl, rfl, HK0.out, HT.out.1, HT.out.2.1, rfl⟩
def T.dpt (t : T) : Nat := if t.bare = true then 0 else t.lv
set_option maxHeartbeats 2000000 in
theorem depth_any (S : Nat → Prop) (b : Nat) (t : T) (w : World) (h : Limb w S b t) (hs : t.ps.length + t.ks.length ≤ 1048576) (hlv : t.lv ≤ 1048576) : Calls Tryz.prog 185 #[.pointer (some ⟨b, 0, none⟩)] w fun e w' => e = .returned (.int .i64 (t.dpt : Int)) ∧ ∃ q, w' = w.drewN q := by
 have H0 := hid h
 clear h
 have HD : Hid (t.dpt = if t.bare = true then 0 else t.lv) := rfl
 go_enter Tryz.func185, Tryz.ntmps185
 go_wp2_with fail
 refine (isBare_any S b t _ H0.out hs).mono ?_
 rintro e w0 ⟨rfl, q0, rfl⟩
 cases hbare : t.bare
 ·have HD1 : Hid (t.dpt = t.lv) := by show _ = _; rw [HD.out, hbare]; rfl
  clear HD hbare
  go_wp2_with fail
  go_loopg [0, 3] t.lv (fun k p d wr => ∃ (b' : Nat) (S' : Nat → Prop) (t' : T) (q m : Nat), p = .pointer (some ⟨b', 0, none⟩) ∧ d = .int .i64 (m : Int) ∧ wr = w.drewN q ∧ Hid (Limb w S' b' t') ∧ Hid (t'.lv + m = t.lv + 1 ∧ k = t'.lv))
  case atStart => exact ⟨b, S, t, q0, 1, rfl, rfl, rfl, H0.out, rfl, rfl⟩
  case round =>
   obtain ⟨b', S', t', q, m, rfl, rfl, rfl, HL, HT⟩ := hrel
   have HL1 := hid (HL.out.kept (Below.drewN' (Below.refl _ _) q))
   go_wp2_with fail
   refine (isLeaf_any S' b' t' _ HL1.out).mono ?_
   rintro e w1 ⟨rfl, rfl⟩
   obtain ⟨ps, ks⟩ := t'
   obtain ⟨ap, cp, ak, ck, A, c0, c1, hp, hk, hkid, _, _⟩ := HL1.out.see
   cases ks with
   | nil =>
    have HR : Hid ((m : Int) = (t.dpt : Int)) := by
     show _ = _
     have := HT.out.1
     rw [HD1.out]
     simp [T.lv] at this
     omega
    clear hk hkid hp
    go_wp2
    go_ret
    exact ⟨by rw [← HR.out]; rfl, q, rfl⟩
   | cons k ks =>
    obtain ⟨x, off, rfl, _, _, hc⟩ := Rw.at hk (by simp [T.ks])
    have d0 := hc 0 _ (ptrs_at A _ 0 (by simp [T.ks]))
    obtain ⟨S1, _, hk0⟩ := hkid 0 (by simp [T.ks])
    have HK0 : Hid (Limb w S1 (A 0) k) := by
     have : tAt (T.mk ps (k :: ks)).ks 0 = k := rfl
     rw [this] at hk0
     exact hk0.kept (undrew w q)
    have hz : decide ((T.mk ps (k :: ks)).ks.length = 0) = false := rfl
    rw [hz]
    have hm : m ≤ 1048577 := by have := HT.out.1; simp [T.lv] at this; omega
    simp only [T.ps, T.ks, Nat.add_zero, List.length_cons, ptr] at *
    have hpos : (0 : Int) < (ks.length : Int) + 1 := by omega
    clear hc hk hkid hp hk0 hz
    go_wp2
    go_roundg k.lv
    case measure => have := HT.out.2; simp [T.lv] at this; omega
    case rel => exact ⟨A 0, S1, k, q, m + 1, rfl, by go_num, rfl, HK0.out, by have := HT.out.1; simp [T.lv] at this; omega, rfl⟩
 ·have HD1 : Hid (t.dpt = 0) := by show _ = _; rw [HD.out, hbare]; rfl
  clear HD hbare
  go_wp2
  go_ret
  exact ⟨by rw [HD1.out]; rfl, q0, rfl⟩
open Go.RowKit
def Ow (w : World) (base : Nat) (v : Value) (l : List PB) : Prop := w.ownsRow base 112 2 v l.length (pcs l)
theorem Ow.to {w w' : World} {R : Nat → Prop} {base : Nat} {v : Value} {l : List PB} (h : Ow w base v l) (ho : Only R w w') (hR : ∀ k, v.ownBlock = some k → ¬ R k) : Ow w' base v l := own_kept h ho hR
theorem Ow.kept {w w' : World} {base : Nat} {v : Value} {l : List PB} (h : Ow w base v l) (hb : Below w.heap.size w w') : Ow w' base v l := h.to (only_of_below hb (fun _ => False)) (fun _ _ h => h)
theorem Ow.pr {w : World} {base : Nat} {v : Value} {l : List PB} (h : Ow w base v l) {S : Nat → Prop} (hS : ∀ k, v.ownBlock = some k → base ≤ k → k < w.heap.size → S k) : Pr w S v l := rw_own h hS
theorem Ow.shape' {w : World} {base : Nat} {v : Value} {l : List PB} (h : Ow w base v l) : ∃ a n c, v = .slice a n c ∧ Hid (n = l.length) := by
 obtain ⟨a, c, rfl⟩ := own_shape h
 exact ⟨a, _, c, rfl, rfl⟩
theorem ow_nil (w : World) (base : Nat) : Ow w base (.slice none 0 0) [] := World.ownsRow_nil w base _ _
theorem wpList_append_pairs {w : World} {ops : Array Oper} {rest : List Oper} {o : Oper} {a : Act} {Q : Exit → Act → World → Prop} (hgd : o.guard = none) (s x : Operand)
  (ho : o.op = .call { callee := .builtin .append, args := #[s, x], argTypes := #[82, 82] }) (base : Nat) (v : Value) (l : List PB) (hs : a.eval s = v) (hown : Ow w base v l)
  (S : Nat → Prop) (src : Value) (m : List PB) (hx : a.eval x = src) (hsrc : Pr w S src m) (hb : l.length + m.length ≤ 2097154) (hbase : base ≤ w.heap.size)
  (h : ∀ v' w', Ow w' base v' (l ++ m) → w.grownBy w' v.ownBlock → wpList Tryz.prog ops Q rest (a.put o.dst v') w') : wpList Tryz.prog ops Q (o :: rest) a w := by
 obtain ⟨i, hi, hz, hsz, hby⟩ := info_of infoPairI
 refine wpList_append_row hgd s x 82 ho base 112 i _ 2 32 Tryz.underlying82 hi hz hsz hby rfl (by decide) v l.length (pcs l) hs hown S src m.length (pcs m) hx hsrc (pcs_length m) (pcs_one m) (by unfold maxLen; omega) (by omega) hbase ?_
 intro v' w' h1 h2
 refine h v' w' ?_ h2
 unfold Ow
 rw [List.length_append, pcs_append]
 exact h1
theorem only_of_belowB {B : Nat} {w w' : World} (h : Below B w w') : Only (fun b => B ≤ b) w w' := ⟨h.os, h.tape, h.output, h.size, fun b _ hn => h.block b (by omega)⟩
theorem grown_belowB {w w' : World} {base : Nat} {v : Value} {l : List PB} (h : Ow w base v l) (hg : w.grownBy w' v.ownBlock) (hB : base ≤ w.heap.size) : Below base w w' := (Below.refl _ _).grown hg hB fun k hk => (World.ownsRow.lt h k hk).1
theorem allL_take (ks : List T) (k : Nat) (h : k < ks.length) : allL (ks.take (k + 1)) = allL (ks.take k) ++ (tAt ks k).all := by
 induction ks generalizing k with
 | nil => simp at h
 | cons x ks ih =>
  cases k with
  | zero => simp [allL, tAt]
  | succ k =>
   have := ih k (by simpa using h)
   simp only [List.take_succ_cons, allL, this, List.append_assoc]
   rfl
theorem allL_take_le (ks : List T) (k : Nat) : (allL (ks.take k)).length ≤ (allL ks).length := by
 induction ks generalizing k with
 | nil => simp [allL]
 | cons x ks ih =>
  cases k with
  | zero => simp [allL]
  | succ k =>
   have := ih k
   simp only [List.take_succ_cons, allL, List.length_append]
   omega
set_option maxHeartbeats 4000000 in
theorem all_any (t : T) : ∀ (S : Nat → Prop) (b : Nat) (w : World) (base : Nat) (v : Value) (l : List PB), Limb w S b t → (∀ x, S x → x < base) → base ≤ w.heap.size → Ow w base v l → l.length + t.all.length ≤ 1048576 →
  Calls Tryz.prog 153 #[.pointer (some ⟨b, 0, none⟩), v] w fun e w' => ∃ v', e = .returned v' ∧ Ow w' base v' (l ++ t.all) ∧ Below base w w' := by
 induction t using T.ind
 rename_i ps ks ih
 intro S b w base v l hL hS hbase hO hlen
 have H0 := hid hL
 have HO := hid hO
 have HS := hid hS
 have HIH := hid ih
 have HLE := hid hlen
 obtain ⟨ap, cp, ak, ck, A, c0, c1, hp, hk, hkid, _, _⟩ := hL.see
 have HP := hid hp
 have HK := hid hk
 obtain ⟨av, nv, cv, hv, HNV⟩ := hO.shape'
 have HLP : Hid (l.length + ps.length + (allL ks).length ≤ 1048576) := by
  show _ ≤ _
  have := hlen
  simp [T.all] at this
  omega
 simp only [T.ps, T.ks] at *
 clear hL hO hS ih hlen hp hk hkid
 subst hv
 go_enter Tryz.func153, Tryz.ntmps153
 go_wp2_with (at_builtin; refine wpList_append_pairs rfl _ _ rfl base _ l rfl HO.out S _ ps rfl HP.out ?b1 ?b2 ?_)
 case b1 => have := HLP.out; omega
 case b2 => exact hbase
 intro v1 w1 hO1 hg1
 have HB1 := hid (grown_belowB HO.out hg1 hbase)
 have HO1 := hid hO1
 have HL1 := hid (H0.out.to (only_of_belowB HB1.out) (fun x hx h => by have := HS.out x hx; omega))
 obtain ⟨a1, n1, cc1, hv1, HN1⟩ := hO1.shape'
 clear hO1 hg1
 subst hv1
 clear c0 c1 HP HK
 obtain ⟨ap', cp', ak', ck', A', c0, c1, hp, hk, hkid, m1, m2⟩ := HL1.out.see
 have HK := hid hk
 have HKID := hid hkid
 simp only [T.ps, T.ks] at c0 c1 m2
 have hm2 : ks.length ≤ 9223372036854775807 := m2
 clear hp hk hkid m1 m2
 generalize hn : ks.length = n at *
 have HN := hid hn
 clear hn
 go_wp2_with fail
 go_loopw [1, 18] (fun x i wr => ∃ (k : Nat) (v' : Value), k ≤ n ∧ i = .int .i64 k ∧ x = v' ∧ Hid (Ow wr base v' (l ++ ps ++ allL (ks.take k))) ∧ Hid (Below base w1 wr) ∧ Hid (Below base w wr)) (fun _ i _ => n - (intOf i).toNat)
 case atStart => exact ⟨0, _, Nat.zero_le _, rfl, rfl, by show Ow _ _ _ _; simpa [allL] using HO1.out, Below.refl _ _, HB1.out⟩
 case round =>
  obtain ⟨k, v', hk, rfl, hv', HO2, HB12, HB2⟩ := hrel
  obtain ⟨a2, n2, cc2, hv2, HN2⟩ := HO2.out.shape'
  subst hv2
  subst hv'
  by_cases hlt : k < n
  ·have hlt' : (k : Int) < (n : Int) := by omega
   have HL2 := hid (H0.out.to (only_of_belowB HB2.out) (fun x hx h => by have := HS.out x hx; omega))
   have hks : k < ks.length := by rw [HN.out]; exact hlt
   obtain ⟨x, off, rfl, hSx, hxw, hc⟩ := Rw.at (HK.out.to (only_of_belowB HB12.out) (fun x hx _ h => by have := HS.out x hx; omega)) (by simp only [T.ks]; omega)
   have d0 := hc k _ (ptrs_at A' _ k (by simp only [T.ks]; omega))
   obtain ⟨S1, hS1, hk0⟩ := HKID.out k (by simp only [T.ks]; omega)
   have HK0 := hid (hk0.to (only_of_belowB HB12.out) (fun x hx h => by have := HS.out x (hS1 x hx); omega))
   have HS1 : Hid (∀ x, S1 x → x < base) := fun x hx => HS.out x (hS1 x hx)
   have HTK : Hid (allL (ks.take (k + 1)) = allL (ks.take k) ++ (tAt ks k).all) := allL_take ks k hks
   have HLEN : Hid ((l ++ ps ++ allL (ks.take k)).length + (tAt ks k).all.length ≤ 1048576) := by
    show _ ≤ _
    have h1 := allL_take_le ks (k + 1)
    have h2 := HLP.out
    rw [HTK.out] at h1
    simp only [List.length_append] at h1 ⊢
    omega
   have HMEM : Hid (tAt ks k ∈ ks) := by
    show _ ∈ _
    simp only [tAt, List.getElem?_eq_getElem hks, Option.getD_some]
    exact List.getElem_mem hks
   simp only [T.ks, ptr] at d0 HK0
   clear hc hk0 hS1 hxw hSx
   go_wp2_with fail
   refine (HIH.out (tAt ks k) HMEM.out S1 (A' k) wr base (.slice a2 n2 cc2) (l ++ ps ++ allL (ks.take k)) HK0.out HS1.out (Nat.le_trans hbase HB2.out.size) HO2.out HLEN.out).mono ?_
   rintro e w3 ⟨v3, rfl, hO3, hb3⟩
   have HO3 : Hid (Ow w3 base v3 (l ++ ps ++ allL (ks.take (k + 1)))) := by
    show Ow _ _ _ _
    rw [HTK.out, ← List.append_assoc]
    exact hO3
   have HB3 := hid (HB2.out.trans hb3)
   have HB4 := hid (HB12.out.trans hb3)
   obtain ⟨a3, n3, cc3, hv3, HN3⟩ := hO3.shape'
   subst hv3
   clear hO3 hb3
   go_wp2
   go_roundw
   case rel => exact ⟨k + 1, _, by omega, by go_num, rfl, HO3.out, HB4.out, HB3.out⟩
   case measure => simp [intOf]; omega
  ·have hk' : k = n := by omega
   have HO3 : Hid (Ow wr base (.slice a2 n2 cc2) (l ++ (T.mk ps ks).all)) := by
    show Ow _ _ _ _
    have e : l ++ (T.mk ps ks).all = l ++ ps ++ allL (ks.take k) := by rw [hk', ← HN.out, List.take_length]; simp [T.all]
    rw [e]
    exact HO2.out
   clear hk'
   go_wp2
   go_ret
   exact ⟨_, rfl, HO3.out, HB2.out⟩
open Go.RowKit
set_option linter.unusedVariables false
def isStr (u : Value) : Prop := ∃ s, u = .string s
def isInt (u : Value) : Prop := ∃ i, u = .int .i64 i
def simV (x y : Value) : Prop := x = y ∨ (isStr x ∧ isStr y) ∨ (isInt x ∧ isInt y)
structure Mk (S : Nat → Prop) (w w' : World) : Prop where
 only : Only S w w'
 sim : ∀ b T xs, Bk w b T xs → S b → ∃ ys, Bk w' b T ys ∧ ∀ (j : Nat) u, xs[j]? = some u → ∃ u', ys[j]? = some u' ∧ simV u u'
open Go.RowKit
def mV (k : Nat) (j : Nat) : Value := .string (mt (k + j))
def mI (k : Nat) (j : Nat) : Value := .int .i64 ((k + j : Nat) : Int)
end Go.Proofs.YtidjehapeanpbaaGreatDoor
