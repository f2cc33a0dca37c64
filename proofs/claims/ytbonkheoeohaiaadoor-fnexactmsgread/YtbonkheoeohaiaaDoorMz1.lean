/-
  Rows of records as plain data, and in memory.
-/
import Derived.Test.YtbonkheoeohaiaaDoorMb1
import Derived.Test.YtbonkheoeohaiaaDoorMb2
import Derived.Test.YtbonkheoeohaiaaDoorMb4
import Derived.Deep.LoopGhost
import Derived.Maps.AppendAt
import Derived.Laws.CopyRow
import Derived.Lib.AppendZerosOnto
import Derived.Lib.Overlaps
import Derived.Deep.RegionLaw
namespace Go.Proofs.YtbonkheoeohaiaaDoor
open Go.RowKit
set_option linter.unusedVariables false
abbrev RC := Int × ByteArray × ByteArray × ByteArray × ByteArray
def rc0 : RC := (0, ⟨#[]⟩, ⟨#[]⟩, ⟨#[]⟩, ⟨#[]⟩)
def rcAt (l : List RC) (i : Nat) : RC := l[i]?.getD rc0
theorem rcAt_mem {l : List RC} {i : Nat} (h : i < l.length) : rcAt l i ∈ l := by simp [rcAt, h]
/-- The cells of a row. -/
def rccs : List RC → List Value
  | [] => []
  | p :: ps => .int .i64 p.1 :: .string p.2.1 :: .string p.2.2.1 :: .string p.2.2.2.1 :: .string p.2.2.2.2 :: rccs ps
theorem rccs_length (l : List RC) : (rccs l).length = l.length * 5 := by
  induction l with
  | nil => rfl
  | cons p ps ih => simp [rccs, ih]; omega
theorem rccs_append (l r : List RC) : rccs (l ++ r) = rccs l ++ rccs r := by
  induction l with
  | nil => rfl
  | cons p ps ih => simp only [rccs, List.cons_append, ih]
theorem rccs_take (l : List RC) : ∀ k, rccs (l.take k) = (rccs l).take (k * 5) := by
  induction l with
  | nil => intro k; simp [rccs]
  | cons p ps ih =>
    intro k
    cases k with
    | zero => rfl
    | succ k =>
      rw [show (k + 1) * 5 = k * 5 + 5 by omega]
      simp only [List.take_succ_cons, rccs, ih]
theorem rccs_at (l : List RC) : ∀ i, i < l.length → (rccs l)[i * 5]? = some (.int .i64 (rcAt l i).1) ∧ (rccs l)[i * 5 + 1]? = some (.string (rcAt l i).2.1) ∧ (rccs l)[i * 5 + 2]? = some (.string (rcAt l i).2.2.1) ∧ (rccs l)[i * 5 + 3]? = some (.string (rcAt l i).2.2.2.1) ∧ (rccs l)[i * 5 + 4]? = some (.string (rcAt l i).2.2.2.2) := by
  induction l with
  | nil => intro i h; exact absurd h (Nat.not_lt_zero _)
  | cons p ps ih =>
    intro i h
    cases i with
    | zero => exact ⟨rfl, rfl, rfl, rfl, rfl⟩
    | succ i =>
      have := ih i (by simpa using h)
      rw [show (i + 1) * 5 = i * 5 + 5 by omega, show i * 5 + 5 + 1 = i * 5 + 1 + 5 by omega, show i * 5 + 5 + 2 = i * 5 + 2 + 5 by omega, show i * 5 + 5 + 3 = i * 5 + 3 + 5 by omega, show i * 5 + 5 + 4 = i * 5 + 4 + 5 by omega]
      exact this
theorem rccs_set (l : List RC) (p : RC) : ∀ j, j < l.length → rccs (l.set j p) = ((((((rccs l).set (j * 5) (.int .i64 p.1)).set (j * 5 + 1) (.string p.2.1)).set (j * 5 + 2) (.string p.2.2.1)).set (j * 5 + 3) (.string p.2.2.2.1)).set (j * 5 + 4) (.string p.2.2.2.2)) := by
  induction l with
  | nil => intro j h; exact absurd h (Nat.not_lt_zero _)
  | cons q l ih =>
    intro i h
    cases i with
    | zero => rfl
    | succ i =>
      have := ih i (by simpa using h)
      rw [show (i + 1) * 5 = i * 5 + 5 by omega, show i * 5 + 5 + 1 = i * 5 + 1 + 5 by omega, show i * 5 + 5 + 2 = i * 5 + 2 + 5 by omega, show i * 5 + 5 + 3 = i * 5 + 3 + 5 by omega, show i * 5 + 5 + 4 = i * 5 + 4 + 5 by omega]
      show Value.int .i64 q.1 :: Value.string q.2.1 :: Value.string q.2.2.1 :: Value.string q.2.2.2.1 :: Value.string q.2.2.2.2 :: rccs (l.set i p) = _
      rw [this]
      rfl
theorem rccs_one (l : List RC) : ∀ u ∈ rccs l, u.oneCell' = true := by
  induction l with
  | nil => intro u hu; cases hu
  | cons p ps ih =>
    intro u hu
    simp only [rccs, List.mem_cons] at hu
    rcases hu with rfl | rfl | rfl | rfl | rfl | hu
    · rfl
    · rfl
    · rfl
    · rfl
    · rfl
    · exact ih u hu
/-- The slice value v leads to the row l. -/
def rcR (w : World) (S : Nat → Prop) (v : Value) (l : List RC) : Prop := Rw w S v l.length (rccs l)
theorem rcR.to {w w' : World} {S R : Nat → Prop} {v : Value} {l : List RC} (h : rcR w S v l) (ho : Only R w w') (hd : ∀ b, S b → b < w.heap.size → ¬ R b) : rcR w' S v l := Rw.to h ho hd
theorem rcR.below {w w' : World} {S : Nat → Prop} {v : Value} {l : List RC} (h : rcR w S v l) (hb : Below w.heap.size w w') : rcR w' S v l := Rw.to h (only_of_below hb (fun _ => False)) (fun _ _ _ h => h)
theorem rcR.mono {w : World} {S R : Nat → Prop} {v : Value} {l : List RC} (h : rcR w S v l) (hd : ∀ b, S b → b < w.heap.size → R b) : rcR w R v l := Rw.mono h hd
theorem rcR.len {w : World} {S : Nat → Prop} {a : Option Addr} {n c : Nat} {l : List RC} (h : rcR w S (.slice a n c) l) : n = l.length ∧ n ≤ c ∧ c ≤ 9223372036854775807 := Rw.len h
theorem rcR.at {w : World} {S : Nat → Prop} {a : Option Addr} {n c : Nat} {l : List RC} (h : rcR w S (.slice a n c) l) (hp : 0 < n) : ∃ b off, a = some ⟨b, off, none⟩ ∧ S b ∧ b < w.heap.size ∧
    ∀ i, i < n → w.cell? ⟨b, off + i * 5, none⟩ = some (.int .i64 (rcAt l i).1) ∧ w.cell? ⟨b, off + i * 5 + 1, none⟩ = some (.string (rcAt l i).2.1) ∧ w.cell? ⟨b, off + i * 5 + 2, none⟩ = some (.string (rcAt l i).2.2.1) ∧ w.cell? ⟨b, off + i * 5 + 3, none⟩ = some (.string (rcAt l i).2.2.2.1) ∧ w.cell? ⟨b, off + i * 5 + 4, none⟩ = some (.string (rcAt l i).2.2.2.2) := by
  obtain ⟨b, off, h1, h2, h3, h4⟩ := Rw.at h hp
  refine ⟨b, off, h1, h2, h3, fun i hi => ?_⟩
  have hn := h.len.1
  obtain ⟨k0, k1, k2, k3, k4⟩ := rccs_at l i (by omega)
  exact ⟨h4 _ _ k0, by rw [Nat.add_assoc]; exact h4 _ _ k1, by rw [Nat.add_assoc]; exact h4 _ _ k2, by rw [Nat.add_assoc]; exact h4 _ _ k3, by rw [Nat.add_assoc]; exact h4 _ _ k4⟩
theorem rcr_nil (w : World) (S : Nat → Prop) : rcR w S (.slice none 0 0) [] := rw_nil w S
end Go.Proofs.YtbonkheoeohaiaaDoor
/-
  What the program's GetVar answers, for every slice of bytes and every place; it changes nothing.
-/
namespace Go.Proofs.YtbonkheoeohaiaaDoor
open Go.RowKit

theorem mul_bounds (x u : Int) (h0 : 0 ≤ x) (h1 : x ≤ 127) (hu : 0 ≤ u) : 0 ≤ x * u ∧ x * u ≤ 127 * u :=
  ⟨Int.mul_nonneg h0 hu, Int.mul_le_mul_of_nonneg_right h1 hu⟩

theorem gv_neg (zs : List Int) (p : Int) (h : p < 0) : gv zs p = (0, -1) := by unfold gv; rw [if_pos h]
theorem gv_nat (zs : List Int) (k : Nat) : gv zs (k : Int) = gvGo 6 zs k 0 1 := by unfold gv; rw [if_neg (by omega), Int.toNat_natCast]

set_option maxHeartbeats 800000 in
theorem implGetVar_any (a : Option Addr) (n c : Nat) (zs : List Int) (p : Int) (w : World) (h : Rd w a n c zs) (hp : p ≤ 9223372036854775807) :
    Calls Tryd.prog 94 #[.slice a n c, .int .i64 p] w fun e w' => e = .returned (.tuple #[.int .i64 (gv zs p).1, .int .i64 (gv zs p).2]) ∧ w = w' := by
  obtain ⟨hn0, hc, hm, hnm, hb, hcell⟩ := h
  have HN : Hid (n = zs.length) := hn0
  clear hn0
  by_cases hneg : p < 0
  · have HG : Hid (gv zs p = (0, -1)) := gv_neg zs p hneg
    go_enter Tryd.func94, Tryd.ntmps94
    go_wp2
    go_ret2
    exact ⟨by rw [HG.out]; rfl, rfl⟩
  · obtain ⟨k0, rfl⟩ := Int.eq_ofNat_of_zero_le (by omega : 0 ≤ p)
    go_enter Tryd.func94, Tryd.ntmps94
    go_wp2
    go_loop [1, 6, 7] (fun i s t => ∃ (f k : Nat) (r u : Int), i = .int .i64 k ∧ s = .int .i64 r ∧ t = .int .i64 u ∧ f ≤ 6 ∧ k ≤ 9223372036854775807 ∧ u = uOf f ∧ 0 ≤ r ∧ r < u ∧ gvGo f zs k r u = gv zs k0) (fun i _ _ => n - (intOf i).toNat)
    case atStart => exact ⟨6, k0, 0, 1, rfl, rfl, rfl, by omega, by omega, rfl, by omega, by omega, by rw [gv_nat]⟩
    case round =>
      obtain ⟨f, k, r, u, rfl, rfl, rfl, hf6, hkm, hu, hr0, hru, hgv⟩ := hrel
      have HU : Hid (u = uOf f) := hu
      have HG : Hid (gvGo f zs k r u = gv zs k0) := hgv
      clear hu hgv
      by_cases hlt : k < n
      · obtain ⟨b, off, ha, hbw, hcell⟩ := hcell (by omega)
        have hck := hcell k hlt
        have hbk := (hb k).1
        have hbk2 := (hb k).2
        have HK : Hid (k < zs.length) := by show k < zs.length; rw [← HN.out]; exact hlt
        have hlt' : (k : Int) < (n : Int) := by omega
        clear hcell hb
        rw [ha]
        cases f with
        | zero =>
          have hu' : 1099511627775 < u := by rw [HU.out]; decide
          have HR : Hid (gv zs k0 = (0, -1)) := by show gv zs k0 = (0, -1); rw [← HG.out]; rfl
          go_wp2
          go_ret2
          exact ⟨by rw [HR.out]; rfl, rfl⟩
        | succ f =>
          have hu1 : 1 ≤ u := by rw [HU.out]; exact (uOf_le (f + 1) (by omega)).1
          have hu2 : u ≤ 34359738368 := by rw [HU.out]; exact (uOf_le (f + 1) (by omega)).2
          have HU2 : Hid (u * 128 = uOf f) := by show u * 128 = uOf f; rw [HU.out]; exact uOf_next f (by omega)
          by_cases hd : 128 ≤ zs[k]?.getD 0
          · have HG2 : Hid (gvGo f zs (k + 1) (r + (zs[k]?.getD 0 - 128) * u) (u * 128) = gv zs k0) := by
              show gvGo f zs (k + 1) (r + (zs[k]?.getD 0 - 128) * u) (u * 128) = gv zs k0
              rw [← HG.out, gvGo_more f zs k r u HK.out hd]
            generalize zs[k]?.getD 0 = d at *
            obtain ⟨m0, m1⟩ := mul_bounds (d - 128) u (by omega) (by omega) (by omega)
            go_wp2
            go_round
            case rel => exact ⟨f, k + 1, r + (d - 128) * u, u * 128, by go_num, rfl, rfl, by omega, by omega, HU2.out, by omega, by omega, HG2.out⟩
            case measure => simp [intOf]; omega
          · by_cases hbad : 1099511627775 < r + zs[k]?.getD 0 * u
            · have HR : Hid (gv zs k0 = (0, -1)) := by
                show gv zs k0 = (0, -1)
                rw [← HG.out]; exact gvGo_bad f zs k r u HK.out (by omega) (.inl hbad)
              generalize zs[k]?.getD 0 = d at *
              obtain ⟨m0, m1⟩ := mul_bounds d u (by omega) (by omega) (by omega)
              go_wp2
              go_ret2
              exact ⟨by rw [HR.out]; rfl, rfl⟩
            · by_cases hz : zs[k]?.getD 0 = 0
              · by_cases hu3 : 1 < u
                · have HR : Hid (gv zs k0 = (0, -1)) := by
                    show gv zs k0 = (0, -1)
                    rw [← HG.out]; exact gvGo_bad f zs k r u HK.out (by omega) (.inr ⟨hz, hu3⟩)
                  rw [hz] at hck hbad
                  clear hz hbk hbk2 hd
                  go_wp2
                  go_ret2
                  exact ⟨by rw [HR.out]; rfl, rfl⟩
                · have HR : Hid (gv zs k0 = (r + 0 * u, (k : Int) + 1)) := by
                    show gv zs k0 = (r + 0 * u, (k : Int) + 1)
                    rw [← HG.out, gvGo_good f zs k r u HK.out (by omega) (by omega), hz]
                  rw [hz] at hck hbad
                  clear hz hbk hbk2 hd
                  go_wp2
                  go_ret2
                  exact ⟨by rw [HR.out]; simp, rfl⟩
              · have HR : Hid (gv zs k0 = (r + zs[k]?.getD 0 * u, (k : Int) + 1)) := by
                  show gv zs k0 = (r + zs[k]?.getD 0 * u, (k : Int) + 1)
                  rw [← HG.out, gvGo_good f zs k r u HK.out (by omega) (by omega)]
                generalize zs[k]?.getD 0 = d at *
                have hz' : (d == 0) = false := by simp [hz]
                obtain ⟨m0, m1⟩ := mul_bounds d u (by omega) (by omega) (by omega)
                clear hz
                go_wp2
                go_ret2
                exact ⟨by rw [HR.out]; rfl, rfl⟩
      · have HR : Hid (gv zs k0 = (0, -1)) := by
          show gv zs k0 = (0, -1)
          rw [← HG.out]; exact gvGo_end f zs k r u (by rw [← HN.out]; omega)
        have hlt' : ¬ (k : Int) < (n : Int) := by omega
        go_wp2
        go_ret2
        exact ⟨by rw [HR.out]; rfl, rfl⟩
end Go.Proofs.YtbonkheoeohaiaaDoor
/-
  What the model's GetVar answers, for every slice of bytes and every place: the same as the program's.
-/
namespace Go.Proofs.YtbonkheoeohaiaaDoor
open Go.RowKit

theorem rd_nil (w : World) : Rd w none 0 0 [] := ⟨rfl, Nat.le_refl _, by omega, by omega, by simp, fun h => by omega⟩

theorem enc_digits (f : Nat) (hf : f ≤ 5) (r d : Int) (h0 : 0 ≤ r) (h1 : r < uOf (f + 1)) (hd0 : 0 ≤ d) (hd1 : d < 128) : (enc (r + d * uOf (f + 1))).length = 6 - f ↔ (f = 5 ∨ d ≠ 0) := by
  match f, hf with
  | 0, _ => have := encF_length_eq 5 6 (r + d * uOf 1); simp [bnd, uOf, enc] at *; omega
  | 1, _ => have := encF_length_eq 4 6 (r + d * uOf 2); simp [bnd, uOf, enc] at *; omega
  | 2, _ => have := encF_length_eq 3 6 (r + d * uOf 3); simp [bnd, uOf, enc] at *; omega
  | 3, _ => have := encF_length_eq 2 6 (r + d * uOf 4); simp [bnd, uOf, enc] at *; omega
  | 4, _ => have := encF_length_eq 1 6 (r + d * uOf 5); simp [bnd, uOf, enc] at *; omega
  | 5, _ => have := encF_length_eq 0 6 (r + d * uOf 6); simp [bnd, uOf, enc] at *; omega

set_option maxHeartbeats 800000 in
theorem specGetVar_any (a : Option Addr) (n c : Nat) (zs : List Int) (p : Int) (w : World) (h : Rd w a n c zs) (hp : p ≤ 9223372036854775807) :
    Calls Tryd.prog 51 #[.slice a n c, .int .i64 p] w fun e w' => e = .returned (.tuple #[.int .i64 (gv zs p).1, .int .i64 (gv zs p).2]) ∧ Below w.heap.size w w' := by
  obtain ⟨hn0, hc, hm, hnm, hb, hcell⟩ := h
  have HN : Hid (n = zs.length) := hn0
  clear hn0
  by_cases hneg : p < 0
  · have HG : Hid (gv zs p = (0, -1)) := gv_neg zs p hneg
    go_enter Tryd.func51, Tryd.ntmps51
    go_wp2
    go_ret2
    exact ⟨by rw [HG.out]; rfl, Below.refl _ _⟩
  · obtain ⟨k0, rfl⟩ := Int.eq_ofNat_of_zero_le (by omega : 0 ≤ p)
    by_cases hout : (n : Int) ≤ (k0 : Int)
    · have HG : Hid (gv zs k0 = (0, -1)) := by
        show gv zs k0 = (0, -1)
        rw [gv_nat]; exact gvGo_end 6 zs k0 0 1 (by rw [← HN.out]; omega)
      go_enter Tryd.func51, Tryd.ntmps51
      go_wp2
      go_ret2
      exact ⟨by rw [HG.out]; rfl, Below.refl _ _⟩
    · go_enter Tryd.func51, Tryd.ntmps51
      go_wp2
      go_loop [6, 7, 8] (fun s t i => ∃ (f k : Nat) (r u : Int), i = .int .i64 k ∧ s = .int .i64 r ∧ t = .int .i64 u ∧ f ≤ 6 ∧ k + f = k0 + 6 ∧ k ≤ n ∧ u = uOf f ∧ 0 ≤ r ∧ r < u ∧ gvGo f zs k r u = gv zs k0) (fun _ _ i => n - (intOf i).toNat)
      case atStart => exact ⟨6, k0, 0, 1, rfl, rfl, rfl, by omega, by omega, by omega, rfl, by omega, by omega, by rw [gv_nat]⟩
      case round =>
        obtain ⟨f, k, r, u, rfl, rfl, rfl, hf6, hkf, hkn, hu, hr0, hru, hgv⟩ := hrel
        have HU : Hid (u = uOf f) := hu
        have HG : Hid (gvGo f zs k r u = gv zs k0) := hgv
        have HF : Hid (k + f = k0 + 6) := hkf
        have hkb : k ≤ k0 + 6 := by omega
        clear hu hgv hkf
        by_cases hlt : k < n
        · obtain ⟨b, off, ha, hbw, hcell⟩ := hcell (by omega)
          have hck := hcell k hlt
          have hbk := (hb k).1
          have hbk2 := (hb k).2
          have HK : Hid (k < zs.length) := by show k < zs.length; rw [← HN.out]; exact hlt
          have hlt' : (k : Int) < (n : Int) := by omega
          clear hcell hb
          rw [ha]
          cases f with
          | zero =>
            have hu' : ¬ (k : Int) < (k0 : Int) + 6 := by have := HF.out; omega
            have HR : Hid (gv zs k0 = (0, -1)) := by show gv zs k0 = (0, -1); rw [← HG.out]; rfl
            go_wp2
            go_ret2
            exact ⟨by rw [HR.out]; rfl, Below.refl _ _⟩
          | succ f =>
            have hk6 : (k : Int) < (k0 : Int) + 6 := by have := HF.out; omega
            have hu1 : 1 ≤ u := by rw [HU.out]; exact (uOf_le (f + 1) (by omega)).1
            have hu2 : u ≤ 34359738368 := by rw [HU.out]; exact (uOf_le (f + 1) (by omega)).2
            have HU2 : Hid (u * 128 = uOf f) := by show u * 128 = uOf f; rw [HU.out]; exact uOf_next f (by omega)
            by_cases hd : 128 ≤ zs[k]?.getD 0
            · have HG2 : Hid (gvGo f zs (k + 1) (r + (zs[k]?.getD 0 % 128) * u) (u * 128) = gv zs k0) := by
                show gvGo f zs (k + 1) (r + (zs[k]?.getD 0 % 128) * u) (u * 128) = gv zs k0
                rw [show zs[k]?.getD 0 % 128 = zs[k]?.getD 0 - 128 from by omega, ← HG.out, gvGo_more f zs k r u HK.out hd]
              generalize zs[k]?.getD 0 = d at *
              obtain ⟨m0, m1⟩ := mul_bounds (d % 128) u (by omega) (by omega) (by omega)
              go_wp2
              go_round
              case rel => exact ⟨f, k + 1, r + d % 128 * u, u * 128, by go_num, rfl, rfl, by omega, by have := HF.out; omega, by omega, HU2.out, by omega, by omega, HG2.out⟩
              case measure => simp [intOf]; omega
            · have HM : Hid (zs[k]?.getD 0 % 128 = zs[k]?.getD 0) := by show zs[k]?.getD 0 % 128 = zs[k]?.getD 0; omega
              have HL : Hid ((enc (r + zs[k]?.getD 0 % 128 * u)).length = 6 - f ↔ (f = 5 ∨ zs[k]?.getD 0 ≠ 0)) := by
                show (enc (r + zs[k]?.getD 0 % 128 * u)).length = 6 - f ↔ (f = 5 ∨ zs[k]?.getD 0 ≠ 0)
                rw [HM.out, HU.out]
                exact enc_digits f (by omega) r _ hr0 (by rw [← HU.out]; exact hru) hbk (by omega)
              have HU1 : Hid (1 < u ↔ f + 1 < 6) := by show 1 < u ↔ f + 1 < 6; rw [HU.out]; exact uOf_one (f + 1) (by omega) (by omega)
              by_cases hbad : 1099511627775 < r + zs[k]?.getD 0 % 128 * u
              · have HR : Hid (gv zs k0 = (0, -1)) := by
                  show gv zs k0 = (0, -1)
                  rw [← HG.out]; exact gvGo_bad f zs k r u HK.out (by omega) (.inl (by rw [HM.out] at hbad; exact hbad))
                have HP : Hid (pv [] (r + zs[k]?.getD 0 % 128 * u) = none) := pv_bad _ _ (.inr hbad)
                generalize zs[k]?.getD 0 = d at *
                obtain ⟨m0, m1⟩ := mul_bounds (d % 128) u (by omega) (by omega) (by omega)
                go_wp2_with (go_at_call 39; refine (specPutVar_none none 0 0 [] (r + d % 128 * u) _ (rd_nil _) (by omega) HP.out).mono ?_; rintro e w1 ⟨rfl, hb1⟩)
                go_ret2
                exact ⟨by rw [HR.out]; rfl, hb1⟩
              · have HP : Hid (pv [] (r + zs[k]?.getD 0 % 128 * u) = some (enc (r + zs[k]?.getD 0 % 128 * u))) := by
                  refine pv_ok [] _ ?_ (by omega) ?_
                  · have := (mul_bounds (zs[k]?.getD 0 % 128) u (by omega) (by omega) (by omega)).1
                    omega
                  · have := (enc_len (r + zs[k]?.getD 0 % 128 * u)).2
                    simp; omega
                by_cases hg : f = 5 ∨ zs[k]?.getD 0 ≠ 0
                · have HR : Hid (gv zs k0 = (r + zs[k]?.getD 0 % 128 * u, (k : Int) + 1)) := by
                    show gv zs k0 = (r + zs[k]?.getD 0 % 128 * u, (k : Int) + 1)
                    have := HU1.out
                    rw [← HG.out, HM.out, gvGo_good f zs k r u HK.out (by omega) (by rw [HM.out] at hbad; omega)]
                  have hl := HL.out.2 hg
                  generalize zs[k]?.getD 0 = d at *
                  obtain ⟨m0, m1⟩ := mul_bounds (d % 128) u (by omega) (by omega) (by omega)
                  have hne : (((enc (r + d % 128 * u)).length : Int) != (k : Int) + 1 - (k0 : Int)) = false := by
                    have := HF.out
                    simp; omega
                  clear hl hg
                  go_wp2_with (go_at_call 39; refine (specPutVar_some none 0 0 [] _ (r + d % 128 * u) _ (rd_nil _) (by omega) HP.out).mono ?_; rintro e w1 ⟨v, rfl, ho, hb1⟩; obtain ⟨a2, c2, hv2⟩ := ho.shape; rw [hv2])
                  go_ret2
                  exact ⟨by rw [HR.out]; rfl, hb1⟩
                · have HR : Hid (gv zs k0 = (0, -1)) := by
                    show gv zs k0 = (0, -1)
                    have := HU1.out
                    rw [← HG.out]; exact gvGo_bad f zs k r u HK.out (by omega) (.inr (by omega))
                  have hl : ¬ _ := fun x => hg (HL.out.1 x)
                  generalize zs[k]?.getD 0 = d at *
                  obtain ⟨m0, m1⟩ := mul_bounds (d % 128) u (by omega) (by omega) (by omega)
                  have hne : (((enc (r + d % 128 * u)).length : Int) != (k : Int) + 1 - (k0 : Int)) = true := by
                    have := HF.out
                    simp; omega
                  clear hl hg
                  go_wp2_with (go_at_call 39; refine (specPutVar_some none 0 0 [] _ (r + d % 128 * u) _ (rd_nil _) (by omega) HP.out).mono ?_; rintro e w1 ⟨v, rfl, ho, hb1⟩; obtain ⟨a2, c2, hv2⟩ := ho.shape; rw [hv2])
                  go_ret2
                  exact ⟨by rw [HR.out]; rfl, hb1⟩
        · have HR : Hid (gv zs k0 = (0, -1)) := by
            show gv zs k0 = (0, -1)
            rw [← HG.out]; exact gvGo_end f zs k r u (by rw [← HN.out]; omega)
          have hlt' : ¬ (k : Int) < (n : Int) := by omega
          go_wp2
          go_ret2
          exact ⟨by rw [HR.out]; rfl, Below.refl _ _⟩
end Go.Proofs.YtbonkheoeohaiaaDoor
/-
  What both GetTexts answer, for every slice of bytes and every place.
-/
namespace Go.Proofs.YtbonkheoeohaiaaDoor
open Go.RowKit

theorem gvGo_range (f : Nat) (zs : List Int) (hb : ∀ i : Nat, 0 ≤ zs[i]?.getD 0 ∧ zs[i]?.getD 0 ≤ 255) : ∀ (k : Nat) (n u : Int), 0 ≤ n → 0 ≤ u →
    gvGo f zs k n u = (0, -1) ∨ ∃ j : Nat, (gvGo f zs k n u).2 = j ∧ 1 ≤ j ∧ j ≤ zs.length ∧ 0 ≤ (gvGo f zs k n u).1 ∧ (gvGo f zs k n u).1 ≤ 1099511627775 := by
  induction f with
  | zero => intro k n u _ _; exact .inl rfl
  | succ f ih =>
    intro k n u hn hu
    by_cases hk : k < zs.length
    · by_cases hd : 128 ≤ zs[k]?.getD 0
      · rw [gvGo_more f zs k n u hk hd]
        have := Int.mul_nonneg (show 0 ≤ zs[k]?.getD 0 - 128 by omega) hu
        exact ih (k + 1) _ _ (by omega) (by omega)
      · by_cases hbad : 1099511627775 < n + zs[k]?.getD 0 * u ∨ (zs[k]?.getD 0 = 0 ∧ 1 < u)
        · exact .inl (gvGo_bad f zs k n u hk (by omega) hbad)
        · rw [gvGo_good f zs k n u hk (by omega) hbad]
          have := Int.mul_nonneg (hb k).1 hu
          exact .inr ⟨k + 1, by simp, by omega, by omega, by show 0 ≤ n + zs[k]?.getD 0 * u; omega, by show n + zs[k]?.getD 0 * u ≤ 1099511627775; omega⟩
    · exact .inl (gvGo_end (f + 1) zs k n u (by omega))
theorem gv_range (zs : List Int) (hb : ∀ i : Nat, 0 ≤ zs[i]?.getD 0 ∧ zs[i]?.getD 0 ≤ 255) (p : Int) :
    gv zs p = (0, -1) ∨ ∃ j : Nat, (gv zs p).2 = j ∧ 1 ≤ j ∧ j ≤ zs.length ∧ 0 ≤ (gv zs p).1 ∧ (gv zs p).1 ≤ 1099511627775 := by
  unfold gv
  split
  · exact .inl rfl
  · exact gvGo_range 6 zs hb _ 0 1 (by omega) (by omega)

theorem rd_empty (w : World) (a : Option Addr) : Rd w a 0 0 [] := ⟨rfl, Nat.le_refl _, by omega, by omega, by simp, fun h => by omega⟩
/-- What GetText answers. -/
def gt (zs : List Int) (p : Int) : List Int × Int := if (gv zs p).2 < 0 ∨ (zs.length : Int) - (gv zs p).2 < (gv zs p).1 then ([], -1) else ((zs.drop (gv zs p).2.toNat).take (gv zs p).1.toNat, (gv zs p).2 + (gv zs p).1)

/-- A slice of a slice, read. -/
theorem Rd.slice {w : World} {b off n c : Nat} {zs : List Int} (h : Rd w (some ⟨b, off, none⟩) n c zs) (lo m : Nat) (hm : lo + m ≤ n) (k : Nat) (hk : m ≤ k) (hk2 : k ≤ c) : Rd w (some ⟨b, off + lo, none⟩) m k ((zs.drop lo).take m) := by
  obtain ⟨h1, h2, h3, h30, h4, h5⟩ := h
  refine ⟨by simp; omega, hk, by omega, by omega, fun i => ?_, fun hp => ⟨b, off + lo, rfl, ?_, fun i hi => ?_⟩⟩
  · by_cases hi : i < m
    · rw [List.getElem?_take_of_lt hi, List.getElem?_drop]; exact h4 (lo + i)
    · rw [List.getElem?_eq_none (by simp; omega)]; simp
  · obtain ⟨b', off', e, hb, _⟩ := h5 (by omega)
    cases e; exact hb
  · obtain ⟨b', off', e, hb, hc⟩ := h5 (by omega)
    cases e
    rw [List.getElem?_take_of_lt hi, List.getElem?_drop, ← hc (lo + i) (by omega), Nat.add_assoc]

set_option maxHeartbeats 800000 in
set_option maxRecDepth 20000 in
theorem implGetText_any (a : Option Addr) (n c : Nat) (zs : List Int) (p : Int) (w : World) (h : Rd w a n c zs) (hp : p ≤ 9223372036854775807) :
    Calls Tryd.prog 103 #[.slice a n c, .int .i64 p] w fun e w' => e = .returned (.tuple #[.string (strOf (gt zs p).1), .int .i64 (gt zs p).2]) ∧ w = w' := by
  have HN : Hid (n = zs.length) := h.1
  have hnm : n ≤ 140737488355328 := h.2.2.2.1
  have hcm : c ≤ 9223372036854775807 := h.2.2.1
  have hnc : n ≤ c := h.2.1
  have HC := implGetVar_any a n c zs p w h hp
  have hrg := gv_range zs h.2.2.2.2.1 p
  have HT : Hid (gt zs p = if (gv zs p).2 < 0 ∨ (zs.length : Int) - (gv zs p).2 < (gv zs p).1 then ([], -1) else ((zs.drop (gv zs p).2.toNat).take (gv zs p).1.toNat, (gv zs p).2 + (gv zs p).1)) := rfl
  generalize gv zs p = g at *
  obtain ⟨s, f⟩ := g
  have HC' := hid HC
  clear HC
  rcases hrg with hg | ⟨j, hj, hj1, hj2, hs0, hs1⟩
  · cases hg
    have HR : Hid (gt zs p = ([], -1)) := by show gt zs p = ([], -1); rw [HT.out]; simp
    clear HT
    have HD := hid h
    clear h
    go_enter Tryd.func103, Tryd.ntmps103
    go_wp2_with (go_at_call 94; refine HC'.out.mono ?_; rintro e w' ⟨rfl, rfl⟩)
    go_ret2
    exact ⟨by rw [HR.out]; rfl, rfl⟩
  · simp only at hj hs0 hs1
    subst hj
    have hjn : j ≤ n := by rw [HN.out]; exact hj2
    clear hj2
    obtain ⟨b, off, ha, hbw, _⟩ := h.2.2.2.2.2 (by omega)
    subst ha
    by_cases hlong : (n : Int) - (j : Int) < s
    · have HR : Hid (gt zs p = ([], -1)) := by
        show gt zs p = ([], -1)
        rw [HT.out]
        exact if_pos (.inr (by rw [← HN.out]; exact hlong))
      clear HT
      have HD := hid h
      clear h
      go_enter Tryd.func103, Tryd.ntmps103
      go_wp2_with (go_at_call 94; refine HC'.out.mono ?_; rintro e w' ⟨rfl, rfl⟩)
      go_ret2
      exact ⟨by rw [HR.out]; rfl, rfl⟩
    · obtain ⟨m, rfl⟩ := Int.eq_ofNat_of_zero_le hs0
      have HR : Hid (gt zs p = ((zs.drop j).take m, (j : Int) + (m : Int))) := by
        show gt zs p = ((zs.drop j).take m, (j : Int) + (m : Int))
        rw [HT.out]
        rw [if_neg (by rw [← HN.out]; simp; omega)]
        simp
      clear HT
      by_cases hcj : c = j
      · have hm0 : m = 0 := by omega
        subst hm0
        subst hcj
        have hst := run_str (rd_empty w (some ⟨b, off, none⟩))
        have HD := hid h
        clear h
        go_enter Tryd.func103, Tryd.ntmps103
        go_wp2_with (go_at_call 94; refine (HC'.out).mono ?_; rintro e w' ⟨rfl, rfl⟩)
        go_ret2
        exact ⟨by rw [HR.out]; simp, rfl⟩
      · have hst := run_str (h.slice j m (by omega) (c - j) (by omega) (by omega))
        have hj0 : ¬ j = 0 := by omega
        have HD := hid h
        clear h
        go_enter Tryd.func103, Tryd.ntmps103
        go_wp2_with (go_at_call 94; refine HC'.out.mono ?_; rintro e w' ⟨rfl, rfl⟩)
        go_ret2
        exact ⟨by rw [HR.out]; rfl, rfl⟩
set_option maxHeartbeats 800000 in
set_option maxRecDepth 20000 in
theorem specGetText_any (a : Option Addr) (n c : Nat) (zs : List Int) (p : Int) (w : World) (h : Rd w a n c zs) (hp : p ≤ 9223372036854775807) :
    Calls Tryd.prog 52 #[.slice a n c, .int .i64 p] w fun e w' => e = .returned (.tuple #[.string (strOf (gt zs p).1), .int .i64 (gt zs p).2]) ∧ Below w.heap.size w w' := by
  have HN : Hid (n = zs.length) := h.1
  have hnm : n ≤ 140737488355328 := h.2.2.2.1
  have hcm : c ≤ 9223372036854775807 := h.2.2.1
  have hnc : n ≤ c := h.2.1
  have HC := specGetVar_any a n c zs p w h hp
  have hrg := gv_range zs h.2.2.2.2.1 p
  have HT : Hid (gt zs p = if (gv zs p).2 < 0 ∨ (zs.length : Int) - (gv zs p).2 < (gv zs p).1 then ([], -1) else ((zs.drop (gv zs p).2.toNat).take (gv zs p).1.toNat, (gv zs p).2 + (gv zs p).1)) := rfl
  generalize gv zs p = g at *
  obtain ⟨s, f⟩ := g
  have HC' := hid HC
  clear HC
  rcases hrg with hg | ⟨j, hj, hj1, hj2, hs0, hs1⟩
  · cases hg
    have HR : Hid (gt zs p = ([], -1)) := by show gt zs p = ([], -1); rw [HT.out]; simp
    clear HT
    have HD := hid h
    clear h
    go_enter Tryd.func52, Tryd.ntmps52
    go_wp2_with (go_at_call 51; refine HC'.out.mono ?_; rintro e w1 ⟨rfl, hb1⟩)
    go_ret2
    exact ⟨by rw [HR.out]; rfl, hb1⟩
  · simp only at hj hs0 hs1
    subst hj
    have hjn : j ≤ n := by rw [HN.out]; exact hj2
    clear hj2
    obtain ⟨b, off, ha, hbw, _⟩ := h.2.2.2.2.2 (by omega)
    subst ha
    by_cases hlong : (n : Int) - (j : Int) < s
    · have HR : Hid (gt zs p = ([], -1)) := by
        show gt zs p = ([], -1)
        rw [HT.out]
        exact if_pos (.inr (by rw [← HN.out]; exact hlong))
      clear HT
      have HD := hid h
      clear h
      go_enter Tryd.func52, Tryd.ntmps52
      go_wp2_with (go_at_call 51; refine HC'.out.mono ?_; rintro e w1 ⟨rfl, hb1⟩)
      go_ret2
      exact ⟨by rw [HR.out]; rfl, hb1⟩
    · obtain ⟨m, rfl⟩ := Int.eq_ofNat_of_zero_le hs0
      have HR : Hid (gt zs p = ((zs.drop j).take m, (j : Int) + (m : Int))) := by
        show gt zs p = ((zs.drop j).take m, (j : Int) + (m : Int))
        rw [HT.out]
        rw [if_neg (by rw [← HN.out]; simp; omega)]
        simp
      clear HT
      by_cases hcj : c = j
      · have hm0 : m = 0 := by omega
        subst hm0
        subst hcj
        have HD := hid h
        clear h
        go_enter Tryd.func52, Tryd.ntmps52
        go_wp2_with (go_at_call 51; refine (HC'.out).mono ?_; rintro e w1 ⟨rfl, hb1⟩; have hst := run_str (rd_empty w1 (some ⟨b, off, none⟩)))
        go_ret2
        exact ⟨by rw [HR.out]; simp, hb1⟩
      · have hj0 : ¬ j = 0 := by omega
        have HD := hid h
        clear h
        go_enter Tryd.func52, Tryd.ntmps52
        go_wp2_with (go_at_call 51; refine HC'.out.mono ?_; rintro e w1 ⟨rfl, hb1⟩; have hst := run_str ((HD.out.kept hb1).slice j m (by omega) (c - j) (by omega) (by omega)))
        go_ret2
        exact ⟨by rw [HR.out]; rfl, hb1⟩
end Go.Proofs.YtbonkheoeohaiaaDoor
/-
  Plain mathematics: a number that was put is got again, and so is a text.
-/
namespace Go.Proofs.YtbonkheoeohaiaaDoor

theorem encF_down (f : Nat) : ∀ n : Int, n < bnd f → encF (f + 1) n = encF f n := by
  induction f with
  | zero => intro n h; rw [encF_small _ n (by simpa [bnd] using h), encF_small _ n (by simpa [bnd] using h)]
  | succ f ih =>
    intro n h
    by_cases hn : 128 ≤ n
    · rw [encF_big _ n hn, encF_big _ n hn, ih (n / 128) (bnd_down f n h)]
    · rw [encF_small _ n (by omega), encF_small _ n (by omega)]
theorem at_here (pre : List Int) (z : Int) (r : List Int) : (pre ++ z :: r)[pre.length]?.getD 0 = z := by simp
theorem not_bad {r q u : Int} (hs : r + q * u ≤ 1099511627775) (hz : q = 0 → ¬ 1 < u) : ¬ (1099511627775 < r + q * u ∨ (q = 0 ∧ 1 < u)) := by
  rintro (h | ⟨h, h'⟩)
  · omega
  · exact hz h h'
theorem gvGo_enc (f' : Nat) : ∀ (f : Nat) (pre rest : List Int) (q r u : Int), 0 ≤ q → q < bnd f' → f' < f → r + q * u ≤ 1099511627775 → (q = 0 → ¬ 1 < u) →
    gvGo f (pre ++ encF f' q ++ rest) pre.length r u = (r + q * u, ((pre.length + (encF f' q).length : Nat) : Int)) := by
  induction f' with
  | zero =>
    intro f pre rest q r u h0 hq hf hs hz
    obtain ⟨g, rfl⟩ : ∃ g, f = g + 1 := ⟨f - 1, by omega⟩
    have e : pre ++ encF 0 q ++ rest = pre ++ q :: rest := by simp [encF]
    have hq' : q < 128 := hq
    rw [e, gvGo_good g _ pre.length r u (by simp) (by rw [at_here]; exact hq') (by rw [at_here]; exact not_bad hs hz), at_here]
    simp [encF]
  | succ f' ih =>
    intro f pre rest q r u h0 hq hf hs hz
    obtain ⟨g, rfl⟩ : ∃ g, f = g + 1 := ⟨f - 1, by omega⟩
    by_cases hb : 128 ≤ q
    · rw [encF_big f' q hb]
      have e : pre ++ (128 + q % 128) :: encF f' (q / 128) ++ rest = pre ++ (128 + q % 128) :: (encF f' (q / 128) ++ rest) := by simp
      have e2 : pre ++ (128 + q % 128) :: encF f' (q / 128) ++ rest = (pre ++ [128 + q % 128]) ++ encF f' (q / 128) ++ rest := by simp
      have hm : q * u = q % 128 * u + q / 128 * (u * 128) := by
        have : q = q % 128 + 128 * (q / 128) := by omega
        rw [Int.mul_comm u 128, ← Int.mul_assoc, ← Int.add_mul]
        congr 1
        omega
      have hk : pre.length < (pre ++ (128 + q % 128) :: (encF f' (q / 128) ++ rest)).length := by simp
      rw [e, gvGo_more g _ pre.length r u hk (by rw [at_here]; omega), at_here, ← e, e2]
      have hl : pre.length + 1 = (pre ++ [128 + q % 128]).length := by simp
      rw [hl, ih g (pre ++ [128 + q % 128]) rest (q / 128) (r + (128 + q % 128 - 128) * u) (u * 128) (by omega) (bnd_down f' q hq) (by omega) (by
        rw [show 128 + q % 128 - 128 = q % 128 from by omega]; omega) (by intro h; omega)]
      rw [show 128 + q % 128 - 128 = q % 128 from by omega]
      simp only [Prod.mk.injEq]
      constructor
      · omega
      · simp; omega
    · have e : pre ++ encF (f' + 1) q ++ rest = pre ++ q :: rest := by rw [encF_small _ q (by omega)]; simp
      rw [e, gvGo_good g _ pre.length r u (by simp) (by rw [at_here]; omega) (by rw [at_here]; exact not_bad hs hz), at_here, encF_small _ q (by omega)]
      simp
/-- What is put is got. -/
theorem gv_enc (pre rest : List Int) (n : Int) (h0 : 0 ≤ n) (h1 : n ≤ 1099511627775) : gv (pre ++ enc n ++ rest) (pre.length : Int) = (n, ((pre.length + (enc n).length : Nat) : Int)) := by
  have e : enc n = encF 5 n := encF_down 5 n (by simp [bnd]; omega)
  rw [gv_nat, e, gvGo_enc 5 6 pre rest n 0 1 h0 (by simp [bnd]; omega) (by omega) (by omega) (by omega)]
  simp
theorem gt_enc (pre zs : List Int) (h : zs.length ≤ 1048576) : gt (pre ++ enc (zs.length : Int) ++ zs) (pre.length : Int) = (zs, ((pre ++ enc (zs.length : Int) ++ zs).length : Int)) := by
  unfold gt
  rw [gv_enc pre zs (zs.length : Int) (by omega) (by omega)]
  simp only
  rw [if_neg (by simp only [List.length_append]; omega)]
  simp only [Int.toNat_natCast, Prod.mk.injEq]
  refine ⟨?_, ?_⟩
  · have : pre.length + (enc (zs.length : Int)).length = (pre ++ enc (zs.length : Int)).length := by simp
    rw [this, List.drop_left, List.take_length]
  · simp only [List.length_append]; omega
end Go.Proofs.YtbonkheoeohaiaaDoor
/-
  Plain mathematics: what is read of a record's text on both sides, and that it is what was written.
-/
namespace Go.Proofs.YtbonkheoeohaiaaDoor
set_option linter.unusedVariables false
theorem gvGo_past (f : Nat) (zs : List Int) : ∀ (k : Nat) (n u : Int), gvGo f zs k n u = (0, -1) ∨ (k : Int) < (gvGo f zs k n u).2 := by
  induction f with
  | zero => intro k n u; exact .inl rfl
  | succ f ih =>
    intro k n u
    by_cases hk : k < zs.length
    · by_cases hd : 128 ≤ zs[k]?.getD 0
      · rw [gvGo_more f zs k n u hk hd]
        rcases ih (k + 1) (n + (zs[k]?.getD 0 - 128) * u) (u * 128) with h | h
        · exact .inl h
        · exact .inr (by omega)
      · by_cases hbad : 1099511627775 < n + zs[k]?.getD 0 * u ∨ (zs[k]?.getD 0 = 0 ∧ 1 < u)
        · exact .inl (gvGo_bad f zs k n u hk (by omega) hbad)
        · rw [gvGo_good f zs k n u hk (by omega) hbad]
          exact .inr (by show (k : Int) < (k : Int) + 1; omega)
    · exact .inl (gvGo_end (f + 1) zs k n u (by omega))
theorem gt_step (zs : List Int) (hb : ∀ i : Nat, 0 ≤ zs[i]?.getD 0 ∧ zs[i]?.getD 0 ≤ 255) (p : Int) (h : ¬ (gt zs p).2 < 0) : p < (gt zs p).2 ∧ (gt zs p).2 ≤ zs.length ∧ (gt zs p).1.length ≤ zs.length := by
  have hr := gv_range zs hb p
  have hp : gv zs p = (0, -1) ∨ p < (gv zs p).2 := by
    unfold gv
    split
    · exact .inl rfl
    · rcases gvGo_past 6 zs p.toNat 0 1 with h | h
      · exact .inl h
      · exact .inr (by omega)
  unfold gt at h ⊢
  by_cases hc : (gv zs p).2 < 0 ∨ (zs.length : Int) - (gv zs p).2 < (gv zs p).1
  · rw [if_pos hc] at h
    exact absurd (show ((([], -1) : List Int × Int).2 : Int) < 0 by decide) h
  · rw [if_neg hc]
    rcases hr with e | ⟨j, e1, e2, e3, e4, e5⟩
    · rw [e] at hc
      exact absurd (.inl (show ((0, -1) : Int × Int).2 < 0 by decide)) hc
    · rcases hp with e | e
      · rw [e] at hc
        exact absurd (.inl (show ((0, -1) : Int × Int).2 < 0 by decide)) hc
      · refine ⟨?_, ?_, ?_⟩
        · show p < (gv zs p).2 + (gv zs p).1
          omega
        · show (gv zs p).2 + (gv zs p).1 ≤ (zs.length : Int)
          omega
        · show (List.take _ (List.drop _ zs)).length ≤ zs.length
          rw [List.length_take, List.length_drop]
          omega
theorem gt_low (zs : List Int) (hb : ∀ i : Nat, 0 ≤ zs[i]?.getD 0 ∧ zs[i]?.getD 0 ≤ 255) (p : Int) : -1 ≤ (gt zs p).2 := by
  have hr := gv_range zs hb p
  unfold gt
  split
  · decide
  · rename_i h
    rcases hr with e | ⟨j, e1, e2, e3, e4, e5⟩
    · rw [e] at h
      exact absurd (.inl (show ((0, -1) : Int × Int).2 < 0 by decide)) h
    · show (-1 : Int) ≤ (gv zs p).2 + (gv zs p).1
      omega
theorem gt_part (pre : List Int) (s : ByteArray) (rest : List Int) (h : s.size ≤ 1048576) : gt (pre ++ tpart s ++ rest) (pre.length : Int) = (bytesOf s, ((pre.length + (tpart s).length : Nat) : Int)) := by
  have hl := bytesOf_len s
  have hg := gv_enc pre (bytesOf s ++ rest) (s.size : Int) (by omega) (by omega)
  have e : pre ++ tpart s ++ rest = pre ++ enc (s.size : Int) ++ (bytesOf s ++ rest) := by simp [tpart]
  have hlen : (pre ++ enc (s.size : Int) ++ (bytesOf s ++ rest)).length = pre.length + (enc (s.size : Int)).length + (s.size + rest.length) := by simp only [List.length_append, hl]
  rw [e, gt, hg]
  simp only
  rw [if_neg (by rw [hlen]; omega)]
  have hd : ((pre ++ enc (s.size : Int) ++ (bytesOf s ++ rest)).drop ((pre.length + (enc (s.size : Int)).length : Nat) : Int).toNat) = bytesOf s ++ rest := by
    rw [Int.toNat_natCast, show pre.length + (enc (s.size : Int)).length = (pre ++ enc (s.size : Int)).length by simp, List.drop_left]
  rw [hd, Int.toNat_natCast]
  have ht : (bytesOf s ++ rest).take s.size = bytesOf s := by
    rw [← hl, List.take_left]
  rw [ht]
  simp only [tpart, List.length_append, hl, Prod.mk.injEq, true_and]
  omega
/-- The texts from place p on, f of them at the most. -/
def txF : Nat → List Int → Int → List ByteArray
  | 0, _, _ => []
  | f + 1, zs, p => if p < zs.length then (if (gt zs p).2 < 0 then [] else strOf (gt zs p).1 :: txF f zs (gt zs p).2) else []
theorem txF_end (f : Nat) (zs : List Int) (p : Int) (h : ¬ p < zs.length) : txF f zs p = [] := by
  cases f with
  | zero => rfl
  | succ f => simp only [txF]; rw [if_neg h]
theorem txF_stop (f : Nat) (zs : List Int) (p : Int) (h : (gt zs p).2 < 0) : txF f zs p = [] := by
  cases f with
  | zero => rfl
  | succ f =>
    simp only [txF]
    by_cases hp : p < zs.length
    · rw [if_pos hp, if_pos h]
    · rw [if_neg hp]
theorem txF_more (f : Nat) (zs : List Int) (p : Int) (h1 : p < zs.length) (h2 : ¬ (gt zs p).2 < 0) : txF (f + 1) zs p = strOf (gt zs p).1 :: txF f zs (gt zs p).2 := by
  simp only [txF]; rw [if_pos h1, if_neg h2]
theorem strB (s : ByteArray) : strOf (bytesOf s) = s := by
  apply ByteArray.ext
  simp only [strOf, bytesOf, List.map_map]
  have : (List.map ((fun z : Int => UInt8.ofNat z.toNat) ∘ fun b : UInt8 => ((b.toNat : Nat) : Int)) s.data.toList) = s.data.toList := by
    conv => rhs; rw [← List.map_id s.data.toList]
    refine List.map_congr_left fun b _ => ?_
    simp
  rw [this]
theorem bytS (o : List Int) (hb : ∀ z ∈ o, 0 ≤ z ∧ z ≤ 255) : bytesOf (strOf o) = o := by
  unfold bytesOf strOf
  simp only [List.map_map]
  have : ∀ z ∈ o, ((fun b : UInt8 => (b.toNat : Int)) ∘ fun z : Int => UInt8.ofNat z.toNat) z = z := by
    intro z hz
    have := hb z hz
    simp only [Function.comp, UInt8.toNat_ofNat']
    omega
  rw [List.map_congr_left this]
  simp
theorem txF_parts (ss : List ByteArray) : ∀ (pre : List Int) (f : Nat), ss.length ≤ f → (∀ s ∈ ss, s.size ≤ 1048576) → txF f (pre ++ tparts ss) (pre.length : Int) = ss := by
  induction ss with
  | nil =>
    intro pre f _ _
    exact txF_end _ _ _ (by simp [tparts])
  | cons s ss ih =>
    intro pre f hf hs
    cases f with
    | zero => simp at hf
    | succ f =>
      have h1 := hs s (by simp)
      have hg := gt_part pre s (tparts ss) h1
      have e : pre ++ tparts (s :: ss) = pre ++ tpart s ++ tparts ss := by simp [tparts]
      have hpl : 1 ≤ (tpart s).length := by have := enc_len (s.size : Int); simp only [tpart, List.length_append]; omega
      rw [e, txF_more f _ _ (by simp only [List.length_append]; omega) (by rw [hg]; simp only; omega), hg]
      simp only
      rw [strB]
      congr 1
      have := ih (pre ++ tpart s) f (by simpa using hf) (fun x hx => hs x (by simp [hx]))
      rw [List.length_append] at this
      exact this
/-- The record that the program takes a mark and texts for. -/
def rcO (m : Int) (ss : List ByteArray) : RC :=
  if m = 119 ∧ ss.length = 2 then (1, ss[0]?.getD ⟨#[]⟩, ss[1]?.getD ⟨#[]⟩, ⟨#[]⟩, ⟨#[]⟩)
  else if m = 103 ∧ ss.length = 1 then (2, ss[0]?.getD ⟨#[]⟩, ⟨#[]⟩, ⟨#[]⟩, ⟨#[]⟩)
  else if m = 115 ∧ ss.length = 2 then (3, ⟨#[]⟩, ⟨#[]⟩, ss[0]?.getD ⟨#[]⟩, ss[1]?.getD ⟨#[]⟩)
  else if m = 120 ∧ ss.length = 2 then (4, ⟨#[]⟩, ⟨#[]⟩, ss[0]?.getD ⟨#[]⟩, ss[1]?.getD ⟨#[]⟩)
  else rc0
def kOf (m : Int) : Int := if m = 119 then 1 else if m = 103 then 2 else if m = 115 then 3 else if m = 120 then 4 else 0
/-- The record that the specification takes bytes for. -/
def rcS (zs : List Int) : RC :=
  if 2 < kOf (zs[0]?.getD 0) then (kOf (zs[0]?.getD 0), ⟨#[]⟩, ⟨#[]⟩, strOf (gt zs 1).1, strOf (gt zs (gt zs 1).2).1)
  else (kOf (zs[0]?.getD 0), strOf (gt zs 1).1, if kOf (zs[0]?.getD 0) = 1 then strOf (gt zs (gt zs 1).2).1 else ⟨#[]⟩, ⟨#[]⟩, ⟨#[]⟩)
def rcI (zs : List Int) : RC := rcO (zs[0]?.getD 0) (txF (zs.length + 1) (zs.drop 1) 0)
def rcTxt (r : RC) : ByteArray := rcTx r.1 r.2.1 r.2.2.1 r.2.2.2.1 r.2.2.2.2
theorem emptyB {s : ByteArray} (h : s.toList = []) : s = ⟨#[]⟩ := by
  rw [ByteArray.toList_eq] at h
  apply ByteArray.ext
  apply Array.ext'
  simpa using h
theorem rcBy_byte {k : Int} {ky vl lo hi : ByteArray} (h : rcOk k ky vl lo hi = true) : ∀ z ∈ rcBy k ky vl lo hi, 0 ≤ z ∧ z ≤ 255 := by
  intro z hz
  rcases List.mem_cons.1 hz with rfl | hz
  · unfold rcMark
    split
    · omega
    · split
      · omega
      · split <;> omega
  · exact tparts_byte _ (fun s hs => by have := rcPs_small h s hs; omega) z hz
/-- A right record is read again, by both. -/
theorem rc_back {k : Int} {ky vl lo hi : ByteArray} (h : rcOk k ky vl lo hi = true) : rcI (rcBy k ky vl lo hi) = (k, ky, vl, lo, hi) ∧ rcS (rcBy k ky vl lo hi) = (k, ky, vl, lo, hi) := by
  have hsm := rcPs_small h
  have hI : txF ((rcBy k ky vl lo hi).length + 1) ((rcBy k ky vl lo hi).drop 1) 0 = rcPs k ky vl lo hi := by
    have hp : ∀ ss : List ByteArray, ss.length ≤ (tparts ss).length := by
      intro ss
      induction ss with
      | nil => simp
      | cons s ss ih =>
        have := enc_len (s.size : Int)
        simp only [tparts, tpart, List.length_append, List.length_cons]
        omega
    have h1 := hp (rcPs k ky vl lo hi)
    have := txF_parts (rcPs k ky vl lo hi) [] ((rcBy k ky vl lo hi).length + 1) (by simp only [rcBy, List.length_cons]; omega) (fun s hs => by have := hsm s hs; omega)
    simpa [rcBy] using this
  have hm : (rcBy k ky vl lo hi)[0]?.getD 0 = rcMark k := rfl
  have g1 : ∀ a rest, a.size ≤ 20 → gt (rcMark k :: (tpart a ++ rest)) 1 = (bytesOf a, ((1 + (tpart a).length : Nat) : Int)) := by
    intro a rest ha
    have := gt_part [rcMark k] a rest (by omega)
    simpa using this
  have g2 : ∀ a b, b.size ≤ 20 → gt (rcMark k :: (tpart a ++ (tpart b ++ []))) ((1 + (tpart a).length : Nat) : Int) = (bytesOf b, ((1 + (tpart a).length + (tpart b).length : Nat) : Int)) := by
    intro a b hb
    have := gt_part (rcMark k :: tpart a) b [] (by omega)
    have e : ((rcMark k :: tpart a).length : Int) = ((1 + (tpart a).length : Nat) : Int) := by rw [List.length_cons, Nat.add_comm]
    rw [e] at this
    rw [show rcMark k :: (tpart a ++ (tpart b ++ [])) = rcMark k :: tpart a ++ tpart b ++ [] by simp, this]
    rw [List.length_cons, Nat.add_comm (tpart a).length 1]
  unfold rcI rcS
  rw [hm, hI]
  rcases rcOk_facts h with ⟨rfl, h1, h2, h3, h4⟩ | ⟨rfl, h1, h3, h4, h5⟩ | ⟨hk, h3, h4, h1, h2⟩
  · obtain rfl := emptyB h3
    obtain rfl := emptyB h4
    have e : rcBy 1 ky vl ⟨#[]⟩ ⟨#[]⟩ = rcMark 1 :: (tpart ky ++ (tpart vl ++ [])) := rfl
    rw [e, g1 ky _ (by omega)]
    simp only
    rw [g2 ky vl (by omega)]
    refine ⟨rfl, ?_⟩
    show (1, strOf (bytesOf ky), strOf (bytesOf vl), _, _) = _
    rw [strB, strB]
  · obtain rfl := emptyB h3
    obtain rfl := emptyB h4
    obtain rfl := emptyB h5
    have e : rcBy 2 ky ⟨#[]⟩ ⟨#[]⟩ ⟨#[]⟩ = rcMark 2 :: (tpart ky ++ []) := rfl
    rw [e, g1 ky _ (by omega)]
    refine ⟨rfl, ?_⟩
    show (2, strOf (bytesOf ky), _, _, _) = _
    rw [strB]
    rfl
  · obtain rfl := emptyB h3
    obtain rfl := emptyB h4
    rcases hk with rfl | rfl
    · have e : rcBy 3 ⟨#[]⟩ ⟨#[]⟩ lo hi = rcMark 3 :: (tpart lo ++ (tpart hi ++ [])) := rfl
      rw [e, g1 lo _ (by omega)]
      simp only
      rw [g2 lo hi (by omega)]
      refine ⟨rfl, ?_⟩
      show (3, _, _, strOf (bytesOf lo), strOf (bytesOf hi)) = _
      rw [strB, strB]
    · have e : rcBy 4 ⟨#[]⟩ ⟨#[]⟩ lo hi = rcMark 4 :: (tpart lo ++ (tpart hi ++ [])) := rfl
      rw [e, g1 lo _ (by omega)]
      simp only
      rw [g2 lo hi (by omega)]
      refine ⟨rfl, ?_⟩
      show (4, _, _, strOf (bytesOf lo), strOf (bytesOf hi)) = _
      rw [strB, strB]
/-- What TextRec answers. -/
def trV (s : ByteArray) : RC × Bool := if s.toList ≠ [] ∧ (rcTxt (rcS (bytesOf s))).toList = s.toList then (rcS (bytesOf s), true) else (rc0, false)
theorem toList_inj {a b : ByteArray} (h : a.toList = b.toList) : a = b := by
  rw [ByteArray.toList_eq, ByteArray.toList_eq] at h
  apply ByteArray.ext
  exact Array.ext' h
/-- What is read is written so, and right. -/
theorem rc_read {r : RC} {s : ByteArray} (hs : s.toList ≠ []) (h : (rcTxt r).toList = s.toList) : rcOk r.1 r.2.1 r.2.2.1 r.2.2.2.1 r.2.2.2.2 = true ∧ rcI (bytesOf s) = r ∧ rcS (bytesOf s) = r := by
  have e := toList_inj h
  unfold rcTxt rcTx at e
  by_cases hok : rcOk r.1 r.2.1 r.2.2.1 r.2.2.2.1 r.2.2.2.2 = true
  · rw [if_pos hok] at e
    rw [← e, bytS _ (rcBy_byte hok)]
    exact ⟨hok, rc_back hok⟩
  · rw [if_neg hok] at e
    refine absurd ?_ hs
    rw [← e, ByteArray.toList_eq]
theorem trV_impl (s : ByteArray) : trV s = if s.toList ≠ [] ∧ (rcTxt (rcI (bytesOf s))).toList = s.toList then (rcI (bytesOf s), true) else (rc0, false) := by
  unfold trV
  by_cases h : s.toList ≠ [] ∧ (rcTxt (rcS (bytesOf s))).toList = s.toList
  · obtain ⟨_, h1, h2⟩ := rc_read h.1 h.2
    rw [if_pos h, if_pos ⟨h.1, by rw [h1]; exact h.2⟩, h1]
  · by_cases k : s.toList ≠ [] ∧ (rcTxt (rcI (bytesOf s))).toList = s.toList
    · obtain ⟨_, h1, h2⟩ := rc_read k.1 k.2
      exact absurd ⟨k.1, by rw [h2]; exact k.2⟩ h
    · rw [if_neg h, if_neg k]
end Go.Proofs.YtbonkheoeohaiaaDoor
/-
  Messages read, in plain: what is read one behind the other; bytes that a message is written as are read as that message alone.
-/
namespace Go.Proofs.YtbonkheoeohaiaaDoor
open Go.RowKit
set_option linter.unusedVariables false
/-- Numbers read one behind the other, from the place p to the place q. -/
def NRd (zs : List Int) : Int → List Int → Int → Prop
  | p, [], q => p = q
  | p, n :: l, q => ∃ p', gv zs p = (n, p') ∧ NRd zs p' l q
/-- Texts read one behind the other. -/
def TRd (zs : List Int) : Int → List ByteArray → Int → Prop
  | p, [], q => p = q
  | p, s :: l, q => ∃ p', (strOf (gt zs p).1, (gt zs p).2) = (s, p') ∧ TRd zs p' l q
/-- Pairs of texts read one behind the other. -/
def PRd (zs : List Int) : Int → List PB → Int → Prop
  | p, [], q => p = q
  | p, s :: l, q => ∃ p', TRd zs p [s.1, s.2] p' ∧ PRd zs p' l q
theorem NRd.snoc {zs : List Int} {l : List Int} : ∀ {p q : Int}, NRd zs p l q → NRd zs p (l ++ [(gv zs q).1]) (gv zs q).2 := by
  induction l with
  | nil => intro p q h; subst h; exact ⟨_, rfl, rfl⟩
  | cons n l ih => intro p q h; obtain ⟨p', h1, h2⟩ := h; exact ⟨p', h1, ih h2⟩
theorem TRd.snoc {zs : List Int} {l : List ByteArray} : ∀ {p q : Int}, TRd zs p l q → TRd zs p (l ++ [strOf (gt zs q).1]) (gt zs q).2 := by
  induction l with
  | nil => intro p q h; subst h; exact ⟨_, rfl, rfl⟩
  | cons n l ih => intro p q h; obtain ⟨p', h1, h2⟩ := h; exact ⟨p', h1, ih h2⟩
theorem PRd.snoc {zs : List Int} {l : List PB} {a b : ByteArray} {r : Int} : ∀ {p q : Int}, PRd zs p l q → TRd zs q [a, b] r → PRd zs p (l ++ [(a, b)]) r := by
  induction l with
  | nil => intro p q h k; subst h; exact ⟨_, k, rfl⟩
  | cons n l ih => intro p q h k; obtain ⟨p', h1, h2⟩ := h; exact ⟨p', h1, ih h2 k⟩
theorem nrd_enc (l : List Int) : ∀ (pre rest l' : List Int) (q : Int) (zs : List Int), zs = pre ++ (nparts l ++ rest) → (∀ m ∈ l, 0 ≤ m ∧ m ≤ 1099511627775) → l'.length = l.length → NRd zs (pre.length : Int) l' q → l' = l ∧ q = ((pre ++ nparts l).length : Int) := by
  induction l with
  | nil =>
    intro pre rest l' q zs hz hb hl h
    obtain rfl := List.eq_nil_of_length_eq_zero hl
    have h' : (pre.length : Int) = q := h
    exact ⟨rfl, by simp [nparts, ← h']⟩
  | cons n l ih =>
    intro pre rest l' q zs hz hb hl h
    cases l' with
    | nil => simp at hl
    | cons n' l' =>
      obtain ⟨p', h1, h2⟩ := h
      have h0 := hb n (by simp)
      have e : zs = pre ++ enc n ++ (nparts l ++ rest) := by rw [hz]; simp [nparts, List.append_assoc]
      have hg := gv_enc pre (nparts l ++ rest) n h0.1 h0.2
      rw [← e, h1] at hg
      obtain ⟨rfl, rfl⟩ : n' = n ∧ p' = ((pre.length + (enc n).length : Nat) : Int) := by simpa using hg
      have hpl : ((pre.length + (enc n').length : Nat) : Int) = ((pre ++ enc n').length : Int) := by simp
      rw [hpl] at h2
      obtain ⟨rfl, rfl⟩ := ih (pre ++ enc n') rest l' q zs e (fun m hm => hb m (by simp [hm])) (by simpa using hl) h2
      exact ⟨rfl, by simp [nparts, List.append_assoc]⟩
theorem trd_enc (l : List ByteArray) : ∀ (pre rest : List Int) (l' : List ByteArray) (q : Int) (zs : List Int), zs = pre ++ (tparts l ++ rest) → (∀ m ∈ l, m.size ≤ 1048576) → l'.length = l.length → TRd zs (pre.length : Int) l' q → l' = l ∧ q = ((pre ++ tparts l).length : Int) := by
  induction l with
  | nil =>
    intro pre rest l' q zs hz hb hl h
    obtain rfl := List.eq_nil_of_length_eq_zero hl
    have h' : (pre.length : Int) = q := h
    exact ⟨rfl, by simp [tparts, ← h']⟩
  | cons n l ih =>
    intro pre rest l' q zs hz hb hl h
    cases l' with
    | nil => simp at hl
    | cons n' l' =>
      obtain ⟨p', h1, h2⟩ := h
      have h0 := hb n (by simp)
      have e : zs = pre ++ tpart n ++ (tparts l ++ rest) := by rw [hz]; simp [tparts, List.append_assoc]
      have hg := gt_part pre n (tparts l ++ rest) h0
      rw [← e] at hg
      rw [hg, strB] at h1
      obtain ⟨rfl, rfl⟩ : n = n' ∧ ((pre.length + (tpart n).length : Nat) : Int) = p' := by simpa using h1
      have hpl : ((pre.length + (tpart n).length : Nat) : Int) = ((pre ++ tpart n).length : Int) := by simp
      rw [hpl] at h2
      obtain ⟨rfl, rfl⟩ := ih (pre ++ tpart n) rest l' q zs e (fun m hm => hb m (by simp [hm])) (by simpa using hl) h2
      exact ⟨rfl, by simp [tparts, List.append_assoc]⟩
theorem prd_enc (l : List PB) : ∀ (pre rest : List Int) (l' : List PB) (q : Int) (zs : List Int), zs = pre ++ (pparts l ++ rest) → (∀ m ∈ l, m.1.size ≤ 20 ∧ m.2.size ≤ 20) → l'.length = l.length → PRd zs (pre.length : Int) l' q → l' = l ∧ q = ((pre ++ pparts l).length : Int) := by
  induction l with
  | nil =>
    intro pre rest l' q zs hz hb hl h
    obtain rfl := List.eq_nil_of_length_eq_zero hl
    have h' : (pre.length : Int) = q := h
    exact ⟨rfl, by simp [pparts, ← h']⟩
  | cons n l ih =>
    intro pre rest l' q zs hz hb hl h
    cases l' with
    | nil => simp at hl
    | cons n' l' =>
      obtain ⟨p', h1, h2⟩ := h
      have h0 := hb n (by simp)
      have e : zs = pre ++ (tparts [n.1, n.2] ++ (pparts l ++ rest)) := by rw [hz]; simp [pparts, tparts, List.append_assoc]
      obtain ⟨e1, e2⟩ := trd_enc [n.1, n.2] pre (pparts l ++ rest) [n'.1, n'.2] p' zs e (fun m hm => by simp only [List.mem_cons, List.not_mem_nil, or_false] at hm; rcases hm with rfl | rfl <;> omega) rfl h1
      have hn : n' = n := by
        simp only [List.cons.injEq, and_true] at e1
        exact Prod.ext e1.1 e1.2
      subst hn
      rw [e2] at h2
      obtain ⟨rfl, rfl⟩ := ih (pre ++ tparts [n'.1, n'.2]) rest l' q zs (by rw [e, List.append_assoc]) (fun m hm => hb m (by simp [hm])) (by simpa using hl) h2
      exact ⟨rfl, by simp [pparts, tparts, List.append_assoc]⟩
/-- A message as plain data. -/
structure MS where
  kd : Int
  c : Int
  e : Int
  n : Int
  sh : Int
  nu : Int
  st : Int
  k : Int
  ky : ByteArray
  vl : ByteArray
  lo : ByteArray
  hi : ByteArray
  mo : Int
  bk : Bool
  cd : Int
  ps : List PB
  ys : Bool
def MS.bytes (m : MS) : Option (List Int) := mgBytes m.kd m.c m.e m.n m.sh m.nu m.st m.k m.ky m.vl m.lo m.hi m.mo m.bk m.cd m.ps m.ys
/-- What is read of zs as a message, at most K pairs of it. -/
def Trc (K : Int) (zs : List Int) (m : MS) : Prop := ∃ p1 p2 p3 p4 p5 b t y : Int, NRd zs 0 [m.kd, m.c, m.e, m.n, m.sh, m.nu, m.st, m.k] p1 ∧ TRd zs p1 [m.ky, m.vl, m.lo, m.hi] p2 ∧ NRd zs p2 [m.mo, b, m.cd, t] p3 ∧ PRd zs p3 m.ps p4 ∧ (m.ps.length : Int) = max 0 (min t K) ∧ NRd zs p4 [y] p5 ∧ m.bk = decide (b = 1) ∧ m.ys = decide (y = 1)
theorem bit_one (b : Bool) : decide (bit b = 1) = b := by cases b <;> rfl
/-- The bytes of a message are read as that message. -/
theorem trc_bytes {K : Int} (hK : 8 ≤ K) {zs : List Int} {m m' : MS} (h : Trc K zs m) (h' : m'.bytes = some zs) : m = m' := by
  obtain ⟨p1, p2, p3, p4, p5, b, t, y, h1, h2, h3, h4, h5, h6, h7, h8⟩ := h
  obtain ⟨kd, c, e, n, sh, nu, st, k, ky, vl, lo, hi, mo, bk, cd, ps, ys⟩ := m
  obtain ⟨kd', c', e', n', sh', nu', st', k', ky', vl', lo', hi', mo', bk', cd', ps', ys'⟩ := m'
  simp only [MS.bytes, mgBytes] at h'
  simp only at h1 h2 h3 h4 h5 h6 h7 h8
  split at h'
  · rename_i hok
    have hF := mgOk_facts hok
    have hz : zs = mgBy kd' c' e' n' sh' nu' st' k' ky' vl' lo' hi' mo' bk' cd' ps' ys' := (Option.some.inj h').symm
    unfold mgBy at hz
    obtain ⟨e1, e2⟩ := nrd_enc _ [] _ [kd, c, e, n, sh, nu, st, k] p1 zs hz hF.n1 rfl h1
    rw [e2, List.nil_append] at h2
    obtain ⟨e3, e4⟩ := trd_enc _ (nparts [kd', c', e', n', sh', nu', st', k']) _ [ky, vl, lo, hi] p2 zs hz (fun m hm => by have := hF.s1 m hm; omega) rfl h2
    rw [e4] at h3
    obtain ⟨e5, e6⟩ := nrd_enc _ (nparts [kd', c', e', n', sh', nu', st', k'] ++ tparts [ky', vl', lo', hi']) _ [mo, b, cd, t] p3 zs (by rw [hz, List.append_assoc]) (mgN4 hF.hmo hF.hcd hF.hpl) rfl h3
    rw [e6] at h4
    simp only [List.cons.injEq, and_true] at e1 e3 e5
    obtain ⟨f1, f2, f3, f4, f5, f6, f7, f8⟩ := e1
    obtain ⟨g1, g2, g3, g4⟩ := e3
    obtain ⟨i1, i2, i3, i4⟩ := e5
    have hpl := hF.hpl
    have hlen : ps.length = ps'.length := by
      rw [i4] at h5
      omega
    obtain ⟨e7, e8⟩ := prd_enc ps' ((nparts [kd', c', e', n', sh', nu', st', k'] ++ tparts [ky', vl', lo', hi']) ++ nparts [mo', bit bk', cd', (ps'.length : Int)]) (enc (bit ys')) ps p4 zs (by rw [hz]; simp only [List.append_assoc]) hF.hps hlen h4
    rw [e8] at h6
    have hyb := bit_bound ys'
    obtain ⟨e9, _⟩ := nrd_enc [bit ys'] (((nparts [kd', c', e', n', sh', nu', st', k'] ++ tparts [ky', vl', lo', hi']) ++ nparts [mo', bit bk', cd', (ps'.length : Int)]) ++ pparts ps') [] [y] p5 zs (by rw [hz]; simp only [nparts, List.append_assoc, List.append_nil]) (fun m hm => by simp only [List.mem_cons, List.not_mem_nil, or_false] at hm; subst hm; omega) rfl h6
    simp only [List.cons.injEq, and_true] at e9
    subst f1 f2 f3 f4 f5 f6 f7 f8 g1 g2 g3 g4 i1 i3 e7
    rw [i2, bit_one] at h7
    rw [e9, bit_one] at h8
    subst h7 h8
    rfl
  · cases h'
end Go.Proofs.YtbonkheoeohaiaaDoor
/-
  What the law's helpers do with slices of strings and of numbers: copied, held against each other, sizes summed.
-/
namespace Go.Proofs.YtbonkheoeohaiaaDoor
open Go.RowKit

def szOkS (l : List ByteArray) : Prop := ∀ i, (sAt l i).size ≤ 9223372036854775807
end Go.Proofs.YtbonkheoeohaiaaDoor
/-
  What the law's helpers do with nodes and trees: copied, sizes summed, held against each other.
-/
namespace Go.Proofs.YtbonkheoeohaiaaDoor
open Go.RowKit

end Go.Proofs.YtbonkheoeohaiaaDoor
/-
  What the law's helpers do with slices of nodes and with trees.
-/
namespace Go.Proofs.YtbonkheoeohaiaaDoor
open Go.RowKit

def smallN (ns : List NB) : Prop := ∀ i, i < ns.length → (nAt ns i).ps.length ≤ 1048576 ∧ (nAt ns i).keys.length ≤ 1048576 ∧ (nAt ns i).kids.length ≤ 1048576
theorem N1.grow {w w' : World} {B : Nat} {p : V3} {x : NB} (h : N1 w (fun b => B < b ∧ Uf w b) p x) (ho : Only (fun b => b = B) w w') : N1 w' (fun b => B < b ∧ Uf w' b) p x :=
  (h.to ho (fun b hb _ e => by have := hb.1; omega)).mono (fun b hb _ => ⟨hb.1, hb.2.to ho (by have := hb.1; omega)⟩)
theorem N1.fresh {w : World} {B g0 g1 g2 : Nat} {x : NB} {np nx ni : Nat} (h0 : B < g0) (h1 : B < g1) (h2 : B < g2) (k0 : Bk w g0 69 (pcs x.ps)) (k1 : Bk w g1 9 (x.keys.map Value.string)) (k2 : Bk w g2 3 (x.kids.map (Value.int .i64)))
    (l0 : np = x.ps.length) (l1 : nx = x.keys.length) (l2 : ni = x.kids.length) (b0 : np ≤ 1048576) (b1 : nx ≤ 1048576) (b2 : ni ≤ 1048576) :
    N1 w (fun b => B < b ∧ Uf w b) (.slice (some ⟨g0, 0, none⟩) np np, .slice (some ⟨g1, 0, none⟩) nx nx, .slice (some ⟨g2, 0, none⟩) ni ni) x := by
  refine ⟨k0.pr l0 (by omega) _ ⟨h0, k0.uf⟩, ?_, ?_⟩
  · subst l1
    exact k1.rw (Nat.le_refl _) (by omega) (fun e => by rw [List.eq_nil_of_length_eq_zero e]; rfl) _ ⟨h1, k1.uf⟩
  · subst l2
    exact k2.rw (Nat.le_refl _) (by omega) (fun e => by rw [List.eq_nil_of_length_eq_zero e]; rfl) _ ⟨h2, k2.uf⟩
theorem vAt_set (V : List V3) (j : Nat) (p : V3) (h : j < V.length) : vAt (V.set j p) j = p := by simp [vAt, h]
theorem vAt_other (V : List V3) (j i : Nat) (p : V3) (h : i ≠ j) : vAt (V.set j p) i = vAt V i := by simp [vAt, Ne.symm h]
theorem made_nodes (n : Nat) : madeCells (Value.agg #[.slice none 0 0, .slice none 0 0, .slice none 0 0]).cells (n * 3) = (ncs (List.replicate n (.slice none 0 0, .slice none 0 0, .slice none 0 0))).toArray := by
  apply Array.ext
  · simp [madeCells, ncs_length]
  · intro i h1 h2
    simp [ncs_length] at h2
    simp only [madeCells, List.getElem_toArray]
    have h3 : (ncs (List.replicate n ((.slice none 0 0, .slice none 0 0, .slice none 0 0) : V3)))[i]? = some (.slice none 0 0) := by
      obtain ⟨c0, c1, c2⟩ := ncs_at (List.replicate n ((.slice none 0 0, .slice none 0 0, .slice none 0 0) : V3)) (i / 3) (by simp; omega)
      simp [vAt, show i / 3 < n by omega] at c0 c1 c2
      have : i % 3 = 0 ∨ i % 3 = 1 ∨ i % 3 = 2 := by omega
      rcases this with e | e | e
      · rw [show i / 3 * 3 = i by omega] at c0; exact c0
      · rw [show i / 3 * 3 + 1 = i by omega] at c1; exact c1
      · rw [show i / 3 * 3 + 2 = i by omega] at c2; exact c2
    have h4 := List.getElem?_eq_some_iff.1 h3
    rw [h4.2]
    have : i % 3 = 0 ∨ i % 3 = 1 ∨ i % 3 = 2 := by omega
    rcases this with e | e | e <;> simp [Value.cells, e]
end Go.Proofs.YtbonkheoeohaiaaDoor
/-
  A limb of the program: a pointer to a struct of two slices, its pairs and its kids; which blocks it has for its own.
-/
namespace Go.Proofs.YtbonkheoeohaiaaDoor
open Go.RowKit

def tAt (ks : List T) (i : Nat) : T := ks[i]?.getD default
def ptr (b : Nat) : Value := .pointer (some ⟨b, 0, none⟩)
def ptrs (A : Nat → Nat) (n : Nat) : List Value := (List.range n).map fun i => ptr (A i)
theorem ptrs_at (A : Nat → Nat) (n i : Nat) (h : i < n) : (ptrs A n)[i]? = some (ptr (A i)) := by simp [ptrs, h]
theorem own_max {w : World} {base : Nat} {e : TypeId} {size : Nat} {v : Value} {n : Nat} {xs : List Value} (h : w.ownsRow base e size v n xs) : n ≤ maxLen := by
  rcases h.2 with ⟨rfl, rfl⟩ | ⟨g, cap, cur, rfl, _, _, h5, h6, _⟩
  · exact Nat.zero_le _
  · exact Nat.le_trans h5 h6
theorem undrew (w : World) (q : Nat) : Below (w.drewN q).heap.size (w.drewN q) w := ⟨rfl, rfl, rfl, Nat.le_refl _, fun _ _ => rfl⟩
def T.bare (t : T) : Bool := decide (t.ps.length + t.ks.length = 0)
/-- The first leaf below has a pair. -/
def T.ne : T → Prop
  | .mk ps [] => ps ≠ []
  | .mk _ (k :: _) => k.ne
def T.dpt (t : T) : Nat := if t.bare = true then 0 else t.lv
end Go.Proofs.YtbonkheoeohaiaaDoor
/-
  Appending pairs to a row of one's own; the method all: it adds the pairs below a limb.
-/
namespace Go.Proofs.YtbonkheoeohaiaaDoor
open Go.RowKit

/-- The slice value v owns, from block base on, a row of the pairs l. -/
def Ow (w : World) (base : Nat) (v : Value) (l : List PB) : Prop := w.ownsRow base 69 2 v l.length (pcs l)
theorem Ow.to {w w' : World} {R : Nat → Prop} {base : Nat} {v : Value} {l : List PB} (h : Ow w base v l) (ho : Only R w w') (hR : ∀ k, v.ownBlock = some k → ¬ R k) : Ow w' base v l := own_kept h ho hR
theorem Ow.kept {w w' : World} {base : Nat} {v : Value} {l : List PB} (h : Ow w base v l) (hb : Below w.heap.size w w') : Ow w' base v l := h.to (only_of_below hb (fun _ => False)) (fun _ _ h => h)
theorem Ow.pr {w : World} {base : Nat} {v : Value} {l : List PB} (h : Ow w base v l) {S : Nat → Prop} (hS : ∀ k, v.ownBlock = some k → base ≤ k → k < w.heap.size → S k) : Pr w S v l := rw_own h hS
theorem Ow.shape' {w : World} {base : Nat} {v : Value} {l : List PB} (h : Ow w base v l) : ∃ a n c, v = .slice a n c ∧ Hid (n = l.length) := by
  obtain ⟨a, c, rfl⟩ := own_shape h
  exact ⟨a, _, c, rfl, rfl⟩
theorem Ow.shape {w : World} {base : Nat} {v : Value} {l : List PB} (h : Ow w base v l) : ∃ a c, v = .slice a l.length c := own_shape h
theorem ow_nil (w : World) (base : Nat) : Ow w base (.slice none 0 0) [] := World.ownsRow_nil w base _ _
theorem wpList_append_pairs {w : World} {ops : Array Oper} {rest : List Oper} {o : Oper} {a : Act} {Q : Exit → Act → World → Prop} (hgd : o.guard = none) (s x : Operand)
    (ho : o.op = .call { callee := .builtin .append, args := #[s, x], argTypes := #[29, 29] }) (base : Nat) (v : Value) (l : List PB) (hs : a.eval s = v) (hown : Ow w base v l)
    (S : Nat → Prop) (src : Value) (m : List PB) (hx : a.eval x = src) (hsrc : Pr w S src m) (hb : l.length + m.length ≤ 2097154) (hbase : base ≤ w.heap.size)
    (h : ∀ v' w', Ow w' base v' (l ++ m) → w.grownBy w' v.ownBlock → wpList Tryd.prog ops Q rest (a.put o.dst v') w') : wpList Tryd.prog ops Q (o :: rest) a w := by
  obtain ⟨i, hi, hz, hsz, hby⟩ := info_of infoPairI
  refine wpList_append_row hgd s x 29 ho base 69 i _ 2 32 Tryd.underlying29 hi hz hsz hby rfl (by decide) v l.length (pcs l) hs hown S src m.length (pcs m) hx hsrc (pcs_length m) (pcs_one m) (by unfold maxLen; omega) (by omega) hbase ?_
  intro v' w' h1 h2
  refine h v' w' ?_ h2
  unfold Ow
  rw [List.length_append, pcs_append]
  exact h1
theorem only_of_belowB {B : Nat} {w w' : World} (h : Below B w w') : Only (fun b => B ≤ b) w w' := ⟨h.os, h.tape, h.output, h.size, fun b _ hn => h.block b (by omega)⟩
theorem grown_belowB {w w' : World} {base : Nat} {v : Value} {l : List PB} (h : Ow w base v l) (hg : w.grownBy w' v.ownBlock) (hB : base ≤ w.heap.size) : Below base w w' := (Below.refl _ _).grown hg hB fun k hk => (World.ownsRow.lt h k hk).1
theorem allL_take (ks : List T) (k : Nat) (h : k < ks.length) : allL (ks.take (k + 1)) = allL (ks.take k) ++ (tAt ks k).all := by
  induction ks generalizing k with
  | nil => simp at h
  | cons x ks ih =>
    cases k with
    | zero => simp [allL, tAt]
    | succ k =>
      have := ih k (by simpa using h)
      simp only [List.take_succ_cons, allL, this, List.append_assoc]
      rfl
theorem allL_take_le (ks : List T) (k : Nat) : (allL (ks.take k)).length ≤ (allL ks).length := by
  induction ks generalizing k with
  | nil => simp [allL]
  | cons x ks ih =>
    cases k with
    | zero => simp [allL]
    | succ k =>
      have := ih k
      simp only [List.take_succ_cons, allL, List.length_append]
      omega
end Go.Proofs.YtbonkheoeohaiaaDoor
/-
  slices.Clone of pairs; readLeaf.
-/
namespace Go.Proofs.YtbonkheoeohaiaaDoor
open Go.RowKit

theorem ow_new (w : World) (B : Nat) (hB : B ≤ w.heap.size) : Ow (w.alloc (.cells #[] 69)) B (.slice (some ⟨w.heap.size, 0, none⟩) 0 0) [] :=
  ⟨rfl, .inr ⟨w.heap.size, 0, #[], rfl, hB, heap_alloc_new w _, Nat.le_refl _, by decide, rfl, rfl⟩⟩
theorem own_mono {w : World} {base base' : Nat} {e : TypeId} {size : Nat} {v : Value} {n : Nat} {xs : List Value} (h : w.ownsRow base e size v n xs) (hb : base' ≤ base) : w.ownsRow base' e size v n xs := by
  refine ⟨h.1, ?_⟩
  rcases h.2 with h2 | ⟨g, cap, cur, h3, h4, h5⟩
  · exact .inl h2
  · exact .inr ⟨g, cap, cur, h3, Nat.le_trans hb h4, h5⟩
def leafT (x : NB) (root : Bool) : Option T := if leafOk x root = true then some (.mk x.ps []) else none
end Go.Proofs.YtbonkheoeohaiaaDoor
/-
  Rows of pointers to limbs that are appended to; what is known of a tree that was read.
-/
namespace Go.Proofs.YtbonkheoeohaiaaDoor
open Go.RowKit

/-- append(dst, src...), and where the new row lies. -/
theorem ptrs_snoc (A : Nat → Nat) (n b : Nat) : ptrs A n ++ [ptr b] = ptrs (fun i => if i = n then b else A i) (n + 1) := by
  simp only [ptrs, List.range_succ, List.map_append, List.map_cons, List.map_nil, if_true]
  congr 1
  apply List.map_congr_left
  intro i hi
  rw [if_neg (by have := List.mem_range.1 hi; omega)]
theorem tAt_snoc (ts : List T) (t : T) (i : Nat) (h : i < (ts ++ [t]).length) : tAt (ts ++ [t]) i = if i = ts.length then t else tAt ts i := by
  by_cases e : i = ts.length
  · subst e; simp [tAt]
  · simp at h
    rw [if_neg e]
    simp [tAt, List.getElem?_append_left (show i < ts.length by omega)]
theorem full_ne : ∀ (t : T) (r : Bool), t.full r = true → t.ne
  | .mk ps [], r, h => by
    have := full_lf h
    show ps ≠ []
    rintro rfl
    simp at this
  | .mk ps (k :: ks), r, h => by
    have := full_br h (by simp)
    exact full_ne k false (this.2.2.2 k (by simp))
/-- What the methods ask of a tree. -/
structure Rdy (t : T) : Prop where
  ne : t.ne
  bare : t.bare = false
  few : t.ps.length + t.ks.length ≤ 1048576
  lv : t.lv ≤ 1048576
theorem full_few {t : T} {r : Bool} (h : t.full r = true) : t.ps.length + t.ks.length ≤ 8 ∧ t.bare = false := by
  obtain ⟨ps, ks⟩ := t
  by_cases hk : ks = []
  · subst hk
    have := full_lf h
    simp [T.ps, T.ks, T.bare]
    refine ⟨by omega, ?_⟩
    rintro rfl
    simp at this
  · have := full_br h hk
    simp only [T.ps, T.ks, T.bare, this.2.2.1, List.length_nil, decide_eq_false_iff_not]
    omega
theorem rdy_of {h : Nat} {t : T} {r : Bool} (e : Ev h t) (hu : t.full r = true) (hs : t.size ≤ 1048576) : Rdy t := by
  have h1 := full_few hu
  have h2 := ev_le_size e hu
  have h3 := ev_lv h t e
  exact ⟨full_ne t r hu, h1.2, by omega, by omega⟩
theorem pre_len {ns l : List NB} {a : Nat} (h : Pre ns a l) (hl : 0 < l.length) : a + l.length ≤ ns.length := by
  have := h (l.length - 1) (by omega)
  rw [List.getElem?_eq_getElem (by omega : l.length - 1 < l.length)] at this
  have := (List.getElem?_eq_some_iff.1 this).1
  omega
theorem rdI_rdy {ns : List NB} {f : Nat} {pl : Int} {nx n1 : Nat} {t : T} (h : rdI ns f pl nx = some (t, n1)) (hl : ns.length ≤ 1048576) : Rdy t ∧ n1 ≤ ns.length ∧ nx < n1 := by
  obtain ⟨_, h2, h3, ⟨e, h4⟩, h5, rfl⟩ := rdI_sound ns f pl nx t n1 h
  have h6 := pre_len h5 (by rw [lay_length]; exact T.size_pos t)
  rw [lay_length] at h6
  have := T.size_pos t
  exact ⟨rdy_of h4 h3 (by omega), by omega, by omega⟩
def brT (ns : List NB) (f : Nat) (x : NB) (nx : Nat) : Option (T × Nat) := if brOk x = true then (match rdIL (rdI ns f) x.keys [] x.kids nx with
  | none => none
  | some (ts, n) => some (.mk [] ts, n)) else none
end Go.Proofs.YtbonkheoeohaiaaDoor
/-
  copy of elements of more than one cell into a row that is known whole. Nothing here speaks of the program.
-/
namespace Go.Proofs.YtbonkheoeohaiaaDoor
open Go.RowKit
theorem run_copy_rowK {P : Program} (w : World) (dT sT ty elem : TypeId) (g o dLen dCap : Nat) (a : Addr) (sLen sCap size : Nat) (cur : List Value) (t : TypeId) (cs : List Value)
    (hu : P.underlying dT = some (.slice elem)) (hs : (P.info? elem).map (·.size) = some size)
    (hg : Bk w g t cur) (hn : cs.length = Nat.min sLen dLen * size)
    (hsrc : ∀ j v, cs[j]? = some v → w.cell? (a.add j) = some v) (hfit : o + cs.length ≤ cur.length) (h1 : ∀ v ∈ cs, v.oneCell' = true) :
    (Builtin.copy_ #[dT, sT] ty #[.slice (some ⟨g, o, none⟩) dLen dCap, .slice (some a) sLen sCap]).run P w =
      .ok (goInt (Nat.min sLen dLen)) (w.setRow g (cur.take o ++ cs ++ cur.drop (o + cs.length)).toArray) := by
  have hl := run_loadCells_list (P := P) w a cs hsrc
  have hst := run_storeCells_at P g o t cs 0 cur.toArray w hg (by simpa using hfit) h1
  cases hq : P.info? elem with
  | none => simp [hq] at hs
  | some i =>
    have hi : i.size = size := by simpa [hq] using hs
    simp only [Nat.add_zero] at hst
    simp [Builtin.copy_, run_underlying hu, Builtin.lenOf, Builtin.firstCells, sizeOf, typeInfo, hq, hi, ← hn, hl, hst]
theorem Bk.setRow {w : World} {g : Nat} {T : TypeId} {xs : List Value} (h : Bk w g T xs) (ys : List Value) : Bk (w.setRow g ys.toArray) g T ys := setRow_heap w g _ _ T _ h
theorem only_setRow {R : Nat → Prop} {w : World} {g : Nat} (h : R g) (cs : Array Value) : Only R w (w.setRow g cs) := by
  refine ⟨rfl, rfl, rfl, by simp [World.setRow], fun b _ hn => ?_⟩
  have : b ≠ g := fun e => hn (e ▸ h)
  simp [World.setRow, Array.getElem?_modify, Ne.symm this]
theorem wpList_copy_run {P : Program} (w : World) {ops : Array Oper} {rest : List Oper} {o : Oper} {a : Act} {Q : Exit → Act → World → Prop} (hgd : o.guard = none) (d s : Operand) (t t' : TypeId)
    (ho : o.op = .call { callee := .builtin .copy, args := #[d, s], argTypes := #[t, t'] }) (v u : Value) (hd : a.eval d = v) (hs : a.eval s = u) {v' : Value} {w' : World}
    (hr : (Builtin.copy_ #[t, t'] o.type #[v, u]).run P w = .ok v' w') (h : wpList P ops Q rest (a.put o.dst v') w') : wpList P ops Q (o :: rest) a w := by
  refine wpList_plain hgd fun K hK => ?_
  unfold Oper.wp execOp
  simp only [ho, resolve, invoke, builtin, Sem.run_bind, Sem.run_pure, Result.andThen_ok, List.map_toArray, List.map_cons, List.map_nil, hd, hs, hr]
  exact hK _ _ h
theorem step_copy_run {P : Program} {ops : Array Oper} {o : Oper} {a : Act} {w : World} {K : Act → World → Prop} {Q : Exit → Act → World → Prop} {E : Prop}
    (hg : o.guard = none) (d x : Operand) (dT sT : TypeId) (hop : o.op = Op.call { callee := Callee.builtin Builtin.copy, args := #[d, x], argTypes := #[dT, sT] })
    (v u : Value) (hd : a.eval d = v) (hx : a.eval x = u) {v' : Value} {w' : World} (hr : (Builtin.copy_ #[dT, sT] o.type #[v, u]).run P w = .ok v' w') (hK : K (a.put o.dst v') w') :
    if Region.wanted o (yielded ops a.tmps) = true then Oper.wp P o a w K Q else E := by
  have hw : Region.wanted o (yielded ops a.tmps) = true := by simp [Region.wanted, hg]
  rw [if_pos hw]
  unfold Oper.wp
  simp [execOp, hop, resolve, invoke, builtin, hd, hx, hr, Result.andThen]
  exact hK
theorem drop_at {A Z : List Value} {m : Nat} (h : A.length = m) (k : Nat) : (A ++ Z).drop (m + k) = Z.drop k := by rw [← h, List.drop_length_add_append]
theorem take_at {A Z : List Value} {m : Nat} (h : A.length = m) : (A ++ Z).take m = A := by rw [← h, List.take_left']; rfl
theorem bk_take {w : World} {g : Nat} {T : TypeId} {cl : List Value} (h : Bk w g T cl) {m j : Nat} {u : Value} (hu : (cl.take m)[j]? = some u) : w.cell? ⟨g, j, none⟩ = some u := by
  refine h.cell ?_
  rw [List.getElem?_take] at hu
  split at hu
  · exact hu
  · cases hu
/-- What a row holds behind an insertion in place. -/
theorem ins_list (cur ys : List Value) (i n s : Nat) (hn : (n + 1) * s ≤ cur.length) (hi : i ≤ n) (hy : ys.length = s) :
    let c1 := cur.take ((i + 1) * s) ++ (cur.take (n * s)).drop (i * s) ++ cur.drop ((i + 1) * s + ((cur.take (n * s)).drop (i * s)).length)
    (c1.take (i * s) ++ ys ++ c1.drop (i * s + ys.length)).take ((n + 1) * s) = (cur.take (n * s)).take (i * s) ++ ys ++ (cur.take (n * s)).drop (i * s) := by
  have e1 : (i + 1) * s = i * s + s := by rw [Nat.add_mul, Nat.one_mul]
  have e2 : (n + 1) * s = n * s + s := by rw [Nat.add_mul, Nat.one_mul]
  have e3 : i * s ≤ n * s := Nat.mul_le_mul_right s hi
  have hl : ((cur.take (n * s)).drop (i * s)).length = n * s - i * s := by rw [List.length_drop, List.length_take]; omega
  intro c1
  have hA : (cur.take ((i + 1) * s)).length = i * s + s := by rw [List.length_take]; omega
  have hc1t : c1.take (i * s) = cur.take (i * s) := by
    show (cur.take ((i + 1) * s) ++ _ ++ _).take (i * s) = _
    rw [List.append_assoc, List.take_append_of_le_length (by omega), List.take_take, Nat.min_eq_left (by omega)]
  have hc1d : c1.drop (i * s + ys.length) = (cur.take (n * s)).drop (i * s) ++ cur.drop ((i + 1) * s + ((cur.take (n * s)).drop (i * s)).length) := by
    show (cur.take ((i + 1) * s) ++ _ ++ _).drop (i * s + ys.length) = _
    rw [List.append_assoc, List.drop_append_of_le_length (by omega), List.drop_eq_nil_of_le (by omega), List.nil_append]
  rw [hc1t, hc1d, List.take_take, Nat.min_eq_left e3]
  rw [← List.append_assoc]
  rw [List.take_append_of_le_length (by simp only [List.length_append, List.length_take, hl]; omega)]
  rw [List.take_of_length_le (by simp only [List.length_append, List.length_take, hl]; omega)]
end Go.Proofs.YtbonkheoeohaiaaDoor
