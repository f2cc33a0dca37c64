/-
  The decimal text of a number: what the model's NumText answers.
-/
import Derived.Test.YtgnjknbgahickaaDoorRows
import Derived.WalkKit
import Derived.WalkSpells
import Derived.Deep.RegionWith
import Derived.Lib.ItoaNum
namespace Go.Proofs.YtgnjknbgahickaaDoor
open Go.RowKit

theorem hid {p : Prop} (h : p) : Hid p := h
theorem block_lt {w : World} {x : Addr} {v : Value} (h : w.cell? x = some v) : x.block < w.heap.size := by
  rcases Nat.lt_or_ge x.block w.heap.size with h' | h'
  · exact h'
  · simp [World.cell?, Array.getElem?_eq_none h'] at h
/-- The text of a number. -/
def numS (n : Int) : ByteArray := if 0 ≤ n ∧ n ≤ 1099511627775 then ⟨(Lib.decDigits n.toNat).toArray⟩ else ByteArray.empty
theorem numS_ok (n : Int) (h0 : 0 ≤ n) (h1 : n ≤ 1099511627775) : numS n = ⟨(Lib.decDigits n.toNat).toArray⟩ := by unfold numS; exact if_pos ⟨h0, h1⟩
theorem numS_bad (n : Int) (h : ¬ (0 ≤ n ∧ n ≤ 1099511627775)) : numS n = ByteArray.empty := by unfold numS; exact if_neg h
theorem dec_len (f : Nat) : ∀ u : Nat, u < 10 ^ (f + 1) → (Lib.decDigits u).length ≤ f + 1 := by
  induction f with
  | zero =>
    intro u h
    rw [Lib.decDigits, dif_pos (by omega)]; simp
  | succ f ih =>
    intro u h
    rw [Lib.decDigits]
    split
    · simp
    · have := ih (u / 10) (by rw [Nat.pow_succ] at h; omega)
      simp; omega
theorem numS_small (n : Int) (h0 : 0 ≤ n) (h1 : n < 10) : numS n = ⟨#[UInt8.ofNat (48 + n).toNat]⟩ := by
  rw [numS_ok n h0 (by omega), Lib.decDigits, dif_pos (by omega)]
  congr 2
  rw [show (48 + n).toNat = 48 + n.toNat from by omega]
theorem numS_big (n : Int) (h0 : 10 ≤ n) (h1 : n ≤ 1099511627775) : numS n = numS (n / 10) ++ ⟨#[UInt8.ofNat (48 + n % 10).toNat]⟩ := by
  rw [numS_ok n (by omega) h1, numS_ok (n / 10) (by omega) (by omega), Lib.decDigits, dif_neg (by omega)]
  have e1 : (n / 10).toNat = n.toNat / 10 := by omega
  have e2 : (48 + n % 10).toNat = 48 + n.toNat % 10 := by omega
  rw [e1, e2]
  show _ = (⟨(Lib.decDigits (n.toNat / 10)).toArray⟩ ++ ⟨[UInt8.ofNat (48 + n.toNat % 10)].toArray⟩ : ByteArray)
  rw [ByteArray.mk_append_mk]
theorem numS_size (n : Int) : (numS n).size ≤ 13 := by
  by_cases h : 0 ≤ n ∧ n ≤ 1099511627775
  · rw [numS_ok n h.1 h.2]
    have := dec_len 12 n.toNat (by omega)
    show (Lib.decDigits n.toNat).toArray.size ≤ 13
    simpa using this
  · rw [numS_bad n h]
    show 0 ≤ 13
    omega

/-- 'string([]byte{z})', where the row is the last block of whatever world. -/
theorem conv_one (W : World) (z : Int) : (convert 22 9 (.slice (some ⟨W.heap.size, 0, none⟩) 1 1)).run Tryd.prog (W.alloc (.cells #[.int .u8 z] 5)) = .ok (.string ⟨#[UInt8.ofNat z.toNat]⟩) (W.alloc (.cells #[.int .u8 z] 5)) := by
  rw [run_convert_bytes_string _ _ _ _ _ 1 1 Tryd.underlying22 Tryd.underlying5 Tryd.underlying9, run_bytesToString _ ⟨W.heap.size, 0, none⟩ 1 1 [z]]
  · rfl
  · exact run_loadCells_list _ ⟨W.heap.size, 0, none⟩ [.int .u8 z] (by
      intro j u hu
      match j, hu with
      | 0, hu => simp at hu; subst hu; rw [Addr.add_lit, World.cell?_alloc_at (hn := rfl)]; rfl)
theorem conv_one_drew (W : World) (z : Int) : (convert 22 9 (.slice (some ⟨W.heap.size, 0, none⟩) 1 1)).run Tryd.prog (W.alloc (.cells #[.int .u8 z] 5)).drew = .ok (.string ⟨#[UInt8.ofNat z.toNat]⟩) (W.alloc (.cells #[.int .u8 z] 5)).drew := conv_one W.drew z
theorem conv_one_at (W : World) (b : Nat) (z : Int) (h : W.cell? ⟨b, 0, none⟩ = some (.int .u8 z)) : (convert 22 9 (.slice (some ⟨b, 0, none⟩) 1 1)).run Tryd.prog W = .ok (.string ⟨#[UInt8.ofNat z.toNat]⟩) W := by
  rw [run_convert_bytes_string _ _ _ _ _ 1 1 Tryd.underlying22 Tryd.underlying5 Tryd.underlying9, run_bytesToString _ ⟨b, 0, none⟩ 1 1 [z]]
  · rfl
  · exact run_loadCells_list _ ⟨b, 0, none⟩ [.int .u8 z] (by
      intro j u hu
      match j, hu with
      | 0, hu => simp at hu; subst hu; rw [Addr.add_lit]; exact h)

theorem cell_behind {w w2 : World} {z : Int} (h : Below (w.alloc (.cells #[.int .u8 z] 5)).drew.heap.size (w.alloc (.cells #[.int .u8 z] 5)).drew w2) : w2.cell? ⟨w.heap.size, 0, none⟩ = some (.int .u8 z) := by
  rw [h.cell (p := ⟨w.heap.size, 0, none⟩) (by simp)]
  show (w.alloc (.cells #[.int .u8 z] 5)).cell? ⟨w.heap.size, 0, none⟩ = _
  rw [World.cell?_alloc_at (hn := rfl)]
  rfl

set_option maxHeartbeats 400000 in
theorem specNum_any (n : Int) (w : World) (b : Bool) (hb : b = decide (0 ≤ n ∧ n ≤ 1099511627775)) :
    Calls Tryd.prog 85 #[.int .i64 n] w fun e w' => e = .returned (.bool b) ∧ w = w' := by
  have HB : Hid (b = decide (0 ≤ n ∧ n ≤ 1099511627775)) := hb
  clear hb
  by_cases h0 : 0 ≤ n
  · by_cases h1 : n ≤ 1099511627775
    · go_enter Tryd.func85, Tryd.ntmps85
      go_wp2
      go_ret
      exact ⟨by rw [HB.out]; simp [h0, h1], rfl⟩
    · go_enter Tryd.func85, Tryd.ntmps85
      go_wp2
      go_ret
      exact ⟨by rw [HB.out]; simp [h1], rfl⟩
  · go_enter Tryd.func85, Tryd.ntmps85
    go_wp2
    go_ret
    exact ⟨by rw [HB.out, decide_eq_false (by omega)]; rfl, rfl⟩

set_option maxRecDepth 20000 in
set_option maxHeartbeats 1000000 in
theorem specNumText_ok : ∀ (k : Nat) (n : Int) (w : World), n.toNat ≤ k → 0 ≤ n → n ≤ 1099511627775 →
    Calls Tryd.prog 75 #[.int .i64 n] w fun e w' => e = .returned (.string (numS n)) ∧ Below w.heap.size w w' := by
  intro k
  induction k with
  | zero =>
    intro n w hk h0 h1
    have hn : n = 0 := by omega
    subst hn
    have HS := hid (numS_small 0 (by omega) (by omega))
    have hcv := conv_one w 48
    go_enter Tryd.func75, Tryd.ntmps75
    go_wp2_with (go_at_call 85; refine (specNum_any 0 _ true (by decide)).mono ?_; rintro e w' ⟨rfl, rfl⟩)
    go_ret
    exact ⟨by rw [HS.out]; rfl, (Below.refl _ _).alloc (Nat.le_refl _) _⟩
  | succ k ih =>
    intro n w hk h0 h1
    have IH := hid ih
    clear ih
    by_cases hs : n < 10
    · have HS := hid (numS_small n h0 hs)
      have hcv := conv_one w (48 + n)
      go_enter Tryd.func75, Tryd.ntmps75
      go_wp2_with (go_at_call 85; refine (specNum_any n _ true (by simp [h0, h1])).mono ?_; rintro e w' ⟨rfl, rfl⟩)
      go_ret
      exact ⟨by rw [HS.out]; rfl, (Below.refl _ _).alloc (Nat.le_refl _) _⟩
    · have HS := hid (numS_big n (by omega) h1)
      have hsz := numS_size (n / 10)
      have HI := hid (fun w => IH.out (n / 10) w (by omega) (by omega) (by omega))
      generalize numS (n / 10) = x at HS hsz HI
      have d1 : n.tdiv 10 = n / 10 := Int.tdiv_eq_ediv_of_nonneg h0
      have d2 : n.tmod 10 = n % 10 := Int.tmod_eq_emod_of_nonneg h0
      have d3 : IntKind.i64.wrap (n / 10) = n / 10 := by rw [IntKind.wrap_i64]; omega
      have d4 : IntKind.i64.wrap (48 + n % 10) = 48 + n % 10 := by rw [IntKind.wrap_i64]; omega
      have d5 : IntKind.u8.wrap (48 + n % 10) = 48 + n % 10 := by simp [IntKind.wrap, IntKind.signed, IntKind.bits]; omega
      have cv := conv_one
      have cvd := conv_one_drew
      have hy : (⟨#[UInt8.ofNat (48 + n % 10).toNat]⟩ : ByteArray).size = 1 := rfl
      have hsum : ¬ (9223372036854775807 < x.size + (⟨#[UInt8.ofNat (48 + n % 10).toNat]⟩ : ByteArray).size) := by rw [hy]; omega
      go_enter Tryd.func75, Tryd.ntmps75
      go_wp2_with (go_at_call 85; refine (specNum_any n _ true (by simp [h0, h1])).mono ?_; rintro e w' ⟨rfl, rfl⟩)
      go_region_with (go_at_call 75; refine (HI.out _).mono ?_; rintro e w2 ⟨rfl, hb2⟩; try (have hcv := conv_one_at w2 w.heap.size (48 + n % 10) (cell_behind hb2)))
      all_goals
        go_wp2
        go_ret
        refine ⟨by rw [HS.out]; rfl, ?_⟩
        first
          | exact ((Below.refl w.heap.size w).drew.trans hb2).alloc hb2.size _
          | exact ((Below.refl w.heap.size w).alloc (Nat.le_refl _) _).drew.trans (hb2.mono (by simp))

set_option maxHeartbeats 400000 in
theorem specNumText_any (n : Int) (w : World) :
    Calls Tryd.prog 75 #[.int .i64 n] w fun e w' => e = .returned (.string (numS n)) ∧ Below w.heap.size w w' := by
  by_cases h : 0 ≤ n ∧ n ≤ 1099511627775
  · exact specNumText_ok n.toNat n w (Nat.le_refl _) h.1 h.2
  · have HS := hid (numS_bad n h)
    go_enter Tryd.func75, Tryd.ntmps75
    go_wp2_with (go_at_call 85; refine (specNum_any n _ false (by rw [decide_eq_false h])).mono ?_; rintro e w' ⟨rfl, rfl⟩)
    go_ret
    exact ⟨by rw [HS.out]; rfl, Below.refl _ _⟩
end Go.Proofs.YtgnjknbgahickaaDoor

