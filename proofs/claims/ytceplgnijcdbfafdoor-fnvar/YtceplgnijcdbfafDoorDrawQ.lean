/-
  The string that FnQuote draws: some string that is not too long.
-/
import Derived.Test.YtceplgnijcdbfafDoorDraw
import Derived.Test.YtceplgnijcdbfafDoorStr
namespace Go.Proofs.YtceplgnijcdbfafDoor
open Go.RowKit

theorem strOf_size (o : List Int) : (strOf o).size = o.length := by
  show (strOf o).data.size = o.length
  simp [strOf]
theorem rd_made (w : World) (k : Nat) (hk : k ≤ 8192) : Rd (w.alloc (.cells (madeCells #[.int .u8 0] k) 5)) (some ⟨w.heap.size, 0, none⟩) k k (List.replicate k 0) := by
  refine ⟨by simp, Nat.le_refl _, by omega, by omega, fun i => ?_, fun _ => ⟨w.heap.size, 0, rfl, by simp, fun i hi => ?_⟩⟩
  · by_cases h : i < k
    · simp [h]
    · rw [List.getElem?_eq_none (by simp; omega)]; simp
  · rw [World.cell?_alloc_at (hn := rfl)]
    have h1 : i < (madeCells #[.int .u8 0] k).size := by simp [madeCells]; omega
    rw [show (0 : Nat) + i = i from Nat.zero_add i, Array.getElem?_eq_getElem h1]
    simp [madeCells, Nat.mod_one, hi]
theorem made_any (m : Int) (k : Nat) (hk : m = k) (h : k ≤ 8192) : ∀ w, (Instr.makeSlice 22 (.int .i64 m) (.int .i64 m)).run Tryd.prog w = .ok (.slice (some ⟨w.heap.size, 0, none⟩) k k) (w.alloc (.cells (madeCells #[.int .u8 0] k) 5)) := by
  intro w
  subst hk
  exact run_make_row' (P := Tryd.prog) 22 5 (.int .u8 0) 1 Tryd.underlying22 infoU8 rfl .i64 .i64 k (by omega) (by omega) w

set_option maxHeartbeats 1600000 in
theorem drawQuote_any (a : Option Addr) (n c : Nat) (zs : List Int) (w : World) (h : Rd w a n c zs) (hl : n ≤ 1048576) :
    Calls Tryd.prog 13 #[.slice a n c] w fun e w' => ∃ s : ByteArray, e = .returned (.string s) ∧ s.size ≤ 8192 ∧ Below w.heap.size w w' := by
  have HR := hid h
  clear h
  go_enter Tryd.func13, Tryd.ntmps13
  go_wp2_with fail
  refine (new_any a n c zs w HR.out hl).mono ?_
  rintro e w1 ⟨rfl, hb1, hc1⟩
  have HB1 := hid hb1
  have HC1 := hid hc1
  clear hb1 hc1
  generalize hg : w.heap.size = g at HB1 HC1
  have HG := hid hg
  clear hg
  go_wp2_with fail
  refine (bytes_any g 12 w1 HC1.out (by omega)).mono ?_
  rintro e w2 ⟨⟨v, ys, rfl, ho, hyl, hyb⟩, hg2, hc2⟩
  have HB2 := hid (HB1.out.trans (below_of_grown hg2 HC1.out.lt))
  have HC2 := hid hc2
  obtain ⟨a3, c3, hv3, hrd3, _⟩ := ho.rd (byte_at hyb) (by omega)
  have hst := run_str hrd3
  have hss := strOf_size ys
  generalize strOf ys = s1 at hst hss
  generalize ys.length = L3 at hv3 hst hss hyl
  clear ho hyb hrd3 hg2 hc2
  rw [hv3]
  clear hv3
  go_wp2_with fail
  refine (below_any g 3 w2 HC2.out (by omega) (by omega)).mono ?_
  rintro e w3 ⟨⟨x, rfl, hx0, hx1⟩, hg3, hc3⟩
  have HB3 := hid (HB2.out.trans (below_of_grown hg3 HC2.out.lt))
  have HC3 := hid hc3
  clear hg3 hc3
  by_cases hx : x = 0
  · subst hx
    go_wp2_with fail
    refine (below_any g 7 _ (HC3.out.alloc _) (by omega) (by omega)).mono ?_
    rintro e w4 ⟨⟨y, rfl, hy0, hy1⟩, hg4, hc4⟩
    have HB4 := hid ((HB3.out.alloc (Nat.le_of_lt HC3.out.lt) _).trans (below_of_grown hg4 (HC3.out.alloc _).lt))
    have HCx := hid hc4
    have HBx := HB4
    obtain ⟨s0, hs0, hc0⟩ : ∃ s0 : ByteArray, s0.size ≤ 3 ∧ w4.cell? ⟨w3.heap.size, y.toNat, none⟩ = some (.string s0) := by
      have hcl := fun k => row_kept (b := w3.heap.size) (k := k) hg4 (by simp) (by have := HC3.out.lt; omega)
      rw [hcl, World.cell?_alloc_at (hn := rfl)]
      rcases (by omega : y = 0 ∨ y = 1 ∨ y = 2 ∨ y = 3 ∨ y = 4 ∨ y = 5 ∨ y = 6) with rfl | rfl | rfl | rfl | rfl | rfl | rfl
      all_goals exact ⟨_, by decide, rfl⟩
    clear hg4 hc4
    obtain ⟨yk, rfl⟩ := Int.eq_ofNat_of_zero_le hy0
    rw [Int.toNat_natCast] at hc0
    go_wp2_with fail
    refine (below_any g 40 _ HCx.out (by omega) (by omega)).mono ?_
    rintro e w5 ⟨⟨y, rfl, hy0, hy1⟩, hg5, hc5⟩
    have HB5 := hid (HBx.out.trans (below_of_grown hg5 HCx.out.lt))
    have HC5 := hid hc5
    clear hg5 hc5
    by_cases hy : y = 0
    · subst hy
      go_wp2_with fail
      refine (below_any g 2 w5 HC5.out (by omega) (by omega)).mono ?_
      rintro e w6 ⟨⟨u, rfl, hu0, hu1⟩, hg6, hc6⟩
      have HB6 := hid (HB5.out.trans (below_of_grown hg6 HC5.out.lt))
      have hgl := hc6.lt
      clear hg6 hc6
      obtain ⟨k, hk⟩ := Int.eq_ofNat_of_zero_le (by omega : 0 ≤ 4096 + u)
      have hk2 : k ≤ 8192 := by omega
      have hmk := made_any (k : Int) k rfl hk2
      have hst6 := run_str (rd_made w6 k hk2)
      have hs6 := strOf_size (List.replicate k 0)
      rw [List.length_replicate] at hs6
      generalize strOf (List.replicate k 0) = s6 at hst6 hs6
      go_wp2
      go_ret
      exact ⟨_, rfl, by omega, by rw [HG.out]; exact HB6.out.alloc (by omega) _⟩
    · have hy' : (y == 0) = false := by simp [hy]
      go_wp2
      go_ret
      exact ⟨_, rfl, by omega, by rw [HG.out]; exact HB5.out⟩
  · have hx' : (x == 0) = false := by simp [hx]
    have HBx := HB3
    have HCx := HC3
    go_wp2_with fail
    refine (below_any g 40 _ HCx.out (by omega) (by omega)).mono ?_
    rintro e w5 ⟨⟨y, rfl, hy0, hy1⟩, hg5, hc5⟩
    have HB5 := hid (HBx.out.trans (below_of_grown hg5 HCx.out.lt))
    have HC5 := hid hc5
    clear hg5 hc5
    by_cases hy : y = 0
    · subst hy
      go_wp2_with fail
      refine (below_any g 2 w5 HC5.out (by omega) (by omega)).mono ?_
      rintro e w6 ⟨⟨u, rfl, hu0, hu1⟩, hg6, hc6⟩
      have HB6 := hid (HB5.out.trans (below_of_grown hg6 HC5.out.lt))
      have hgl := hc6.lt
      clear hg6 hc6
      obtain ⟨k, hk⟩ := Int.eq_ofNat_of_zero_le (by omega : 0 ≤ 4096 + u)
      have hk2 : k ≤ 8192 := by omega
      have hmk := made_any (k : Int) k rfl hk2
      have hst6 := run_str (rd_made w6 k hk2)
      have hs6 := strOf_size (List.replicate k 0)
      rw [List.length_replicate] at hs6
      generalize strOf (List.replicate k 0) = s6 at hst6 hs6
      go_wp2
      go_ret
      exact ⟨_, rfl, by omega, by rw [HG.out]; exact HB6.out.alloc (by omega) _⟩
    · have hy' : (y == 0) = false := by simp [hy]
      go_wp2
      go_ret
      exact ⟨_, rfl, by omega, by rw [HG.out]; exact HB5.out⟩
end Go.Proofs.YtceplgnijcdbfafDoor
