/-
  What FnVar draws: some bytes and some number; some string.
-/
import Derived.Test.YtceplgnijcdbfafDoorDrawQ
namespace Go.Proofs.YtceplgnijcdbfafDoor
open Go.RowKit

/-- A row of the call's own reads the same where its cursor alone is touched. -/
theorem Rd.touched {w w' : World} {a : Option Addr} {n c g : Nat} {zs : List Int} (h : Rd w a n c zs) (hg : w.grownBy w' (some g)) (hne : ∀ x, a = some x → 0 < n → x.block ≠ g) : Rd w' a n c zs := by
  obtain ⟨h1, h2, h3, h30, h4, h5⟩ := h
  refine ⟨h1, h2, h3, h30, h4, fun hp => ?_⟩
  obtain ⟨b, off, rfl, hb, hc⟩ := h5 hp
  refine ⟨b, off, rfl, Nat.lt_of_lt_of_le hb hg.size, fun i hi => ?_⟩
  rw [World.cell?_of_block (w := w) (a := ⟨b, off + i, none⟩) (hg.block b hb (fun e => by have := hne _ rfl hp; cases e; exact this rfl))]
  exact hc i hi

set_option maxHeartbeats 1600000 in
theorem drawPutVar_any (a : Option Addr) (n c : Nat) (zs : List Int) (w : World) (h : Rd w a n c zs) (hl : n ≤ 1048576) :
    Calls Tryd.prog 5 #[.slice a n c] w fun e w' => ∃ a' n' c' ys x, e = .returned (.tuple #[.slice a' n' c', .int .i64 x]) ∧ Rd w' a' n' c' ys ∧ n' ≤ 8192 ∧ -9223372036854775808 ≤ x ∧ x ≤ 9223372036854775807 ∧ Below w.heap.size w w' := by
  have HR := hid h
  clear h
  go_enter Tryd.func5, Tryd.ntmps5
  go_wp2_with fail
  refine (new_any a n c zs w HR.out hl).mono ?_
  rintro e w1 ⟨rfl, hb1, hc1⟩
  have HB1 := hid hb1
  have HC1 := hid hc1
  clear hb1 hc1
  generalize hg : w.heap.size = g at HB1 HC1
  have HG := hid hg
  clear hg
  go_wp2_with fail
  refine (bytes_any g 6 w1 HC1.out (by omega)).mono ?_
  rintro e w2 ⟨⟨v, ys, rfl, ho, hyl, hyb⟩, hg2, hc2⟩
  have HB2 := hid (HB1.out.trans (below_of_grown hg2 HC1.out.lt))
  have HC2 := hid hc2
  obtain ⟨a3, c3, hv3, hrd3, hblk3⟩ := ho.rd (byte_at hyb) (by omega)
  have HR3 := hid hrd3
  have HN3 : Hid (∀ x, a3 = some x → 0 < ys.length → x.block ≠ g) := fun x hx _ => by have := hblk3 x hx; have := HC1.out.lt; omega
  generalize ys.length = L3 at hv3 HR3 hyl HN3
  clear ho hyb hrd3 hg2 hc2 hblk3
  rw [hv3]
  clear hv3
  go_wp2_with fail
  refine (below_any g 20 w2 HC2.out (by omega) (by omega)).mono ?_
  rintro e w3 ⟨⟨x, rfl, hx0, hx1⟩, hg3, hc3⟩
  have HB3 := hid (HB2.out.trans (below_of_grown hg3 HC2.out.lt))
  have HC3 := hid hc3
  have HR4 := hid (HR3.out.touched hg3 HN3.out)
  clear hg3 hc3
  by_cases hx : x = 0
  · subst hx
    go_wp2_with fail
    refine (below_any g 4 w3 HC3.out (by omega) (by omega)).mono ?_
    rintro e w6 ⟨⟨u, rfl, hu0, hu1⟩, hg6, hc6⟩
    have HB6 := hid (HB3.out.trans (below_of_grown hg6 HC3.out.lt))
    have HC6 := hid hc6
    clear hg6 hc6
    obtain ⟨k, hk⟩ := Int.eq_ofNat_of_zero_le (by omega : 0 ≤ 4096 - u)
    have hk2 : k ≤ 8192 := by omega
    have hmk := made_any (k : Int) k rfl hk2
    have HR6 := hid (rd_made w6 k hk2)
    go_wp2_with fail
    refine (raw_any g _ (HC6.out.alloc _)).mono ?_
    rintro e w7 ⟨⟨y, rfl, hy0, hy1⟩, hg7⟩
    have HB7 := hid ((HB6.out.alloc (Nat.le_of_lt HC6.out.lt) _).trans (below_of_grown hg7 (HC6.out.alloc _).lt))
    have HR7 := hid (HR6.out.touched hg7 (fun x hx _ => by cases hx; have := HC6.out.lt; show w6.heap.size ≠ g; omega))
    clear hg7
    go_wp2
    go_ret2
    exact ⟨_, _, _, _, _, rfl, HR7.out, by omega, hy0, hy1, by rw [HG.out]; exact HB7.out⟩
  · have hx' : (x == 0) = false := by simp [hx]
    go_wp2_with fail
    refine (raw_any g _ HC3.out).mono ?_
    rintro e w7 ⟨⟨y, rfl, hy0, hy1⟩, hg7⟩
    have HB7 := hid (HB3.out.trans (below_of_grown hg7 HC3.out.lt))
    have HR7 := hid (HR4.out.touched hg7 HN3.out)
    clear hg7
    go_wp2
    go_ret2
    exact ⟨_, _, _, _, _, rfl, HR7.out, by omega, hy0, hy1, by rw [HG.out]; exact HB7.out⟩

set_option maxHeartbeats 1600000 in
theorem drawPutText_any (a : Option Addr) (n c : Nat) (zs : List Int) (w : World) (h : Rd w a n c zs) (hl : n ≤ 1048576) :
    Calls Tryd.prog 6 #[.slice a n c] w fun e w' => ∃ a' n' c' s, e = .returned (.tuple #[.slice a' n' c', .string s]) ∧ s.size ≤ 8192 ∧ Below w.heap.size w w' := by
  have HR := hid h
  clear h
  go_enter Tryd.func6, Tryd.ntmps6
  go_wp2_with fail
  refine (new_any a n c zs w HR.out hl).mono ?_
  rintro e w1 ⟨rfl, hb1, hc1⟩
  have HB1 := hid hb1
  have HC1 := hid hc1
  clear hb1 hc1
  generalize hg : w.heap.size = g at HB1 HC1
  have HG := hid hg
  clear hg
  go_wp2_with fail
  refine (bytes_any g 6 w1 HC1.out (by omega)).mono ?_
  rintro e w2 ⟨⟨v, ys, rfl, ho, hyl, hyb⟩, hg2, hc2⟩
  have HB2 := hid (HB1.out.trans (below_of_grown hg2 HC1.out.lt))
  have HC2 := hid hc2
  obtain ⟨a3, c3, hv3⟩ := ho.shape
  generalize ys.length = L3 at hv3 hyl
  clear ho hyb hg2 hc2
  rw [hv3]
  clear hv3
  go_wp2_with fail
  refine (bytes_any g 20 w2 HC2.out (by omega)).mono ?_
  rintro e w3 ⟨⟨v4, y4, rfl, ho, hyl4, hyb⟩, hg2, hc2⟩
  have HB3 := hid (HB2.out.trans (below_of_grown hg2 HC2.out.lt))
  have HC3 := hid hc2
  obtain ⟨a4, c4, hv4, hrd4, _⟩ := ho.rd (byte_at hyb) (by omega)
  have hst := run_str hrd4
  have hss := strOf_size y4
  generalize strOf y4 = s1 at hst hss
  generalize y4.length = L4 at hv4 hst hss hyl4
  clear ho hyb hrd4 hg2 hc2
  rw [hv4]
  clear hv4
  go_wp2_with fail
  refine (below_any g 20 w3 HC3.out (by omega) (by omega)).mono ?_
  rintro e w4 ⟨⟨x, rfl, hx0, hx1⟩, hg3, hc3⟩
  have HB4 := hid (HB3.out.trans (below_of_grown hg3 HC3.out.lt))
  have HC4 := hid hc3
  clear hg3 hc3 hst
  by_cases hx : x = 0
  · subst hx
    go_wp2_with fail
    refine (below_any g 3 w4 HC4.out (by omega) (by omega)).mono ?_
    rintro e w5 ⟨⟨u, rfl, hu0, hu1⟩, hg6, hc6⟩
    have HB5 := hid (HB4.out.trans (below_of_grown hg6 HC4.out.lt))
    have HC5 := hid hc6
    clear hg6 hc6
    obtain ⟨k, hk⟩ := Int.eq_ofNat_of_zero_le (by omega : 0 ≤ 4095 - (L4 : Int) - 1 + u)
    have hk2 : k ≤ 8192 := by omega
    have hmk := made_any (k : Int) k rfl hk2
    have HCx := hid (HC5.out.alloc (.cells (madeCells #[.int .u8 0] k) 5))
    have HBx := hid (HB5.out.alloc (Nat.le_of_lt HC5.out.lt) (.cells (madeCells #[.int .u8 0] k) 5))
    go_wp2_with fail
    refine (below_any g 30 _ HCx.out (by omega) (by omega)).mono ?_
    rintro e w6 ⟨⟨y, rfl, hy0, hy1⟩, hg5, hc5⟩
    have HB6 := hid (HBx.out.trans (below_of_grown hg5 HCx.out.lt))
    have HC6 := hid hc5
    clear hg5 hc5
    by_cases hy : y = 0
    · subst hy
      go_wp2_with fail
      refine (below_any g 3 w6 HC6.out (by omega) (by omega)).mono ?_
      rintro e w7 ⟨⟨z, rfl, hz0, hz1⟩, hg6, hc6⟩
      have HB7 := hid (HB6.out.trans (below_of_grown hg6 HC6.out.lt))
      have hgl := hc6.lt
      clear hg6 hc6
      obtain ⟨k7, hk7⟩ := Int.eq_ofNat_of_zero_le (by omega : 0 ≤ 4093 + z)
      have hk72 : k7 ≤ 8192 := by omega
      have hmk7 := made_any (k7 : Int) k7 rfl hk72
      have hst7 := run_str (rd_made w7 k7 hk72)
      have hs7 := strOf_size (List.replicate k7 0)
      rw [List.length_replicate] at hs7
      generalize strOf (List.replicate k7 0) = s7 at hst7 hs7
      go_wp2
      go_ret2
      exact ⟨_, _, _, _, rfl, by omega, by rw [HG.out]; exact HB7.out.alloc (by omega) _⟩
    · have hy' : (y == 0) = false := by simp [hy]
      go_wp2
      go_ret2
      exact ⟨_, _, _, _, rfl, by omega, by rw [HG.out]; exact HB6.out⟩
  · have hx' : (x == 0) = false := by simp [hx]
    have HCx := HC4
    have HBx := HB4
    go_wp2_with fail
    refine (below_any g 30 _ HCx.out (by omega) (by omega)).mono ?_
    rintro e w6 ⟨⟨y, rfl, hy0, hy1⟩, hg5, hc5⟩
    have HB6 := hid (HBx.out.trans (below_of_grown hg5 HCx.out.lt))
    have HC6 := hid hc5
    clear hg5 hc5
    by_cases hy : y = 0
    · subst hy
      go_wp2_with fail
      refine (below_any g 3 w6 HC6.out (by omega) (by omega)).mono ?_
      rintro e w7 ⟨⟨z, rfl, hz0, hz1⟩, hg6, hc6⟩
      have HB7 := hid (HB6.out.trans (below_of_grown hg6 HC6.out.lt))
      have hgl := hc6.lt
      clear hg6 hc6
      obtain ⟨k7, hk7⟩ := Int.eq_ofNat_of_zero_le (by omega : 0 ≤ 4093 + z)
      have hk72 : k7 ≤ 8192 := by omega
      have hmk7 := made_any (k7 : Int) k7 rfl hk72
      have hst7 := run_str (rd_made w7 k7 hk72)
      have hs7 := strOf_size (List.replicate k7 0)
      rw [List.length_replicate] at hs7
      generalize strOf (List.replicate k7 0) = s7 at hst7 hs7
      go_wp2
      go_ret2
      exact ⟨_, _, _, _, rfl, by omega, by rw [HG.out]; exact HB7.out.alloc (by omega) _⟩
    · have hy' : (y == 0) = false := by simp [hy]
      go_wp2
      go_ret2
      exact ⟨_, _, _, _, rfl, by omega, by rw [HG.out]; exact HB6.out⟩
end Go.Proofs.YtceplgnijcdbfafDoor
