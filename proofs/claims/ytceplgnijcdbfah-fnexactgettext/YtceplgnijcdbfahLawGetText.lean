/-
  The law FnExactGetText answers true at every slice of bytes and every number, and writes nothing that was there.
-/
import Derived.Test.YtceplgnijcdbfahText
namespace Go.Proofs.Ytceplgnijcdbfah
open Go.RowKit

set_option maxHeartbeats 800000 in
theorem lawGetText_walk (a : Option Addr) (n c : Nat) (z0 : List Int) (p : Int) (w : World) (w0 : IsRow .u8 w a n c z0) (w1 : (Lit.int .i64 p).wf = true) :
    Calls Try.prog 4 #[.slice a n c, .int .i64 p] w fun e w' => e = .returned (.bool true) ∧ Below w.heap.size w w' := by
  by_cases hbig : 1048576 < n
  · have hb' : (1048576 : Int) < (n : Int) := by omega
    clear w0 w1
    go_enter Try.func4, Try.ntmps4
    go_wp2
    go_ret
    exact ⟨rfl, Below.refl _ _⟩
  · have hrd := rd_of_row w0 (by omega)
    have hp := (i64_bounds w1).2
    generalize z0.take n = zs at hrd
    have HN : Hid (n = zs.length) := hrd.1
    have HB : Hid (∀ i : Nat, 0 ≤ zs[i]?.getD 0 ∧ zs[i]?.getD 0 ≤ 255) := hrd.2.2.2.2.1
    have hns : ¬ (1048576 : Int) < (n : Int) := by omega
    clear w0 w1
    have HR : Hid (Rd w a n c zs) := hrd
    clear hrd
    go_enter Try.func4, Try.ntmps4
    go_wp2_with fail
    refine (toByteS_any a n c zs _ HR.out).mono ?_
    rintro e w1 ⟨rfl, hw1⟩
    have hb1 : Below w.heap.size w w1 := by rw [hw1]; exact (Below.refl _ _).alloc (Nat.le_refl _) _
    have hr1 : Rd w1 (some ⟨w.heap.size, 0, none⟩) n n zs := by
      rw [hw1]
      have := rd_new w zs (by rw [← HN.out]; omega) HB.out
      rw [← HN.out] at this; exact this
    have HR1 : Hid (Rd w1 (some ⟨w.heap.size, 0, none⟩) n n zs) := hr1
    clear hr1 hw1
    go_wp2_with fail
    refine (specGetText_any _ n n zs p _ HR1.out hp).mono ?_
    rintro e w2 ⟨rfl, hb2⟩
    have hb12 : Below w.heap.size w w2 := hb1.trans (hb2.mono hb1.size)
    have HR2 : Hid (Rd w2 a n c zs) := HR.out.kept hb12
    clear hb1 hb2 HR1
    go_wp2_with fail
    refine (toByteS_any a n c zs _ HR2.out).mono ?_
    rintro e w3 ⟨rfl, hw3⟩
    have hb3 : Below w.heap.size w w3 := by rw [hw3]; exact hb12.alloc hb12.size _
    have HR3 : Hid (Rd w3 (some ⟨w2.heap.size, 0, none⟩) n n zs) := by
      show Rd w3 (some ⟨w2.heap.size, 0, none⟩) n n zs
      rw [hw3]
      have := rd_new w2 zs (by rw [← HN.out]; omega) HB.out
      rw [← HN.out] at this; exact this
    have hz3 : w2.heap.size + 1 = w3.heap.size := by rw [hw3]; simp
    have HZ3 : Hid (w2.heap.size + 1 = w3.heap.size) := hz3
    clear hw3 hz3
    go_wp2_with fail
    refine (implGetText_any _ n n zs p _ HR3.out hp).mono ?_
    rintro e w3' ⟨rfl, rfl⟩
    have HR4 : Hid (Rd w3 a n c zs) := HR.out.kept hb3
    have hn2 : ((gt zs p).2 != (gt zs p).2) = false := by simp
    generalize strOf (gt zs p).1 = x1 at *
    generalize (gt zs p).2 = x2 at *
    go_wp2_with fail
    refine (toByteS_any a n c zs _ HR4.out).mono ?_
    rintro e w4 ⟨rfl, hw4⟩
    have hb34 : Below w3.heap.size w3 w4 := by rw [hw4]; exact (Below.refl _ _).alloc (Nat.le_refl _) _
    have hb4 : Below w.heap.size w w4 := hb3.trans (hb34.mono hb3.size)
    have HR5 : Hid (Rd w4 (some ⟨w3.heap.size, 0, none⟩) n n zs) := by
      show Rd w4 (some ⟨w3.heap.size, 0, none⟩) n n zs
      rw [hw4]
      have := rd_new w3 zs (by rw [← HN.out]; omega) HB.out
      rw [← HN.out] at this; exact this
    have HR6 : Hid (Rd w4 (some ⟨w2.heap.size, 0, none⟩) n n zs) := HR3.out.kept hb34
    clear hw4 hb34
    go_wp2_with fail
    refine (eqByteS_any _ _ n n n n zs zs _ HR6.out HR5.out).mono ?_
    rintro e w5 ⟨rfl, q, hw5⟩
    have hb5 : Below w.heap.size w w5 := by rw [hw5]; exact Below.drewN' hb4 q
    have HT : (decide (zs = zs)) = true := by simp
    rw [HT]
    clear hw5
    go_wp2
    go_ret
    exact ⟨rfl, hb5⟩
end Go.Proofs.Ytceplgnijcdbfah
