/-
  Rows of replies: how great the law's helper finds them.
-/
import Derived.Test.YtnbafoennnhppabRyB2
namespace Go.Proofs.Ytnbafoennnhppab
open Go.RowKit
set_option linter.unusedVariables false
def rySz (rs : List RY) : Prop := ∀ r ∈ rs, szOkP r.ps ∧ r.ky.size ≤ 9223372036854775807 ∧ r.vl.size ≤ 9223372036854775807 ∧ r.lo.size ≤ 9223372036854775807 ∧ r.hi.size ≤ 9223372036854775807
set_option maxHeartbeats 4000000 in
set_option maxRecDepth 20000 in
theorem szReplyS_at (S : Nat → Prop) (a : Option Addr) (n c : Nat) (rs : List RY) (left : Int) (w : World) (h : Yr w S (.slice a n c) rs) (hsz : rySz rs) (h0 : 0 ≤ left) (h1 : left ≤ 1048576) :
    Calls Try.prog 5 #[.slice a n c, .int .i64 left] w fun e w' => (∃ x : Int, e = .returned (.int .i64 x) ∧ x ≤ left ∧ -1 ≤ x ∧ (0 ≤ x → n + x ≤ left ∧ ∀ r ∈ rs, r.ps.length ≤ 1048576)) ∧ Below w.heap.size w w' := by
  have hnc := h.len.2.1
  have hcc := h.len.2.2
  have HN := hid h.len.1
  have H0 := hid h
  have HZ := hid hsz
  clear h hsz
  by_cases hbig : left - (n : Int) < 0
  · go_enter Try.func5, Try.ntmps5
    go_wp2
    go_ret
    exact ⟨⟨_, rfl, by omega, by omega, fun h => by omega⟩, Below.refl _ _⟩
  · have hn2 : n ≤ 1048576 := by omega
    go_enter Try.func5, Try.ntmps5
    go_wp2
    go_loopw [1, 5] (fun x i wr => ∃ (k : Nat) (y : Int), k ≤ n ∧ i = .int .i64 k ∧ x = .int .i64 y ∧ 0 ≤ y ∧ y ≤ left - (n : Int) ∧ Hid (Below w.heap.size w wr) ∧ Hid (∀ i, i < k → (ryAt rs i).ps.length ≤ 1048576)) (fun _ i _ => n - (intOf i).toNat)
    case atStart => exact ⟨0, _, Nat.zero_le _, rfl, rfl, by omega, by omega, Below.refl _ _, fun i hi => absurd hi (Nat.not_lt_zero _)⟩
    case round =>
      obtain ⟨k, y, hk, rfl, rfl, hy0, hy1, HB, HS⟩ := hrel
      by_cases hlt : k < n
      · have hlt' : (k : Int) < (n : Int) := by omega
        have hk0 : (0 : Int) ≤ (k : Int) := by omega
        have HP := hid (H0.out.below HB.out)
        obtain ⟨b, off, rfl, _, hbw, hcell⟩ := HP.out.at (by omega)
        obtain ⟨pa, pn, pc, hr, hpp⟩ := hcell k hlt
        have hkr : k < rs.length := by rw [← HN.out]; exact hlt
        have HM := hid (HZ.out (ryAt rs k) (by simp [ryAt, hkr]))
        have HT : Hid ((ryAt rs k).ps.length ≤ 1048576 → ∀ i, i < k + 1 → (ryAt rs i).ps.length ≤ 1048576) := fun h i hi => by
          by_cases e : i = k
          · subst e; exact h
          · exact HS.out i (by omega)
        generalize ryAt rs k = ry at *
        have HR := hid hr
        have HPN := hid (Rw.len hpp).1
        have HPS := hid hpp
        clear hcell hbw hr hpp HP HS
        go_wp2_with (refine wpList_load_mid rfl 40 _ rfl b (off + k * 13) rfl (ry.cs (.slice pa pn pc)) _ HR.out Try.underlying40 rfl (by kernel_rfl) ?_; show wpList _ _ _ _ (Act.put _ _ (.agg #[.int .i64 ry.k, .int .i64 ry.c, .int .i64 ry.e, .int .i64 ry.n, .int .i64 ry.ak, .string ry.ky, .string ry.vl, .string ry.lo, .string ry.hi, .int .i64 ry.mo, .bool ry.bk, .int .i64 ry.co, .slice pa pn pc])) _)
        refine (szReply_any S ry.ps ry.k ry.c ry.e ry.n ry.ak ry.ky ry.vl ry.lo ry.hi ry.mo ry.bk ry.co pa pn pc y wr HPS.out HM.out.1 (by omega) (by omega) HM.out.2).mono ?_
        rintro e w1 ⟨⟨x, rfl, hx1, hx2, hx3⟩, hb1⟩
        have HB1 := hid (HB.out.trans (hb1.mono HB.out.size))
        have HX := hid hx3
        clear hb1 hx3 HPS HR HM
        by_cases hneg : x < 0
        · go_wp2
          go_ret
          exact ⟨⟨_, rfl, by omega, by omega, fun h => by omega⟩, HB1.out⟩
        · have HS1 := hid (HT.out (by rw [← HPN.out]; exact HX.out (by omega)))
          clear HX HT HPN
          go_wp2
          go_roundw
          case rel => exact ⟨k + 1, x, by omega, by go_num, rfl, by omega, by omega, HB1.out, HS1.out⟩
          case measure => simp [intOf]; omega
      · have HA : Hid (∀ r ∈ rs, r.ps.length ≤ 1048576) := fun r hr => by
          obtain ⟨i, hi, e⟩ := List.mem_iff_getElem.1 hr
          have := HS.out i (by have := HN.out; omega)
          have e2 : ryAt rs i = r := by simp [ryAt, hi, e]
          rwa [e2] at this
        clear HS
        go_wp2
        go_ret
        exact ⟨⟨_, rfl, by omega, by omega, fun _ => ⟨by omega, HA.out⟩⟩, HB.out⟩
end Go.Proofs.Ytnbafoennnhppab

