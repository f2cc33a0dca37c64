/-
  isUndone and Outcome of the program.
-/
import Derived.Test.YtnbafoennnhppabRyD
namespace Go.Proofs.Ytnbafoennnhppab
open Go.RowKit
set_option linter.unusedVariables false
set_option maxHeartbeats 2000000 in
theorem isUndone_any (rk rc re rn ra : Int) (ky vl lo hi : ByteArray) (mo : Int) (bk : Bool) (co : Int) (pa : Option Addr) (pn pc : Nat) (w : World) :
    Calls Try.prog 15 #[.agg #[.int .i64 rk, .int .i64 rc, .int .i64 re, .int .i64 rn, .int .i64 ra, .string ky, .string vl, .string lo, .string hi, .int .i64 mo, .bool bk, .int .i64 co, .slice pa pn pc]] w fun e w' => e = .returned (.bool ((decide (rk = 4) && decide (co = 0)) || ((decide (rk = 2) || decide (rk = 3)) && decide (1 < co)))) ∧ Below w.heap.size w w' := by
  have HB := hid (below_new (o := .cells #[.int .i64 rk, .int .i64 rc, .int .i64 re, .int .i64 rn, .int .i64 ra, .string ky, .string vl, .string lo, .string hi, .int .i64 mo, .bool bk, .int .i64 co, .slice pa pn pc] 46) (w := w) (Below.refl _ _))
  have K0 := hid (Bk.new w 46 [.int .i64 rk, .int .i64 rc, .int .i64 re, .int .i64 rn, .int .i64 ra, .string ky, .string vl, .string lo, .string hi, .int .i64 mo, .bool bk, .int .i64 co, .slice pa pn pc])
  have q0 := K0.out.cell (j := 0) rfl
  have q11 := K0.out.cell (j := 11) rfl
  go_enter Try.func15, Try.ntmps15
  by_cases h4 : rk = 4
  · subst h4
    have HE : Hid (((decide (4 = 4) && decide (co = 0)) || ((decide (4 = 2) || decide (4 = 3)) && decide (1 < co))) = decide (co = 0)) := by show _ = _; simp
    by_cases hc : co = 0
    · subst hc
      go_wp2
      go_ret
      exact ⟨by first | rfl | (rw [HE.out]; rfl) | simp, HB.out⟩
    · have HC : Hid (decide (co = 0) = false) := decide_eq_false hc
      go_wp2
      go_ret
      exact ⟨by first | rfl | (rw [HE.out, HC.out]; rfl) | (rw [HC.out]; rfl) | simp [hc], HB.out⟩
  · by_cases h2 : rk = 2
    · subst h2
      have HE : Hid (((decide (2 = 4) && decide (co = 0)) || ((decide (2 = 2) || decide (2 = 3)) && decide (1 < co))) = decide (1 < co)) := by show _ = _; simp
      by_cases hc : 1 < co
      · have HC : Hid (decide (1 < co) = true) := decide_eq_true hc
        go_wp2
        go_ret
        exact ⟨by first | rfl | (rw [HE.out, HC.out]; rfl) | (rw [HC.out]; rfl) | simp [hc], HB.out⟩
      · have HC : Hid (decide (1 < co) = false) := decide_eq_false hc
        go_wp2
        go_ret
        exact ⟨by first | rfl | (rw [HE.out, HC.out]; rfl) | (rw [HC.out]; rfl) | simp [hc], HB.out⟩
    · by_cases h3 : rk = 3
      · subst h3
        have HE : Hid (((decide (3 = 4) && decide (co = 0)) || ((decide (3 = 2) || decide (3 = 3)) && decide (1 < co))) = decide (1 < co)) := by show _ = _; simp
        by_cases hc : 1 < co
        · have HC : Hid (decide (1 < co) = true) := decide_eq_true hc
          go_wp2
          go_ret
          exact ⟨by first | rfl | (rw [HE.out, HC.out]; rfl) | (rw [HC.out]; rfl) | simp [hc], HB.out⟩
        · have HC : Hid (decide (1 < co) = false) := decide_eq_false hc
          go_wp2
          go_ret
          exact ⟨by first | rfl | (rw [HE.out, HC.out]; rfl) | (rw [HC.out]; rfl) | simp [hc], HB.out⟩
      · have HE : Hid (((decide (rk = 4) && decide (co = 0)) || ((decide (rk = 2) || decide (rk = 3)) && decide (1 < co))) = false) := by show _ = _; simp [h2, h3, h4]
        go_wp2
        go_ret
        exact ⟨by first | rfl | (rw [HE.out]; rfl) | simp, HB.out⟩
set_option maxHeartbeats 4000000 in
set_option maxRecDepth 20000 in
theorem implOutcome_any (S : Nat → Prop) (a : Option Addr) (n c : Nat) (rs : List RY) (tc te tn : Int) (w : World) (h : Yr w S (.slice a n c) rs) :
    Calls Try.prog 9 #[.slice a n c, .agg #[.int .i64 tc, .int .i64 te, .int .i64 tn]] w fun e w' => e = .returned (.int .i64 (ocV (tc, te, tn) rs)) ∧ Below w.heap.size w w' := by
  have hnc := h.len.2.1
  have hcc := h.len.2.2
  have HN := hid h.len.1
  have hb0 := below_new (o := .cells #[.int .i64 tc, .int .i64 te, .int .i64 tn] 29) (w := w) (Below.refl _ _)
  have HB0 := hid hb0
  have K0 := hid (Bk.new w 29 [.int .i64 tc, .int .i64 te, .int .i64 tn])
  have H0 := hid (h.below hb0)
  clear h hb0
  go_enter Try.func9, Try.ntmps9
  go_wp2_with fail
  generalize hU : w.alloc (.cells #[.int .i64 tc, .int .i64 te, .int .i64 tn] 29) = U at *
  clear hU
  go_loopw [5, 7, 10] (fun x y i wr => ∃ (k : Nat) (z : Int), k ≤ n ∧ i = .int .i64 k ∧ x = .int .i64 z ∧ Hid (Below U.heap.size U wr) ∧ Hid (ocF (tc, te, tn) (rs.drop k) z = ocV (tc, te, tn) rs)) (fun _ _ i _ => n - (intOf i).toNat)
  case atStart => exact ⟨0, 0, Nat.zero_le _, rfl, rfl, Below.refl _ _, rfl⟩
  case round =>
    obtain ⟨k, z, hk, rfl, rfl, HB, HS⟩ := hrel
    by_cases hlt : k < n
    · skip
      have hlt' : (k : Int) < (n : Int) := by omega
      have hk0 : (0 : Int) ≤ (k : Int) := by omega
      have hkr : k < rs.length := by rw [← HN.out]; exact hlt
      obtain ⟨b, off, rfl, _, _, hcell⟩ := (H0.out.below HB.out).at (by omega)
      obtain ⟨pa, pn, pc, hr, _⟩ := hcell k hlt
      have HSD := hid (ocF_step (t := (tc, te, tn)) hkr z)
      rw [HS.out] at HSD
      generalize hu : unR (ryAt rs k) = u at HSD
      clear HS
      generalize ryAt rs k = ry at *
      obtain ⟨rk, rc, re, rn, ra, ky, vl, lo, hi, mo, bk, co, ps⟩ := ry
      simp only [RY.cs, RY.tx] at *
      have HR := hid hr
      clear hcell hr
      have hbp := below_new (o := .cells #[.int .i64 rk, .int .i64 rc, .int .i64 re, .int .i64 rn, .int .i64 ra, .string ky, .string vl, .string lo, .string hi, .int .i64 mo, .bool bk, .int .i64 co, .slice pa pn pc] 46) (w := wr) (Below.refl _ _)
      have KP := hid (Bk.new wr 46 [.int .i64 rk, .int .i64 rc, .int .i64 re, .int .i64 rn, .int .i64 ra, .string ky, .string vl, .string lo, .string hi, .int .i64 mo, .bool bk, .int .i64 co, .slice pa pn pc])
      have HB1 := hid (HB.out.trans (hbp.mono HB.out.size))
      clear hbp
      have q0 := KP.out.cell (j := 0) rfl
      have q1 := KP.out.cell (j := 1) rfl
      have q2 := KP.out.cell (j := 2) rfl
      have q3 := KP.out.cell (j := 3) rfl
      have q11 := KP.out.cell (j := 11) rfl
      have x0 := (K0.out.below HB1.out).cell (j := 0) rfl
      have x1 := (K0.out.below HB1.out).cell (j := 1) rfl
      have x2 := (K0.out.below HB1.out).cell (j := 2) rfl
      go_upto_region 5 with (first
          | (refine wpList_load_mid rfl 46 _ rfl b (off + k * 13) rfl _ _ HR.out Try.underlying46 rfl (by kernel_rfl) ?_)
          | (refine wpList_store_new ?hg 46 _ _ ?ho 46 _ _ ?hx ?hy ?hi ?hold ?h1 ?rest; (case hg => rfl); (case ho => rfl); (case hx => rfl); (case hy => rfl); (case hi => kernel_rfl); (case hold => rfl); (case h1 => kernel_rfl)))
      generalize wr.alloc (.cells #[.int .i64 rk, .int .i64 rc, .int .i64 re, .int .i64 rn, .int .i64 ra, .string ky, .string vl, .string lo, .string hi, .int .i64 mo, .bool bk, .int .i64 co, .slice pa pn pc] 46) = VV at *
      have hq := neq_tx rc re rn tc te tn
      have hg := guard_tx .neq
      have hu2 : ((decide (rk = 4) && decide (co = 0)) || ((decide (rk = 2) || decide (rk = 3)) && decide (1 < co))) = u := hu
      have CU : Hid (∀ VV, Calls Try.prog 15 #[.agg #[.int .i64 rk, .int .i64 rc, .int .i64 re, .int .i64 rn, .int .i64 ra, .string ky, .string vl, .string lo, .string hi, .int .i64 mo, .bool bk, .int .i64 co, .slice pa pn pc]] VV fun e w' => e = .returned (.bool u) ∧ Below VV.heap.size VV w') := fun VV => by have h := isUndone_any rk rc re rn ra ky vl lo hi mo bk co pa pn pc VV; rw [hu2] at h; exact h
      clear hu hu2
      by_cases ht : (rc, re, rn) = (tc, te, tn)
      · have hd : decide ((rc, re, rn) = (tc, te, tn)) = true := decide_eq_true ht
        rw [hd] at hq
        by_cases h3 : rk = 3
        · subst h3
          by_cases hc0 : co = 0
          · subst hc0
            have HS1 : Hid (ocV (tc, te, tn) rs = 1) := by have h := HSD.out; simp [ht] at h; exact h
            clear HSD CU
            go_wp2
            go_ret
            exact ⟨by rw [HS1.out]; rfl, HB0.out.trans (HB1.out.mono HB0.out.size)⟩
          · have HC := hid hc0
            go_wp2_with (refine wpList_load_row rfl 46 _ rfl wr.heap.size rfl 46 _ (0, 0) _ KP.out Try.underlying46 rfl (by kernel_rfl) ?_; go_frame)
            refine (CU.out VV).mono ?_
            rintro e w5 ⟨rfl, hb⟩
            have HB5 := hid (HB1.out.trans (hb.mono HB1.out.size))
            have HSE : Hid (ocV (tc, te, tn) rs = if u = true then ocF (tc, te, tn) (rs.drop (k + 1)) 2 else ocF (tc, te, tn) (rs.drop (k + 1)) z) := by have h := HSD.out; simp [ht, HC.out] at h; exact h
            clear hb CU HSD q0 q1 q2 q3 q11 x0 x1 x2 hq hg KP
            cases u with
            | true =>
              have HS1 : Hid (ocF (tc, te, tn) (rs.drop (k + 1)) 2 = ocV (tc, te, tn) rs) := by have h := HSE.out; simp at h; exact h.symm
              clear HSE
              go_wp2
              go_roundw
              case rel => exact ⟨k + 1, _, by omega, by go_num, rfl, HB5.out, HS1.out⟩
              case measure => simp [intOf]; omega
            | false =>
              have HS1 : Hid (ocF (tc, te, tn) (rs.drop (k + 1)) z = ocV (tc, te, tn) rs) := by have h := HSE.out; simp at h; exact h.symm
              clear HSE
              go_wp2
              go_roundw
              case rel => exact ⟨k + 1, _, by omega, by go_num, rfl, HB5.out, HS1.out⟩
              case measure => simp [intOf]; omega
        · have H3 := hid h3
          go_wp2_with (refine wpList_load_row rfl 46 _ rfl wr.heap.size rfl 46 _ (0, 0) _ KP.out Try.underlying46 rfl (by kernel_rfl) ?_; go_frame)
          refine (CU.out VV).mono ?_
          rintro e w5 ⟨rfl, hb⟩
          have HB5 := hid (HB1.out.trans (hb.mono HB1.out.size))
          have HSE : Hid (ocV (tc, te, tn) rs = if u = true then ocF (tc, te, tn) (rs.drop (k + 1)) 2 else ocF (tc, te, tn) (rs.drop (k + 1)) z) := by have h := HSD.out; simp [ht, H3.out] at h; exact h
          clear hb CU HSD q0 q1 q2 q3 q11 x0 x1 x2 hq hg KP
          cases u with
          | true =>
            have HS1 : Hid (ocF (tc, te, tn) (rs.drop (k + 1)) 2 = ocV (tc, te, tn) rs) := by have h := HSE.out; simp at h; exact h.symm
            clear HSE
            go_wp2
            go_roundw
            case rel => exact ⟨k + 1, _, by omega, by go_num, rfl, HB5.out, HS1.out⟩
            case measure => simp [intOf]; omega
          | false =>
            have HS1 : Hid (ocF (tc, te, tn) (rs.drop (k + 1)) z = ocV (tc, te, tn) rs) := by have h := HSE.out; simp at h; exact h.symm
            clear HSE
            go_wp2
            go_roundw
            case rel => exact ⟨k + 1, _, by omega, by go_num, rfl, HB5.out, HS1.out⟩
            case measure => simp [intOf]; omega
      · have hd : decide ((rc, re, rn) = (tc, te, tn)) = false := decide_eq_false ht
        rw [hd] at hq
        have HS1 : Hid (ocF (tc, te, tn) (rs.drop (k + 1)) z = ocV (tc, te, tn) rs) := by have h := HSD.out; simp [ht] at h; exact h.symm
        clear HSD CU
        go_wp2
        go_roundw
        case rel => exact ⟨k + 1, _, by omega, by go_num, rfl, HB1.out, HS1.out⟩
        case measure => simp [intOf]; omega
    · have HV : Hid (ocV (tc, te, tn) rs = z) := by
        have h2 := HS.out
        rw [List.drop_eq_nil_of_le (by rw [← HN.out]; omega)] at h2
        exact h2.symm
      have hlt' : ¬ (k : Int) < (n : Int) := by omega
      clear HS
      go_wp2
      go_ret
      exact ⟨by rw [HV.out]; rfl, HB0.out.trans (HB.out.mono HB0.out.size)⟩
end Go.Proofs.Ytnbafoennnhppab

