/-
  Outcome and Asked of the specification.
-/
import Derived.Test.YtnbafoennnhppabRyD
namespace Go.Proofs.Ytnbafoennnhppab
open Go.RowKit
set_option linter.unusedVariables false
set_option maxHeartbeats 4000000 in
set_option maxRecDepth 20000 in
theorem specOutcome_any (S : Nat → Prop) (a : Option Addr) (n c : Nat) (rs : List RY) (tc te tn : Int) (w : World) (h : Yr w S (.slice a n c) rs) :
    Calls Try.prog 6 #[.slice a n c, .agg #[.int .i64 tc, .int .i64 te, .int .i64 tn]] w fun e w' => e = .returned (.int .i64 (ocV (tc, te, tn) rs)) ∧ Below w.heap.size w w' := by
  have hnc := h.len.2.1
  have hcc := h.len.2.2
  have HN := hid h.len.1
  have hb0 := below_new (o := .cells #[.int .i64 tc, .int .i64 te, .int .i64 tn] 29) (w := w) (Below.refl _ _)
  have HB0 := hid hb0
  have K0 := hid (Bk.new w 29 [.int .i64 tc, .int .i64 te, .int .i64 tn])
  have H0 := hid (h.below hb0)
  clear h hb0
  go_enter Try.func6, Try.ntmps6
  go_wp2_with fail
  generalize hU : w.alloc (.cells #[.int .i64 tc, .int .i64 te, .int .i64 tn] 29) = U at *
  clear hU
  go_loopw [5, 7, 10] (fun x y i wr => ∃ (k : Nat) (z : Int), k ≤ n ∧ i = .int .i64 k ∧ x = .int .i64 z ∧ Hid (Below U.heap.size U wr) ∧ Hid (ocF (tc, te, tn) (rs.drop k) z = ocV (tc, te, tn) rs)) (fun _ _ i _ => n - (intOf i).toNat)
  case atStart => exact ⟨0, 0, Nat.zero_le _, rfl, rfl, Below.refl _ _, rfl⟩
  case round =>
    obtain ⟨k, z, hk, rfl, rfl, HB, HS⟩ := hrel
    by_cases hlt : k < n
    · skip
      have hlt' : (k : Int) < (n : Int) := by omega
      have hk0 : (0 : Int) ≤ (k : Int) := by omega
      have hkr : k < rs.length := by rw [← HN.out]; exact hlt
      obtain ⟨b, off, rfl, _, _, hcell⟩ := (H0.out.below HB.out).at (by omega)
      obtain ⟨pa, pn, pc, hr, _⟩ := hcell k hlt
      have HSD := hid (ocF_step (t := (tc, te, tn)) hkr z)
      rw [HS.out] at HSD
      clear HS
      generalize ryAt rs k = ry at *
      obtain ⟨rk, rc, re, rn, ra, ky, vl, lo, hi, mo, bk, co, ps⟩ := ry
      simp only [RY.cs, RY.tx, unR] at *
      have HR := hid hr
      clear hcell hr
      have hbp := below_new (o := .cells #[.int .i64 rk, .int .i64 rc, .int .i64 re, .int .i64 rn, .int .i64 ra, .string ky, .string vl, .string lo, .string hi, .int .i64 mo, .bool bk, .int .i64 co, .slice pa pn pc] 46) (w := wr) (Below.refl _ _)
      have KP := hid (Bk.new wr 46 [.int .i64 rk, .int .i64 rc, .int .i64 re, .int .i64 rn, .int .i64 ra, .string ky, .string vl, .string lo, .string hi, .int .i64 mo, .bool bk, .int .i64 co, .slice pa pn pc])
      have HB1 := hid (HB.out.trans (hbp.mono HB.out.size))
      clear hbp
      have q0 := KP.out.cell (j := 0) rfl
      have q1 := KP.out.cell (j := 1) rfl
      have q2 := KP.out.cell (j := 2) rfl
      have q3 := KP.out.cell (j := 3) rfl
      have q11 := KP.out.cell (j := 11) rfl
      have x0 := (K0.out.below HB1.out).cell (j := 0) rfl
      have x1 := (K0.out.below HB1.out).cell (j := 1) rfl
      have x2 := (K0.out.below HB1.out).cell (j := 2) rfl
      go_upto_region 5 with (first
          | (refine wpList_load_mid rfl 46 _ rfl b (off + k * 13) rfl _ _ HR.out Try.underlying46 rfl (by kernel_rfl) ?_)
          | (refine wpList_store_new ?hg 46 _ _ ?ho 46 _ _ ?hx ?hy ?hi ?hold ?h1 ?rest; (case hg => rfl); (case ho => rfl); (case hx => rfl); (case hy => rfl); (case hi => kernel_rfl); (case hold => rfl); (case h1 => kernel_rfl)))
      generalize wr.alloc (.cells #[.int .i64 rk, .int .i64 rc, .int .i64 re, .int .i64 rn, .int .i64 ra, .string ky, .string vl, .string lo, .string hi, .int .i64 mo, .bool bk, .int .i64 co, .slice pa pn pc] 46) = VV at *
      have hq := neq_tx rc re rn tc te tn
      have hg := guard_tx .neq
      by_cases ht : (rc, re, rn) = (tc, te, tn)
      · have hd : decide ((rc, re, rn) = (tc, te, tn)) = true := decide_eq_true ht
        rw [hd] at hq
        by_cases h3 : rk = 3
        · subst h3
          by_cases hc0 : co = 0
          · subst hc0
            have HS1 : Hid (ocV (tc, te, tn) rs = 1) := by have := HSD.out; simp [ht] at this; exact this
            clear HSD
            go_wp2
            go_ret
            exact ⟨by rw [HS1.out]; rfl, HB0.out.trans (HB1.out.mono HB0.out.size)⟩
          · by_cases hc1 : 1 < co
            · have HC := hid hc0
              have HS1 : Hid (ocF (tc, te, tn) (rs.drop (k + 1)) 2 = ocV (tc, te, tn) rs) := by have := HSD.out; simp [ht, HC.out, hc1] at this; exact this.symm
              clear HSD
              go_wp2
              go_roundw
              case rel => exact ⟨k + 1, _, by omega, by go_num, rfl, HB1.out, HS1.out⟩
              case measure => simp [intOf]; omega
            · have HC := hid hc0
              have HS1 : Hid (ocF (tc, te, tn) (rs.drop (k + 1)) z = ocV (tc, te, tn) rs) := by have := HSD.out; simp [ht, HC.out, hc1] at this; exact this.symm
              clear HSD
              go_wp2
              go_roundw
              case rel => exact ⟨k + 1, _, by omega, by go_num, rfl, HB1.out, HS1.out⟩
              case measure => simp [intOf]; omega
        · by_cases h4 : rk = 4
          · subst h4
            by_cases hc0 : co = 0
            · subst hc0
              have HS1 : Hid (ocF (tc, te, tn) (rs.drop (k + 1)) 2 = ocV (tc, te, tn) rs) := by have := HSD.out; simp [ht] at this; exact this.symm
              clear HSD
              go_wp2
              go_roundw
              case rel => exact ⟨k + 1, _, by omega, by go_num, rfl, HB1.out, HS1.out⟩
              case measure => simp [intOf]; omega
            · have HC := hid hc0
              have HS1 : Hid (ocF (tc, te, tn) (rs.drop (k + 1)) z = ocV (tc, te, tn) rs) := by have := HSD.out; simp [ht, HC.out] at this; exact this.symm
              clear HSD
              go_wp2
              go_roundw
              case rel => exact ⟨k + 1, _, by omega, by go_num, rfl, HB1.out, HS1.out⟩
              case measure => simp [intOf]; omega
          · by_cases h2 : rk = 2
            · subst h2
              by_cases hc1 : 1 < co
              · skip
                have HS1 : Hid (ocF (tc, te, tn) (rs.drop (k + 1)) 2 = ocV (tc, te, tn) rs) := by have := HSD.out; simp [ht, hc1] at this; exact this.symm
                clear HSD
                go_wp2
                go_roundw
                case rel => exact ⟨k + 1, _, by omega, by go_num, rfl, HB1.out, HS1.out⟩
                case measure => simp [intOf]; omega
              · skip
                have HS1 : Hid (ocF (tc, te, tn) (rs.drop (k + 1)) z = ocV (tc, te, tn) rs) := by have := HSD.out; simp [ht, hc1] at this; exact this.symm
                clear HSD
                go_wp2
                go_roundw
                case rel => exact ⟨k + 1, _, by omega, by go_num, rfl, HB1.out, HS1.out⟩
                case measure => simp [intOf]; omega
            · skip
              have HS1 : Hid (ocF (tc, te, tn) (rs.drop (k + 1)) z = ocV (tc, te, tn) rs) := by have := HSD.out; simp [ht, h2, h3, h4] at this; exact this.symm
              clear HSD
              go_wp2
              go_roundw
              case rel => exact ⟨k + 1, _, by omega, by go_num, rfl, HB1.out, HS1.out⟩
              case measure => simp [intOf]; omega
      · have hd : decide ((rc, re, rn) = (tc, te, tn)) = false := decide_eq_false ht
        rw [hd] at hq
        have HS1 : Hid (ocF (tc, te, tn) (rs.drop (k + 1)) z = ocV (tc, te, tn) rs) := by have := HSD.out; simp [ht] at this; exact this.symm
        clear HSD
        go_wp2
        go_roundw
        case rel => exact ⟨k + 1, _, by omega, by go_num, rfl, HB1.out, HS1.out⟩
        case measure => simp [intOf]; omega
    · have HV : Hid (ocV (tc, te, tn) rs = z) := by
        have h2 := HS.out
        rw [List.drop_eq_nil_of_le (by rw [← HN.out]; omega)] at h2
        exact h2.symm
      have hlt' : ¬ (k : Int) < (n : Int) := by omega
      clear HS
      go_wp2
      go_ret
      exact ⟨by rw [HV.out]; rfl, HB0.out.trans (HB.out.mono HB0.out.size)⟩
set_option maxHeartbeats 4000000 in
set_option maxRecDepth 20000 in
theorem specAsked_any (S : Nat → Prop) (a : Option Addr) (n c : Nat) (rs : List RY) (tc te tn : Int) (w : World) (h : Yr w S (.slice a n c) rs) :
    Calls Try.prog 11 #[.slice a n c, .agg #[.int .i64 tc, .int .i64 te, .int .i64 tn]] w fun e w' => e = .returned (.int .i64 (akN (tc, te, tn) rs)) ∧ Below w.heap.size w w' := by
  have hnc := h.len.2.1
  have hcc := h.len.2.2
  have HN := hid h.len.1
  have hb0 := below_new (o := .cells #[.int .i64 tc, .int .i64 te, .int .i64 tn] 29) (w := w) (Below.refl _ _)
  have HB0 := hid hb0
  have K0 := hid (Bk.new w 29 [.int .i64 tc, .int .i64 te, .int .i64 tn])
  have H0 := hid (h.below hb0)
  clear h hb0
  go_enter Try.func11, Try.ntmps11
  go_wp2_with fail
  generalize hU : w.alloc (.cells #[.int .i64 tc, .int .i64 te, .int .i64 tn] 29) = U at *
  clear hU
  go_loopw [5, 7, 10] (fun x y i wr => ∃ (k z : Nat), k ≤ n ∧ i = .int .i64 k ∧ x = .int .i64 z ∧ z ≤ k ∧ Hid (Below U.heap.size U wr) ∧ Hid (((rs.take k).filter (dnR (tc, te, tn))).length = z)) (fun _ _ i _ => n - (intOf i).toNat)
  case atStart => exact ⟨0, 0, Nat.zero_le _, rfl, rfl, Nat.le_refl _, Below.refl _ _, (show (List.filter (dnR (tc, te, tn)) (List.take 0 rs)).length = 0 by simp)⟩
  case round =>
    obtain ⟨k, z, hk, rfl, rfl, hzk, HB, HS⟩ := hrel
    by_cases hlt : k < n
    · skip
      have hlt' : (k : Int) < (n : Int) := by omega
      have hk0 : (0 : Int) ≤ (k : Int) := by omega
      have hkr : k < rs.length := by rw [← HN.out]; exact hlt
      obtain ⟨b, off, rfl, _, _, hcell⟩ := (H0.out.below HB.out).at (by omega)
      obtain ⟨pa, pn, pc, hr, _⟩ := hcell k hlt
      have HSD := hid (akN_step (t := (tc, te, tn)) hkr)
      rw [HS.out] at HSD
      clear HS
      generalize ryAt rs k = ry at *
      obtain ⟨rk, rc, re, rn, ra, ky, vl, lo, hi, mo, bk, co, ps⟩ := ry
      simp only [RY.cs, RY.tx, dnR] at *
      have HR := hid hr
      clear hcell hr
      have hbp := below_new (o := .cells #[.int .i64 rk, .int .i64 rc, .int .i64 re, .int .i64 rn, .int .i64 ra, .string ky, .string vl, .string lo, .string hi, .int .i64 mo, .bool bk, .int .i64 co, .slice pa pn pc] 46) (w := wr) (Below.refl _ _)
      have KP := hid (Bk.new wr 46 [.int .i64 rk, .int .i64 rc, .int .i64 re, .int .i64 rn, .int .i64 ra, .string ky, .string vl, .string lo, .string hi, .int .i64 mo, .bool bk, .int .i64 co, .slice pa pn pc])
      have HB1 := hid (HB.out.trans (hbp.mono HB.out.size))
      clear hbp
      have q0 := KP.out.cell (j := 0) rfl
      have q1 := KP.out.cell (j := 1) rfl
      have q2 := KP.out.cell (j := 2) rfl
      have q3 := KP.out.cell (j := 3) rfl
      have q11 := KP.out.cell (j := 11) rfl
      have x0 := (K0.out.below HB1.out).cell (j := 0) rfl
      have x1 := (K0.out.below HB1.out).cell (j := 1) rfl
      have x2 := (K0.out.below HB1.out).cell (j := 2) rfl
      go_upto_region 5 with (first
          | (refine wpList_load_mid rfl 46 _ rfl b (off + k * 13) rfl _ _ HR.out Try.underlying46 rfl (by kernel_rfl) ?_)
          | (refine wpList_store_new ?hg 46 _ _ ?ho 46 _ _ ?hx ?hy ?hi ?hold ?h1 ?rest; (case hg => rfl); (case ho => rfl); (case hx => rfl); (case hy => rfl); (case hi => kernel_rfl); (case hold => rfl); (case h1 => kernel_rfl)))
      generalize wr.alloc (.cells #[.int .i64 rk, .int .i64 rc, .int .i64 re, .int .i64 rn, .int .i64 ra, .string ky, .string vl, .string lo, .string hi, .int .i64 mo, .bool bk, .int .i64 co, .slice pa pn pc] 46) = VV at *
      have hq := eql_tx rc re rn tc te tn
      have hg := guard_tx .eql
      by_cases h2 : rk = 2
      · subst h2
        by_cases ht : (rc, re, rn) = (tc, te, tn)
        · have hd : decide ((rc, re, rn) = (tc, te, tn)) = true := decide_eq_true ht
          rw [hd] at hq
          by_cases hc0 : co = 0
          · subst hc0
            have HS1 : Hid (((rs.take (k + 1)).filter (dnR (tc, te, tn))).length = z + 1) := by have := HSD.out; simp [ht] at this; exact this
            clear HSD
            go_wp2
            go_roundw
            case rel => exact ⟨k + 1, z + 1, by omega, by go_num, by first | rfl | go_num, by omega, HB1.out, HS1.out⟩
            case measure => simp [intOf]; omega
          · have HC := hid hc0
            have HS1 : Hid (((rs.take (k + 1)).filter (dnR (tc, te, tn))).length = z) := by have := HSD.out; simp [ht, HC.out] at this; exact this
            clear HSD
            go_wp2
            go_roundw
            case rel => exact ⟨k + 1, z, by omega, by go_num, by first | rfl | go_num, by omega, HB1.out, HS1.out⟩
            case measure => simp [intOf]; omega
        · have hd : decide ((rc, re, rn) = (tc, te, tn)) = false := decide_eq_false ht
          rw [hd] at hq
          have HS1 : Hid (((rs.take (k + 1)).filter (dnR (tc, te, tn))).length = z) := by have := HSD.out; simp [ht] at this; exact this
          clear HSD
          go_wp2
          go_roundw
          case rel => exact ⟨k + 1, z, by omega, by go_num, by first | rfl | go_num, by omega, HB1.out, HS1.out⟩
          case measure => simp [intOf]; omega
      · skip
        have HS1 : Hid (((rs.take (k + 1)).filter (dnR (tc, te, tn))).length = z) := by have := HSD.out; simp [h2] at this; exact this
        clear HSD
        go_wp2
        go_roundw
        case rel => exact ⟨k + 1, z, by omega, by go_num, by first | rfl | go_num, by omega, HB1.out, HS1.out⟩
        case measure => simp [intOf]; omega
    · have HV : Hid (akN (tc, te, tn) rs = z) := by
        have h2 := HS.out
        rw [List.take_of_length_le (by rw [← HN.out]; omega)] at h2
        show ((_ : Nat) : Int) = _
        rw [h2]
      have hlt' : ¬ (k : Int) < (n : Int) := by omega
      clear HS
      go_wp2
      go_ret
      exact ⟨by rw [HV.out]; rfl, HB0.out.trans (HB.out.mono HB0.out.size)⟩
end Go.Proofs.Ytnbafoennnhppab

