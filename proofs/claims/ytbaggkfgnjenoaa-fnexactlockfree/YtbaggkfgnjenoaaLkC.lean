/-
  Rows of locks: looked through by the program's closures and by the specification's loops.
-/
import Derived.Test.YtbaggkfgnjenoaaLkB
import Derived.Test.YtbaggkfgnjenoaaKc
import Derived.Test.YtbaggkfgnjenoaaKl
import Derived.Deep.RegionHeld3
namespace Go.Proofs.Ytbaggkfgnjenoaa
open Go.RowKit
set_option linter.unusedVariables false
theorem anyC_def (l : List LK) (x : LK) : anyC l x = l.any (clash x) := rfl
theorem hasT_def (l : List LK) (t : TX) : hasT l t = l.any (fun y => decide (y.1 = t)) := rfl
set_option maxHeartbeats 3200000 in
theorem cwaFn_any (c e n : Int) (lo hi : ByteArray) (ex : Bool) (a b d : Int) (la ha : ByteArray) (xa : Bool) (g : Nat) (w : World) (hk : Bk w g 102 [.string lo, .string hi, .int .i64 c, .int .i64 e, .int .i64 n, .bool ex]) :
    Calls Try.prog 120 #[.agg #[.int .i64 a, .int .i64 b, .int .i64 d, .string la, .string ha, .bool xa], .pointer (some ⟨g, 0, none⟩)] w fun r w' => r = .returned (.bool (clash ((c, e, n), (lo, hi), ex) ((a, b, d), (la, ha), xa))) ∧ Below w.heap.size w w' := by
  have C1 := hid (fun w => claimOf_any a b d la ha xa w)
  have C2 := hid (fun w => clashes_any c e n lo hi ex a b d la ha xa w)
  generalize clash ((c, e, n), (lo, hi), ex) ((a, b, d), (la, ha), xa) = z at *
  have B0 := hid (below_new (o := .cells #[.int .i64 a, .int .i64 b, .int .i64 d, .string la, .string ha, .bool xa] 31) (w := w) (Below.refl _ _))
  have J0 := hid (Bk.new w 31 [.int .i64 a, .int .i64 b, .int .i64 d, .string la, .string ha, .bool xa])
  have K0 := hid (hk.alloc (.cells #[.int .i64 a, .int .i64 b, .int .i64 d, .string la, .string ha, .bool xa] 31))
  have HGW : g < w.heap.size := hk.lt
  clear hk
  generalize hU : w.alloc (.cells #[.int .i64 a, .int .i64 b, .int .i64 d, .string la, .string ha, .bool xa] 31) = U at *
  have HU := hid hU
  clear hU
  have T0 : Hid (KL U U [(⟨g, 0, none⟩, .string lo), (⟨g, 1, none⟩, .string hi), (⟨g, 2, none⟩, .int .i64 c), (⟨g, 3, none⟩, .int .i64 e), (⟨g, 4, none⟩, .int .i64 n), (⟨g, 5, none⟩, .bool ex), (⟨w.heap.size, 0, none⟩, .int .i64 a), (⟨w.heap.size, 1, none⟩, .int .i64 b), (⟨w.heap.size, 2, none⟩, .int .i64 d), (⟨w.heap.size, 3, none⟩, .string la), (⟨w.heap.size, 4, none⟩, .string ha), (⟨w.heap.size, 5, none⟩, .bool xa)]) := ⟨fun p hp => by
    simp only [List.mem_cons, List.not_mem_nil, or_false] at hp
    rcases hp with rfl | rfl | rfl | rfl | rfl | rfl | rfl | rfl | rfl | rfl | rfl | rfl
    · exact K0.out.cell (j := 0) rfl
    · exact K0.out.cell (j := 1) rfl
    · exact K0.out.cell (j := 2) rfl
    · exact K0.out.cell (j := 3) rfl
    · exact K0.out.cell (j := 4) rfl
    · exact K0.out.cell (j := 5) rfl
    · exact J0.out.cell (j := 0) rfl
    · exact J0.out.cell (j := 1) rfl
    · exact J0.out.cell (j := 2) rfl
    · exact J0.out.cell (j := 3) rfl
    · exact J0.out.cell (j := 4) rfl
    · exact J0.out.cell (j := 5) rfl, Below.refl _ _⟩
  go_enter Try.func120, Try.ntmps120
  go_wp2_with fail
  rw [HU.out]
  go_region_held3 (fun v => v.cell? ⟨g, 0, none⟩ = some (.string lo) ∧ v.cell? ⟨g, 1, none⟩ = some (.string hi) ∧ v.cell? ⟨g, 2, none⟩ = some (.int .i64 c) ∧ v.cell? ⟨g, 3, none⟩ = some (.int .i64 e) ∧ v.cell? ⟨g, 4, none⟩ = some (.int .i64 n) ∧ v.cell? ⟨g, 5, none⟩ = some (.bool ex) ∧ v.cell? ⟨w.heap.size, 0, none⟩ = some (.int .i64 a) ∧ v.cell? ⟨w.heap.size, 1, none⟩ = some (.int .i64 b) ∧ v.cell? ⟨w.heap.size, 2, none⟩ = some (.int .i64 d) ∧ v.cell? ⟨w.heap.size, 3, none⟩ = some (.string la) ∧ v.cell? ⟨w.heap.size, 4, none⟩ = some (.string ha) ∧ v.cell? ⟨w.heap.size, 5, none⟩ = some (.bool xa) ∧ KL U v [(⟨g, 0, none⟩, .string lo), (⟨g, 1, none⟩, .string hi), (⟨g, 2, none⟩, .int .i64 c), (⟨g, 3, none⟩, .int .i64 e), (⟨g, 4, none⟩, .int .i64 n), (⟨g, 5, none⟩, .bool ex), (⟨w.heap.size, 0, none⟩, .int .i64 a), (⟨w.heap.size, 1, none⟩, .int .i64 b), (⟨w.heap.size, 2, none⟩, .int .i64 d), (⟨w.heap.size, 3, none⟩, .string la), (⟨w.heap.size, 4, none⟩, .string ha), (⟨w.heap.size, 5, none⟩, .bool xa)])
    (first | assumption | exact kl12 (T0.out.call (below_drew _)) | exact kl12c hbC (by assumption))
    (first
      | (go_at_call 63; refine (C1.out _).mono ?_; rintro r w' ⟨rfl, hbC⟩)
      | (go_at_call 121; refine (C2.out _).mono ?_; rintro r w' ⟨rfl, hbC⟩))
  rename_i hS
  have B6 := hid (B0.out.trans (hS.2.2.2.2.2.2.2.2.2.2.2.2.bel.mono B0.out.size))
  clear hS
  go_wp2
  go_ret
  exact ⟨rfl, B6.out⟩
set_option maxHeartbeats 1600000 in
theorem iaFn_any (c e n : Int) (a b d : Int) (la ha : ByteArray) (xa : Bool) (g : Nat) (w : World) (hk : Bk w g 27 [.int .i64 c, .int .i64 e, .int .i64 n]) :
    Calls Try.prog 90 #[.agg #[.int .i64 a, .int .i64 b, .int .i64 d, .string la, .string ha, .bool xa], .pointer (some ⟨g, 0, none⟩)] w fun r w' => r = .returned (.bool (decide ((a, b, d) = (c, e, n)))) ∧ Below w.heap.size w w' := by
  have B0 := hid (below_new (o := .cells #[.int .i64 a, .int .i64 b, .int .i64 d, .string la, .string ha, .bool xa] 31) (w := w) (Below.refl _ _))
  have x0 := hk.cell (j := 0) rfl
  have x1 := hk.cell (j := 1) rfl
  have x2 := hk.cell (j := 2) rfl
  have HGW : g < w.heap.size := hk.lt
  have hq := eql_tx a b d c e n
  have hg := guard_tx .eql
  generalize decide ((a, b, d) = (c, e, n)) = z1 at *
  clear hk
  go_enter Try.func90, Try.ntmps90
  go_wp2
  go_ret
  exact ⟨rfl, B0.out⟩
set_option maxHeartbeats 2000000 in
theorem idxLC_any (S : Nat → Prop) (a : Option Addr) (n c : Nat) (l : List LK) (p0 : Value) (f : LK → Bool) (w : World) (h : Lr w S (.slice a n c) l)
    (HC : ∀ v, Below w.heap.size w v → ∀ (c e n : Int) (lo hi : ByteArray) (ex : Bool), Calls Try.prog 120 #[.agg #[.int .i64 c, .int .i64 e, .int .i64 n, .string lo, .string hi, .bool ex], p0] v fun e' w' => e' = .returned (.bool (f ((c, e, n), (lo, hi), ex))) ∧ Below v.heap.size v w') :
    Calls Try.prog 97 #[.slice a n c, .func (.func 120) #[] #[p0]] w fun e w' => (∃ x : Int, e = .returned (.int .i64 x) ∧ decide (0 ≤ x) = l.any f ∧ -1 ≤ x ∧ x ≤ 9223372036854775807) ∧ Below w.heap.size w w' := by
  have HN := hid (Rw.len h).1
  have bk := (Rw.len h).2
  have H0 := hid h
  have HCL := hid HC
  clear h HC
  go_enter Try.func97, Try.ntmps97
  go_wp2_with fail
  go_loopw [8] (fun i v => ∃ k : Nat, k ≤ n ∧ i = .int .i64 k ∧ Hid (Below w.heap.size w v) ∧ Hid ((l.take k).any f = false)) (fun i _ => n - (intOf i).toNat)
  case atStart => exact ⟨0, Nat.zero_le _, rfl, Below.refl _ _, rfl⟩
  case round =>
    obtain ⟨m, hm, rfl, HB, HT⟩ := hrel
    by_cases hlt : m < n
    · have hlt' : (m : Int) < (n : Int) := by omega
      have hml : m < l.length := by rw [← HN.out]; exact hlt
      obtain ⟨b, off, ha, -, -, hcell⟩ := (H0.out.below HB.out).at (by omega)
      obtain ⟨hc0, hc1, hc2, hc3, hc4, hc5⟩ := hcell m hlt
      clear hcell
      subst ha
      generalize hcur : lAt l m = cur at hc0 hc1 hc2 hc3 hc4 hc5
      have HCU : Hid (l[m]?.getD lk0 = cur) := hcur
      clear hcur
      obtain ⟨⟨cc, ce, cn⟩, ⟨clo, chi⟩, cex⟩ := cur
      have HCA := hid (HCL.out wr HB.out cc ce cn clo chi cex)
      go_wp2_with fail
      refine HCA.out.mono ?_
      rintro e w1 ⟨rfl, hb⟩
      have HB1 := hid (HB.out.trans (hb.mono HB.out.size))
      clear hb HB HCA
      cases h1 : f ((cc, ce, cn), (clo, chi), cex)
      · have HT2 : Hid ((l.take (m + 1)).any f = false) := by
          show _ = false
          rw [anyl_take _ _ lk0 hml, HT.out, HCU.out, h1]; rfl
        go_wp2
        go_roundw
        case rel => exact ⟨m + 1, by omega, by go_num, HB1.out, HT2.out⟩
        case measure => simp [intOf]; omega
      · have HZ : Hid (l.any f = true) := anyl_yes _ _ lk0 hml (by rw [HCU.out]; exact h1)
        go_wp2
        go_ret
        exact ⟨⟨_, rfl, by rw [HZ.out]; simp, by omega, by omega⟩, HB1.out⟩
    · have HA : Hid (l.any f = false) := by
        have := HT.out
        rwa [List.take_of_length_le (by rw [← HN.out]; omega)] at this
      go_wp2
      go_ret
      exact ⟨⟨_, rfl, by rw [HA.out]; decide, by omega, by omega⟩, HB.out⟩
set_option maxHeartbeats 800000 in
theorem hasLC_any (S : Nat → Prop) (a : Option Addr) (n c : Nat) (l : List LK) (p0 : Value) (f : LK → Bool) (w : World) (h : Lr w S (.slice a n c) l)
    (HC : ∀ v, Below w.heap.size w v → ∀ (c e n : Int) (lo hi : ByteArray) (ex : Bool), Calls Try.prog 120 #[.agg #[.int .i64 c, .int .i64 e, .int .i64 n, .string lo, .string hi, .bool ex], p0] v fun e' w' => e' = .returned (.bool (f ((c, e, n), (lo, hi), ex))) ∧ Below v.heap.size v w') :
    Calls Try.prog 61 #[.slice a n c, .func (.func 120) #[] #[p0]] w fun e w' => e = .returned (.bool (l.any f)) ∧ Below w.heap.size w w' := by
  have H0 := hid (idxLC_any S a n c l p0 f w h HC)
  clear h HC
  go_enter Try.func61, Try.ntmps61
  go_wp2_with fail
  refine H0.out.mono ?_
  rintro e w1 ⟨⟨x, rfl, hx, h0, h1⟩, hb⟩
  have HX := hid hx
  have HB := hid hb
  clear hx hb
  go_wp2
  go_ret
  exact ⟨by rw [← HX.out]; rfl, HB.out⟩
set_option maxHeartbeats 2000000 in
theorem idxLA_any (S : Nat → Prop) (a : Option Addr) (n c : Nat) (l : List LK) (p0 : Value) (f : LK → Bool) (w : World) (h : Lr w S (.slice a n c) l)
    (HC : ∀ v, Below w.heap.size w v → ∀ (c e n : Int) (lo hi : ByteArray) (ex : Bool), Calls Try.prog 90 #[.agg #[.int .i64 c, .int .i64 e, .int .i64 n, .string lo, .string hi, .bool ex], p0] v fun e' w' => e' = .returned (.bool (f ((c, e, n), (lo, hi), ex))) ∧ Below v.heap.size v w') :
    Calls Try.prog 97 #[.slice a n c, .func (.func 90) #[] #[p0]] w fun e w' => (∃ x : Int, e = .returned (.int .i64 x) ∧ decide (0 ≤ x) = l.any f ∧ -1 ≤ x ∧ x ≤ 9223372036854775807) ∧ Below w.heap.size w w' := by
  have HN := hid (Rw.len h).1
  have bk := (Rw.len h).2
  have H0 := hid h
  have HCL := hid HC
  clear h HC
  go_enter Try.func97, Try.ntmps97
  go_wp2_with fail
  go_loopw [8] (fun i v => ∃ k : Nat, k ≤ n ∧ i = .int .i64 k ∧ Hid (Below w.heap.size w v) ∧ Hid ((l.take k).any f = false)) (fun i _ => n - (intOf i).toNat)
  case atStart => exact ⟨0, Nat.zero_le _, rfl, Below.refl _ _, rfl⟩
  case round =>
    obtain ⟨m, hm, rfl, HB, HT⟩ := hrel
    by_cases hlt : m < n
    · have hlt' : (m : Int) < (n : Int) := by omega
      have hml : m < l.length := by rw [← HN.out]; exact hlt
      obtain ⟨b, off, ha, -, -, hcell⟩ := (H0.out.below HB.out).at (by omega)
      obtain ⟨hc0, hc1, hc2, hc3, hc4, hc5⟩ := hcell m hlt
      clear hcell
      subst ha
      generalize hcur : lAt l m = cur at hc0 hc1 hc2 hc3 hc4 hc5
      have HCU : Hid (l[m]?.getD lk0 = cur) := hcur
      clear hcur
      obtain ⟨⟨cc, ce, cn⟩, ⟨clo, chi⟩, cex⟩ := cur
      have HCA := hid (HCL.out wr HB.out cc ce cn clo chi cex)
      go_wp2_with fail
      refine HCA.out.mono ?_
      rintro e w1 ⟨rfl, hb⟩
      have HB1 := hid (HB.out.trans (hb.mono HB.out.size))
      clear hb HB HCA
      cases h1 : f ((cc, ce, cn), (clo, chi), cex)
      · have HT2 : Hid ((l.take (m + 1)).any f = false) := by
          show _ = false
          rw [anyl_take _ _ lk0 hml, HT.out, HCU.out, h1]; rfl
        go_wp2
        go_roundw
        case rel => exact ⟨m + 1, by omega, by go_num, HB1.out, HT2.out⟩
        case measure => simp [intOf]; omega
      · have HZ : Hid (l.any f = true) := anyl_yes _ _ lk0 hml (by rw [HCU.out]; exact h1)
        go_wp2
        go_ret
        exact ⟨⟨_, rfl, by rw [HZ.out]; simp, by omega, by omega⟩, HB1.out⟩
    · have HA : Hid (l.any f = false) := by
        have := HT.out
        rwa [List.take_of_length_le (by rw [← HN.out]; omega)] at this
      go_wp2
      go_ret
      exact ⟨⟨_, rfl, by rw [HA.out]; decide, by omega, by omega⟩, HB.out⟩
set_option maxHeartbeats 800000 in
theorem hasLA_any (S : Nat → Prop) (a : Option Addr) (n c : Nat) (l : List LK) (p0 : Value) (f : LK → Bool) (w : World) (h : Lr w S (.slice a n c) l)
    (HC : ∀ v, Below w.heap.size w v → ∀ (c e n : Int) (lo hi : ByteArray) (ex : Bool), Calls Try.prog 90 #[.agg #[.int .i64 c, .int .i64 e, .int .i64 n, .string lo, .string hi, .bool ex], p0] v fun e' w' => e' = .returned (.bool (f ((c, e, n), (lo, hi), ex))) ∧ Below v.heap.size v w') :
    Calls Try.prog 61 #[.slice a n c, .func (.func 90) #[] #[p0]] w fun e w' => e = .returned (.bool (l.any f)) ∧ Below w.heap.size w w' := by
  have H0 := hid (idxLA_any S a n c l p0 f w h HC)
  clear h HC
  go_enter Try.func61, Try.ntmps61
  go_wp2_with fail
  refine H0.out.mono ?_
  rintro e w1 ⟨⟨x, rfl, hx, h0, h1⟩, hb⟩
  have HX := hid hx
  have HB := hid hb
  clear hx hb
  go_wp2
  go_ret
  exact ⟨by rw [← HX.out]; rfl, HB.out⟩
set_option maxHeartbeats 2000000 in
theorem idxLH_any (S : Nat → Prop) (a : Option Addr) (n c : Nat) (l : List LK) (p0 p1 p2 : Value) (f : LK → Bool) (w : World) (h : Lr w S (.slice a n c) l)
    (HC : ∀ v, Below w.heap.size w v → ∀ (c e n : Int) (lo hi : ByteArray) (ex : Bool), Calls Try.prog 62 #[.agg #[.int .i64 c, .int .i64 e, .int .i64 n, .string lo, .string hi, .bool ex], p0, p1, p2] v fun e' w' => e' = .returned (.bool (f ((c, e, n), (lo, hi), ex))) ∧ Below v.heap.size v w') :
    Calls Try.prog 97 #[.slice a n c, .func (.func 62) #[] #[p0, p1, p2]] w fun e w' => (∃ x : Int, e = .returned (.int .i64 x) ∧ decide (0 ≤ x) = l.any f ∧ -1 ≤ x ∧ x ≤ 9223372036854775807) ∧ Below w.heap.size w w' := by
  have HN := hid (Rw.len h).1
  have bk := (Rw.len h).2
  have H0 := hid h
  have HCL := hid HC
  clear h HC
  go_enter Try.func97, Try.ntmps97
  go_wp2_with fail
  go_loopw [8] (fun i v => ∃ k : Nat, k ≤ n ∧ i = .int .i64 k ∧ Hid (Below w.heap.size w v) ∧ Hid ((l.take k).any f = false)) (fun i _ => n - (intOf i).toNat)
  case atStart => exact ⟨0, Nat.zero_le _, rfl, Below.refl _ _, rfl⟩
  case round =>
    obtain ⟨m, hm, rfl, HB, HT⟩ := hrel
    by_cases hlt : m < n
    · have hlt' : (m : Int) < (n : Int) := by omega
      have hml : m < l.length := by rw [← HN.out]; exact hlt
      obtain ⟨b, off, ha, -, -, hcell⟩ := (H0.out.below HB.out).at (by omega)
      obtain ⟨hc0, hc1, hc2, hc3, hc4, hc5⟩ := hcell m hlt
      clear hcell
      subst ha
      generalize hcur : lAt l m = cur at hc0 hc1 hc2 hc3 hc4 hc5
      have HCU : Hid (l[m]?.getD lk0 = cur) := hcur
      clear hcur
      obtain ⟨⟨cc, ce, cn⟩, ⟨clo, chi⟩, cex⟩ := cur
      have HCA := hid (HCL.out wr HB.out cc ce cn clo chi cex)
      go_wp2_with fail
      refine HCA.out.mono ?_
      rintro e w1 ⟨rfl, hb⟩
      have HB1 := hid (HB.out.trans (hb.mono HB.out.size))
      clear hb HB HCA
      cases h1 : f ((cc, ce, cn), (clo, chi), cex)
      · have HT2 : Hid ((l.take (m + 1)).any f = false) := by
          show _ = false
          rw [anyl_take _ _ lk0 hml, HT.out, HCU.out, h1]; rfl
        go_wp2
        go_roundw
        case rel => exact ⟨m + 1, by omega, by go_num, HB1.out, HT2.out⟩
        case measure => simp [intOf]; omega
      · have HZ : Hid (l.any f = true) := anyl_yes _ _ lk0 hml (by rw [HCU.out]; exact h1)
        go_wp2
        go_ret
        exact ⟨⟨_, rfl, by rw [HZ.out]; simp, by omega, by omega⟩, HB1.out⟩
    · have HA : Hid (l.any f = false) := by
        have := HT.out
        rwa [List.take_of_length_le (by rw [← HN.out]; omega)] at this
      go_wp2
      go_ret
      exact ⟨⟨_, rfl, by rw [HA.out]; decide, by omega, by omega⟩, HB.out⟩
set_option maxHeartbeats 800000 in
theorem hasLH_any (S : Nat → Prop) (a : Option Addr) (n c : Nat) (l : List LK) (p0 p1 p2 : Value) (f : LK → Bool) (w : World) (h : Lr w S (.slice a n c) l)
    (HC : ∀ v, Below w.heap.size w v → ∀ (c e n : Int) (lo hi : ByteArray) (ex : Bool), Calls Try.prog 62 #[.agg #[.int .i64 c, .int .i64 e, .int .i64 n, .string lo, .string hi, .bool ex], p0, p1, p2] v fun e' w' => e' = .returned (.bool (f ((c, e, n), (lo, hi), ex))) ∧ Below v.heap.size v w') :
    Calls Try.prog 61 #[.slice a n c, .func (.func 62) #[] #[p0, p1, p2]] w fun e w' => e = .returned (.bool (l.any f)) ∧ Below w.heap.size w w' := by
  have H0 := hid (idxLH_any S a n c l p0 p1 p2 f w h HC)
  clear h HC
  go_enter Try.func61, Try.ntmps61
  go_wp2_with fail
  refine H0.out.mono ?_
  rintro e w1 ⟨⟨x, rfl, hx, h0, h1⟩, hb⟩
  have HX := hid hx
  have HB := hid hb
  clear hx hb
  go_wp2
  go_ret
  exact ⟨by rw [← HX.out]; rfl, HB.out⟩
set_option maxHeartbeats 1600000 in
theorem cwa_any (c e n : Int) (lo hi : ByteArray) (ex : Bool) (S : Nat → Prop) (a : Option Addr) (m k : Nat) (l : List LK) (w : World) (h : Lr w S (.slice a m k) l) :
    Calls Try.prog 96 #[.agg #[.string lo, .string hi, .int .i64 c, .int .i64 e, .int .i64 n, .bool ex], .slice a m k] w fun r w' => r = .returned (.bool (anyC l ((c, e, n), (lo, hi), ex))) ∧ Below w.heap.size w w' := by
  have B0 := hid (below_new (o := .cells #[.string lo, .string hi, .int .i64 c, .int .i64 e, .int .i64 n, .bool ex] 102) (w := w) (Below.refl _ _))
  have K0 := hid (Bk.new w 102 [.string lo, .string hi, .int .i64 c, .int .i64 e, .int .i64 n, .bool ex])
  have HL := hid (h.below B0.out)
  have C1 := hid (hasLC_any S a m k l (.pointer (some ⟨w.heap.size, 0, none⟩)) (clash ((c, e, n), (lo, hi), ex)) _ HL.out (fun v hv a b d la ha xa => cwaFn_any c e n lo hi ex a b d la ha xa w.heap.size v (K0.out.below hv)))
  rw [← anyC_def] at C1
  generalize anyC l ((c, e, n), (lo, hi), ex) = z at *
  clear h
  go_enter Try.func96, Try.ntmps96
  go_wp2_with fail
  refine C1.out.mono ?_
  rintro r w1 ⟨rfl, hb⟩
  have B1 := hid (B0.out.trans (hb.mono B0.out.size))
  clear hb
  go_wp2
  go_ret
  exact ⟨rfl, B1.out⟩
set_option maxHeartbeats 1600000 in
theorem isAmong_any (c e n : Int) (S : Nat → Prop) (a : Option Addr) (m k : Nat) (l : List LK) (w : World) (h : Lr w S (.slice a m k) l) :
    Calls Try.prog 49 #[.slice a m k, .agg #[.int .i64 c, .int .i64 e, .int .i64 n]] w fun r w' => r = .returned (.bool (hasT l (c, e, n))) ∧ Below w.heap.size w w' := by
  have B0 := hid (below_new (o := .cells #[.int .i64 c, .int .i64 e, .int .i64 n] 27) (w := w) (Below.refl _ _))
  have K0 := hid (Bk.new w 27 [.int .i64 c, .int .i64 e, .int .i64 n])
  have HL := hid (h.below B0.out)
  have C1 := hid (hasLA_any S a m k l (.pointer (some ⟨w.heap.size, 0, none⟩)) (fun y => decide (y.1 = (c, e, n))) _ HL.out (fun v hv a b d la ha xa => iaFn_any c e n a b d la ha xa w.heap.size v (K0.out.below hv)))
  rw [← hasT_def] at C1
  generalize hasT l (c, e, n) = z at *
  clear h
  go_enter Try.func49, Try.ntmps49
  go_wp2_with fail
  refine C1.out.mono ?_
  rintro r w1 ⟨rfl, hb⟩
  have B1 := hid (B0.out.trans (hb.mono B0.out.size))
  clear hb
  go_wp2
  go_ret
  exact ⟨rfl, B1.out⟩
set_option maxHeartbeats 2000000 in
theorem l07Any_any (c e n : Int) (lo hi : ByteArray) (ex : Bool) (S : Nat → Prop) (a : Option Addr) (m k : Nat) (l : List LK) (w : World) (h : Lr w S (.slice a m k) l) :
    Calls Try.prog 57 #[.slice a m k, .agg #[.int .i64 c, .int .i64 e, .int .i64 n, .string lo, .string hi, .bool ex]] w fun r w' => r = .returned (.bool (anyC l ((c, e, n), (lo, hi), ex))) ∧ Below w.heap.size w w' := by
  have B0 := hid (below_new (o := .cells #[.int .i64 c, .int .i64 e, .int .i64 n, .string lo, .string hi, .bool ex] 31) (w := w) (Below.refl _ _))
  have K0 := hid (Bk.new w 31 [.int .i64 c, .int .i64 e, .int .i64 n, .string lo, .string hi, .bool ex])
  have HN := hid (Rw.len h).1
  have bk := (Rw.len h).2
  have H0 := hid (h.below B0.out)
  have HCL := hid (fun a b d la ha xa w => l07Clash_any c e n lo hi ex a b d la ha xa w)
  rw [anyC_def]
  generalize clash ((c, e, n), (lo, hi), ex) = f at *
  clear h
  generalize hU : w.alloc (.cells #[.int .i64 c, .int .i64 e, .int .i64 n, .string lo, .string hi, .bool ex] 31) = U at *
  have HU := hid hU
  clear hU
  go_enter Try.func57, Try.ntmps57
  go_wp2_with fail
  rw [HU.out]
  go_loopw [9] (fun i v => ∃ k : Nat, k ≤ m ∧ i = .int .i64 k ∧ Hid (Below U.heap.size U v) ∧ Hid ((l.take k).any f = false)) (fun i _ => m - (intOf i).toNat)
  case atStart => exact ⟨0, Nat.zero_le _, rfl, Below.refl _ _, rfl⟩
  case round =>
    obtain ⟨j, hj, rfl, HB, HT⟩ := hrel
    by_cases hlt : j < m
    · have hlt' : (j : Int) < (m : Int) := by omega
      have hml : j < l.length := by rw [← HN.out]; exact hlt
      obtain ⟨b, off, ha, -, -, hcell⟩ := (H0.out.below HB.out).at (by omega)
      obtain ⟨hc0, hc1, hc2, hc3, hc4, hc5⟩ := hcell j hlt
      clear hcell
      subst ha
      generalize hcur : lAt l j = cur at hc0 hc1 hc2 hc3 hc4 hc5
      have HCU : Hid (l[j]?.getD lk0 = cur) := hcur
      clear hcur
      obtain ⟨⟨cc, ce, cn⟩, ⟨clo, chi⟩, cex⟩ := cur
      have K1 := hid (K0.out.below HB.out)
      have k0 := K1.out.lt
      have x0 := K1.out.cell (j := 0) rfl
      have x1 := K1.out.cell (j := 1) rfl
      have x2 := K1.out.cell (j := 2) rfl
      have x3 := K1.out.cell (j := 3) rfl
      have x4 := K1.out.cell (j := 4) rfl
      have x5 := K1.out.cell (j := 5) rfl
      have B1 : Hid (Below U.heap.size U (wr.alloc (.cells #[.int .i64 cc, .int .i64 ce, .int .i64 cn, .string clo, .string chi, .bool cex] 31))) := HB.out.trans (below_new (Below.refl _ _) |>.mono HB.out.size)
      go_wp2_with fail
      refine (HCL.out cc ce cn clo chi cex _).mono ?_
      rintro e w1 ⟨rfl, hb⟩
      have HB1 := hid (B1.out.trans (hb.mono B1.out.size))
      clear hb HB B1 x0 x1 x2 x3 x4 x5 K1
      cases h1 : f ((cc, ce, cn), (clo, chi), cex)
      · have HT2 : Hid ((l.take (j + 1)).any f = false) := by
          show _ = false
          rw [anyl_take _ _ lk0 hml, HT.out, HCU.out, h1]; rfl
        go_wp2
        go_roundw
        case rel => exact ⟨j + 1, by omega, by go_num, HB1.out, HT2.out⟩
        case measure => simp [intOf]; omega
      · have HZ : Hid (l.any f = true) := anyl_yes _ _ lk0 hml (by rw [HCU.out]; exact h1)
        go_wp2
        go_ret
        exact ⟨by rw [HZ.out]; rfl, B0.out.trans (HB1.out.mono B0.out.size)⟩
    · have HA : Hid (l.any f = false) := by
        have := HT.out
        rwa [List.take_of_length_le (by rw [← HN.out]; omega)] at this
      go_wp2
      go_ret
      exact ⟨by rw [HA.out]; rfl, B0.out.trans (HB.out.mono B0.out.size)⟩
set_option maxHeartbeats 2000000 in
theorem l07Waits_any (c e n : Int) (S : Nat → Prop) (hv : Value) (a : Option Addr) (m k : Nat) (l : List LK) (w : World) (hone : hv.oneCell' = true) (h : Lr w S (.slice a m k) l) :
    Calls Try.prog 55 #[.agg #[hv, .slice a m k], .agg #[.int .i64 c, .int .i64 e, .int .i64 n]] w fun r w' => r = .returned (.bool (hasT l (c, e, n))) ∧ Below w.heap.size w w' := by
  have B0 := hid (below_new (o := .cells #[hv, .slice a m k] 25) (w := w) (below_new (o := .cells #[.int .i64 c, .int .i64 e, .int .i64 n] 27) (w := w.alloc (.cells #[hv, .slice a m k] 25)) (Below.refl _ _)))
  have K0 := hid (Bk.new (w.alloc (.cells #[hv, .slice a m k] 25)) 27 [.int .i64 c, .int .i64 e, .int .i64 n])
  rw [show (w.alloc (.cells #[hv, .slice a m k] 25)).heap.size = w.heap.size + 1 by simp] at K0
  have HN := hid (Rw.len h).1
  have bk := (Rw.len h).2
  have H0 := hid (h.below B0.out)
  rw [hasT_def]
  have hq := fun a b d => eql_tx a b d c e n
  have hg := guard_tx .eql
  have HF : Hid (∀ a b d la ha xa, (fun y : LK => decide (y.1 = (c, e, n))) ((a, b, d), (la, ha), xa) = decide ((a, b, d) = (c, e, n))) := fun _ _ _ _ _ _ => rfl
  generalize (fun y : LK => decide (y.1 = (c, e, n))) = f at *
  clear h
  generalize hU : (w.alloc (.cells #[hv, .slice a m k] 25)).alloc (.cells #[.int .i64 c, .int .i64 e, .int .i64 n] 27) = U at *
  have HU := hid hU
  clear hU
  go_enter Try.func55, Try.ntmps55
  go_wp2_with fail
  rw [HU.out]
  go_loopw [10] (fun i v => ∃ k : Nat, k ≤ m ∧ i = .int .i64 k ∧ Hid (Below U.heap.size U v) ∧ Hid ((l.take k).any f = false)) (fun i _ => m - (intOf i).toNat)
  case atStart => exact ⟨0, Nat.zero_le _, rfl, Below.refl _ _, rfl⟩
  case round =>
    obtain ⟨j, hj, rfl, HB, HT⟩ := hrel
    by_cases hlt : j < m
    · have hlt' : (j : Int) < (m : Int) := by omega
      have hml : j < l.length := by rw [← HN.out]; exact hlt
      obtain ⟨b, off, ha, -, -, hcell⟩ := (H0.out.below HB.out).at (by omega)
      obtain ⟨hc0, hc1, hc2, hc3, hc4, hc5⟩ := hcell j hlt
      clear hcell
      subst ha
      generalize hcur : lAt l j = cur at hc0 hc1 hc2 hc3 hc4 hc5
      have HCU : Hid (l[j]?.getD lk0 = cur) := hcur
      clear hcur
      obtain ⟨⟨cc, ce, cn⟩, ⟨clo, chi⟩, cex⟩ := cur
      have K1 := hid (K0.out.below HB.out)
      have k0 := K1.out.lt
      have x0 := K1.out.cell (j := 0) rfl
      have x1 := K1.out.cell (j := 1) rfl
      have x2 := K1.out.cell (j := 2) rfl
      have HB1 : Hid (Below U.heap.size U (wr.alloc (.cells #[.int .i64 cc, .int .i64 ce, .int .i64 cn, .string clo, .string chi, .bool cex] 31))) := HB.out.trans (below_new (Below.refl _ _) |>.mono HB.out.size)
      have hq1 := hq cc ce cn
      have HF1 := hid (HF.out cc ce cn clo chi cex)
      clear hq HF
      generalize decide ((cc, ce, cn) = (c, e, n)) = z at *
      cases z with
      | false =>
        have HT2 : Hid ((l.take (j + 1)).any f = false) := by
          show _ = false
          rw [anyl_take _ _ lk0 hml, HT.out, HCU.out, HF1.out]; rfl
        go_wp2
        go_roundw
        case rel => exact ⟨j + 1, by omega, by go_num, HB1.out, HT2.out⟩
        case measure => simp [intOf]; omega
      | true =>
        have HZ : Hid (l.any f = true) := anyl_yes _ _ lk0 hml (by rw [HCU.out]; exact HF1.out)
        go_wp2
        go_ret
        exact ⟨by rw [HZ.out]; rfl, B0.out.trans (HB1.out.mono B0.out.size)⟩
    · have HA : Hid (l.any f = false) := by
        have := HT.out
        rwa [List.take_of_length_le (by rw [← HN.out]; omega)] at this
      clear hq HF
      go_wp2
      go_ret
      exact ⟨by rw [HA.out]; rfl, B0.out.trans (HB.out.mono B0.out.size)⟩
end Go.Proofs.Ytbaggkfgnjenoaa

