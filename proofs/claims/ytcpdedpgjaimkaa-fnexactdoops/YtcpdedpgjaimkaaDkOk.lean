/-
  DiskOk of the specification and of the program.
-/
import Derived.Test.YtcpdedpgjaimkaaDkQ
import Derived.Test.YtcpdedpgjaimkaaNodeL
namespace Go.Proofs.Ytcpdedpgjaimkaa
open Go.RowKit
set_option linter.unusedVariables false
theorem shtOk_iff (l : List Int) : shtOk l = true ↔ l.length = 0 ∨ l.length = 512 := by simp only [shtOk, Bool.or_eq_true, decide_eq_true_eq]
theorem wrtOk_iff (n : Nat) (p : DW) : wrtOk n p = true ↔ 0 ≤ p.1 ∧ p.1 < (n : Int) ∧ p.2.length = 512 := by simp only [wrtOk, Bool.and_eq_true, decide_eq_true_eq, and_assoc]
theorem dkOk_iff (d : DK) : dkOk d = true ↔ 2 ≤ d.sh.length ∧ d.sh.length ≤ 400 ∧ d.dw.length ≤ 500 ∧ (∀ i, i < d.sh.length → shtOk (shAt d.sh i) = true) ∧ ∀ i, i < d.dw.length → wrtOk d.sh.length (dwAt d.dw i) = true := by
  simp only [dkOk, Bool.and_eq_true, decide_eq_true_eq, and_assoc, allD_at (l := d.sh) (z := []), allD_at (l := d.dw) (z := ((0, []) : DW)), shAt, dwAt]
theorem dk_no {d : DK} (h : ¬ (2 ≤ d.sh.length ∧ d.sh.length ≤ 400 ∧ d.dw.length ≤ 500)) : dkOk d = false := by
  rw [Bool.eq_false_iff]
  intro e
  have := (dkOk_iff d).1 e
  exact h ⟨this.1, this.2.1, this.2.2.1⟩
theorem dk_no_sheet {d : DK} {i : Nat} (hi : i < d.sh.length) (h : ¬ shtOk (shAt d.sh i) = true) : dkOk d = false := by
  rw [Bool.eq_false_iff]
  intro e
  exact h (((dkOk_iff d).1 e).2.2.2.1 i hi)
theorem dk_no_write {d : DK} {i : Nat} (hi : i < d.dw.length) (h : ¬ wrtOk d.sh.length (dwAt d.dw i) = true) : dkOk d = false := by
  rw [Bool.eq_false_iff]
  intro e
  exact h (((dkOk_iff d).1 e).2.2.2.2 i hi)
set_option maxHeartbeats 4000000 in
theorem specDiskOk_any (S : Nat → Prop) (sa : Option Addr) (sn sc : Nat) (da : Option Addr) (dn dc : Nat) (d : DK) (w : World) (h : Dk w S sa sn sc da dn dc d) :
    Calls Try.prog 52 #[.agg #[.slice sa sn sc, .slice da dn dc]] w fun e w' => e = .returned (.bool (dkOk d)) ∧ Below w.heap.size w w' := by
  have HS := hid h.hs
  have HD := hid h.hd
  obtain ⟨ns, hsc, hsc'⟩ := h.hs.len
  obtain ⟨nd, hdc, hdc'⟩ := h.hd.len
  have HNS := hid ns
  have HND := hid nd
  have HB0 : Hid (Below w.heap.size w (w.alloc (.cells #[.slice sa sn sc, .slice da dn dc] 46))) := below_new (Below.refl _ _)
  have KP : Hid (Bk (w.alloc (.cells #[.slice sa sn sc, .slice da dn dc] 46)) w.heap.size 46 [.slice sa sn sc, .slice da dn dc]) := Bk.new w 46 [.slice sa sn sc, .slice da dn dc]
  clear h
  have c0 := KP.out.cell (j := 0) rfl
  have c1 := KP.out.cell (j := 1) rfl
  by_cases q1 : sn < 2
  · have q1' : (sn : Int) < 2 := by omega
    have HF := hid (dk_no (d := d) (by omega))
    clear ns nd
    go_enter Try.func52, Try.ntmps52
    go_wp2
    go_ret
    exact ⟨by rw [HF.out]; rfl, HB0.out⟩
  · have q1' : ¬ (sn : Int) < 2 := by omega
    by_cases q2 : 400 < sn
    · have q2' : (400 : Int) < (sn : Int) := by omega
      have HF := hid (dk_no (d := d) (by omega))
      clear ns nd
      go_enter Try.func52, Try.ntmps52
      go_wp2
      go_ret
      exact ⟨by rw [HF.out]; rfl, HB0.out⟩
    · have q2' : ¬ (400 : Int) < (sn : Int) := by omega
      by_cases q3 : 500 < dn
      · have q3' : (500 : Int) < (dn : Int) := by omega
        have HF := hid (dk_no (d := d) (by omega))
        clear ns nd
        go_enter Try.func52, Try.ntmps52
        go_wp2
        go_ret
        exact ⟨by rw [HF.out]; rfl, HB0.out⟩
      · have q3' : ¬ (500 : Int) < (dn : Int) := by omega
        have HQ : Hid (2 ≤ d.sh.length ∧ d.sh.length ≤ 400 ∧ d.dw.length ≤ 500) := ⟨by omega, by omega, by omega⟩
        clear ns nd
        go_enter Try.func52, Try.ntmps52
        go_wp2_with fail
        clear c0 c1
        go_loopw [26] (fun i wr => ∃ k : Nat, k ≤ sn ∧ i = .int .i64 k ∧ Hid (∀ i, i < k → shtOk (shAt d.sh i) = true) ∧ Hid (Bk wr w.heap.size 46 [.slice sa sn sc, .slice da dn dc]) ∧ Hid (Below w.heap.size w wr)) (fun i _ => sn - (intOf i).toNat)
        case atStart => exact ⟨0, Nat.zero_le _, rfl, fun i hi => absurd hi (Nat.not_lt_zero _), KP.out, HB0.out⟩
        case round =>
          obtain ⟨k, hk, rfl, HT, HK, HB⟩ := hrel
          clear KP HB0
          by_cases hlt : k < sn
          · have hlt' : (k : Int) < (sn : Int) := by omega
            obtain ⟨b, off, rfl, _, hbw, hcell⟩ := (HS.out.below HB.out).at (by omega)
            obtain ⟨ap, np, cp, m0, hp⟩ := hcell k hlt
            have l0 := hp.len.1
            have hkl : k < d.sh.length := by rw [← HNS.out]; exact hlt
            have HB1 : Hid (Below w.heap.size w (wr.alloc (.cells #[.slice ap np cp] 119))) := HB.out.alloc HB.out.size _
            have HK1 := hid (HK.out.alloc (.cells #[.slice ap np cp] 119))
            clear hcell hbw hp
            by_cases n0 : np = 0
            · have HT1 : Hid (∀ i, i < k + 1 → shtOk (shAt d.sh i) = true) := by
                intro i hi
                by_cases e : i = k
                · subst e; exact (shtOk_iff _).2 (by omega)
                · exact HT.out i (by omega)
              have n0' : ((np : Int) != 0) = false := by simp; omega
              subst n0
              clear l0 HT
              go_wp2
              go_roundw
              case rel => exact ⟨k + 1, by omega, by go_num, HT1.out, HK1.out, HB1.out⟩
              case measure => simp [intOf]; omega
            · have n0' : ((np : Int) != 0) = true := by simp; omega
              have n0'' : ¬ (np : Int) = 0 := by omega
              by_cases n5 : np = 512
              · have HT1 : Hid (∀ i, i < k + 1 → shtOk (shAt d.sh i) = true) := by
                  intro i hi
                  by_cases e : i = k
                  · subst e; exact (shtOk_iff _).2 (by omega)
                  · exact HT.out i (by omega)
                subst n5
                clear l0 HT
                go_wp2
                go_roundw
                case rel => exact ⟨k + 1, by omega, by go_num, HT1.out, HK1.out, HB1.out⟩
                case measure => simp [intOf]; omega
              · have n5' : ((np : Int) != 512) = true := by simp; omega
                have n5'' : ¬ (np : Int) = 512 := by omega
                have HF := hid (dk_no_sheet hkl (fun e => by have := (shtOk_iff _).1 e; omega))
                clear l0 hkl HT
                go_wp2
                go_ret
                exact ⟨by rw [HF.out]; rfl, HB1.out⟩
          · have hkn : k = sn := by omega
            have HT0 : Hid (∀ i, i < d.sh.length → shtOk (shAt d.sh i) = true) := by rw [← HNS.out, ← hkn]; exact HT.out
            clear HT hkn
            have c1 := HK.out.cell (j := 1) rfl
            go_wp2_with fail
            clear c1
            go_loopw [44] (fun i wr => ∃ k : Nat, k ≤ dn ∧ i = .int .i64 k ∧ Hid (∀ i, i < k → wrtOk d.sh.length (dwAt d.dw i) = true) ∧ Hid (Bk wr w.heap.size 46 [.slice sa sn sc, .slice da dn dc]) ∧ Hid (Below w.heap.size w wr)) (fun i _ => dn - (intOf i).toNat)
            case atStart => exact ⟨0, Nat.zero_le _, rfl, fun i hi => absurd hi (Nat.not_lt_zero _), HK.out, HB.out⟩
            case round =>
              clear HK HB
              obtain ⟨j, hj, rfl, HT, HK, HB⟩ := hrel
              by_cases hlt : j < dn
              · have hlt' : (j : Int) < (dn : Int) := by omega
                obtain ⟨b, off, rfl, _, hbw, hcell⟩ := (HD.out.below HB.out).at (by omega)
                obtain ⟨ap, np, cp, mt, m0, hp⟩ := hcell j hlt
                have l0 := hp.len.1
                have hkl : j < d.dw.length := by rw [← HND.out]; exact hlt
                generalize htt : (dwAt d.dw j).1 = tt at *
                have HB1 : Hid (Below w.heap.size w (wr.alloc (.cells #[.int .i64 tt, .slice ap np cp] 109))) := HB.out.alloc HB.out.size _
                have HK1 := hid (HK.out.alloc (.cells #[.int .i64 tt, .slice ap np cp] 109))
                have c0 := HK1.out.cell (j := 0) rfl
                have HX : Hid (wrtOk d.sh.length (dwAt d.dw j) = true ↔ 0 ≤ tt ∧ tt < (sn : Int) ∧ np = 512) := by
                  show _ ↔ _
                  rw [wrtOk_iff, htt, ← l0, HNS.out]
                clear hcell hbw hp htt l0
                by_cases t0 : tt < 0
                · have HF := hid (dk_no_write hkl (fun e => by have := HX.out.1 e; omega))
                  clear hkl HT HX
                  go_wp2
                  go_ret
                  exact ⟨by rw [HF.out]; rfl, HB1.out⟩
                · by_cases t1 : (sn : Int) ≤ tt
                  · have HF := hid (dk_no_write hkl (fun e => by have := HX.out.1 e; omega))
                    clear hkl HT HX
                    go_wp2
                    go_ret
                    exact ⟨by rw [HF.out]; rfl, HB1.out⟩
                  · by_cases n5 : np = 512
                    · have HT1 : Hid (∀ i, i < j + 1 → wrtOk d.sh.length (dwAt d.dw i) = true) := by
                        intro i hi
                        by_cases e : i = j
                        · subst e; exact HX.out.2 ⟨by omega, by omega, n5⟩
                        · exact HT.out i (by omega)
                      subst n5
                      clear HT HX hkl
                      go_wp2
                      go_roundw
                      case rel => exact ⟨j + 1, by omega, by go_num, HT1.out, HK1.out, HB1.out⟩
                      case measure => simp [intOf]; omega
                    · have n5' : ((np : Int) != 512) = true := by simp; omega
                      have n5'' : ¬ (np : Int) = 512 := by omega
                      have HF := hid (dk_no_write hkl (fun e => by have := HX.out.1 e; omega))
                      clear hkl HT HX
                      go_wp2
                      go_ret
                      exact ⟨by rw [HF.out]; rfl, HB1.out⟩
              · have hjn : j = dn := by omega
                have HF : Hid (dkOk d = true) := (dkOk_iff d).2 ⟨HQ.out.1, HQ.out.2.1, HQ.out.2.2, HT0.out, by rw [← HND.out, ← hjn]; exact HT.out⟩
                clear HT HT0 hjn
                go_wp2
                go_ret
                exact ⟨by rw [HF.out]; rfl, HB.out⟩
def szOk (n : Int) : Bool := decide (2 ≤ n) && decide (n ≤ 400)
set_option maxHeartbeats 1000000 in
theorem sizeOk_any (n : Int) (w : World) : Calls Try.prog 118 #[.int .i64 n] w fun e w' => e = .returned (.bool (szOk n)) ∧ w' = w := by
  by_cases q1 : n < 2
  · have HF : Hid (szOk n = false) := by show _ = _; rw [szOk, decide_eq_false (show ¬ 2 ≤ n by omega)]; rfl
    have q1' : ¬ 2 ≤ n := by omega
    go_enter Try.func118, Try.ntmps118
    go_wp2
    go_ret
    exact ⟨by rw [HF.out]; rfl, rfl⟩
  · have q1' : 2 ≤ n := by omega
    by_cases q2 : n ≤ 400
    · have HF : Hid (szOk n = true) := by show _ = _; rw [szOk, decide_eq_true q1', decide_eq_true q2]; rfl
      go_enter Try.func118, Try.ntmps118
      go_wp2
      go_ret
      exact ⟨by rw [HF.out]; rfl, rfl⟩
    · have HF : Hid (szOk n = false) := by show _ = _; rw [szOk, decide_eq_false q2]; simp
      go_enter Try.func118, Try.ntmps118
      go_wp2
      go_ret
      exact ⟨by rw [HF.out]; rfl, rfl⟩
set_option maxHeartbeats 1000000 in
theorem shtOk_any (a : Option Addr) (n c : Nat) (zs : List Int) (w : World) (h : n = zs.length) (hn : n ≤ 9223372036854775807) :
    Calls Try.prog 119 #[.slice a n c] w fun e w' => e = .returned (.bool (shtOk zs)) ∧ w' = w := by
  by_cases h0 : n = 0
  · have HV : Hid (shtOk zs = true) := (shtOk_iff zs).2 (by omega)
    subst h0
    clear h
    go_enter Try.func119, Try.ntmps119
    go_wp2
    go_ret
    exact ⟨by rw [HV.out]; rfl, rfl⟩
  · have h0' : ((n : Int) == 0) = false := by simp; omega
    have h0'' : ¬ (n : Int) = 0 := by omega
    by_cases h5 : n = 512
    · have HV : Hid (shtOk zs = true) := (shtOk_iff zs).2 (by omega)
      subst h5
      clear h
      go_enter Try.func119, Try.ntmps119
      go_wp2
      go_ret
      exact ⟨by rw [HV.out]; rfl, rfl⟩
    · have h5' : ((n : Int) == 512) = false := by simp; omega
      have h5'' : ¬ (n : Int) = 512 := by omega
      have HV : Hid (shtOk zs = false) := by
        show _ = false
        rw [Bool.eq_false_iff]
        intro e
        have := (shtOk_iff zs).1 e
        omega
      clear h
      go_enter Try.func119, Try.ntmps119
      go_wp2
      go_ret
      exact ⟨by rw [HV.out]; rfl, rfl⟩
set_option maxHeartbeats 1000000 in
theorem writeOk_any (t : Int) (a : Option Addr) (n c : Nat) (zs : List Int) (m : Nat) (w : World) (h : n = zs.length) (hn : n ≤ 9223372036854775807) :
    Calls Try.prog 120 #[.agg #[.int .i64 t, .slice a n c], .int .i64 (m : Int)] w fun e w' => e = .returned (.bool (wrtOk m (t, zs))) ∧ Below w.heap.size w w' := by
  have HB0 : Hid (Below w.heap.size w (w.alloc (.cells #[.int .i64 t, .slice a n c] 109))) := below_new (Below.refl _ _)
  have HN := hid h
  clear h
  by_cases q1 : t < 0
  · have q1' : ¬ 0 ≤ t := by omega
    have HV : Hid (wrtOk m (t, zs) = false) := by
      show _ = false
      rw [Bool.eq_false_iff]
      intro e
      exact q1' ((wrtOk_iff _ _).1 e).1
    go_enter Try.func120, Try.ntmps120
    go_wp2
    go_ret
    exact ⟨by rw [HV.out]; rfl, HB0.out⟩
  · have q1' : 0 ≤ t := by omega
    by_cases q2 : t < (m : Int)
    · by_cases h5 : n = 512
      · have HV : Hid (wrtOk m (t, zs) = true) := (wrtOk_iff _ _).2 ⟨q1', q2, by rw [← HN.out]; exact h5⟩
        subst h5
        go_enter Try.func120, Try.ntmps120
        go_wp2
        go_ret
        exact ⟨by rw [HV.out]; rfl, HB0.out⟩
      · have h5' : ((n : Int) == 512) = false := by simp; omega
        have h5'' : ¬ (n : Int) = 512 := by omega
        have HV : Hid (wrtOk m (t, zs) = false) := by
          show _ = false
          rw [Bool.eq_false_iff]
          intro e
          exact h5 (HN.out.trans ((wrtOk_iff _ _).1 e).2.2)
        go_enter Try.func120, Try.ntmps120
        go_wp2
        go_ret
        exact ⟨by rw [HV.out]; rfl, HB0.out⟩
    · have HV : Hid (wrtOk m (t, zs) = false) := by
        show _ = false
        rw [Bool.eq_false_iff]
        intro e
        exact q2 ((wrtOk_iff _ _).1 e).2.1
      go_enter Try.func120, Try.ntmps120
      go_wp2
      go_ret
      exact ⟨by rw [HV.out]; rfl, HB0.out⟩
set_option maxHeartbeats 4000000 in
theorem implDiskOk_any (S : Nat → Prop) (sa : Option Addr) (sn sc : Nat) (da : Option Addr) (dn dc : Nat) (d : DK) (w : World) (h : Dk w S sa sn sc da dn dc d) :
    Calls Try.prog 59 #[.agg #[.slice sa sn sc, .slice da dn dc]] w fun e w' => e = .returned (.bool (dkOk d)) ∧ Below w.heap.size w w' := by
  have HS := hid h.hs
  have HD := hid h.hd
  obtain ⟨ns, hsc, hsc'⟩ := h.hs.len
  obtain ⟨nd, hdc, hdc'⟩ := h.hd.len
  have HNS := hid ns
  have HND := hid nd
  have HB0 : Hid (Below w.heap.size w (w.alloc (.cells #[.slice sa sn sc, .slice da dn dc] 46))) := below_new (Below.refl _ _)
  have KP : Hid (Bk (w.alloc (.cells #[.slice sa sn sc, .slice da dn dc] 46)) w.heap.size 46 [.slice sa sn sc, .slice da dn dc]) := Bk.new w 46 [.slice sa sn sc, .slice da dn dc]
  clear h
  have c0 := KP.out.cell (j := 0) rfl
  have c1 := KP.out.cell (j := 1) rfl
  have HZ : Hid (szOk (sn : Int) = true ↔ 2 ≤ sn ∧ sn ≤ 400) := by
    show _ ↔ _
    simp only [szOk, Bool.and_eq_true, decide_eq_true_eq]
    omega
  clear ns nd
  go_enter Try.func59, Try.ntmps59
  go_wp2_with fail
  refine (sizeOk_any (sn : Int) _).mono ?_
  rintro e w0 ⟨rfl, rfl⟩
  cases hz : szOk (sn : Int) with
  | false =>
    have HF := hid (dk_no (d := d) (fun e => by have ns := HNS.out; have := HZ.out.2 (by omega); rw [hz] at this; cases this))
    clear hz HZ
    go_wp2
    go_ret
    exact ⟨by rw [HF.out]; rfl, HB0.out⟩
  | true =>
    have hz2 := HZ.out.1 hz
    by_cases q3 : 500 < dn
    · have q3' : (500 : Int) < (dn : Int) := by omega
      have HF := hid (dk_no (d := d) (by have nd := HND.out; omega))
      clear hz HZ hz2
      go_wp2
      go_ret
      exact ⟨by rw [HF.out]; rfl, HB0.out⟩
    · have q3' : ¬ (500 : Int) < (dn : Int) := by omega
      have HQ : Hid (2 ≤ d.sh.length ∧ d.sh.length ≤ 400 ∧ d.dw.length ≤ 500) := by have ns := HNS.out; have nd := HND.out; exact ⟨by omega, by omega, by omega⟩
      clear hz HZ hz2
      go_wp2_with fail
      clear c0 c1
      go_loopw [23] (fun i wr => ∃ k : Nat, k ≤ sn ∧ i = .int .i64 k ∧ Hid (∀ i, i < k → shtOk (shAt d.sh i) = true) ∧ Hid (Bk wr w.heap.size 46 [.slice sa sn sc, .slice da dn dc]) ∧ Hid (Below w.heap.size w wr)) (fun i _ => sn - (intOf i).toNat)
      case atStart => exact ⟨0, Nat.zero_le _, rfl, fun i hi => absurd hi (Nat.not_lt_zero _), KP.out, HB0.out⟩
      case round =>
        obtain ⟨k, hk, rfl, HT, HK, HB⟩ := hrel
        clear KP HB0
        by_cases hlt : k < sn
        · have hlt' : (k : Int) < (sn : Int) := by omega
          obtain ⟨b, off, rfl, _, hbw, hcell⟩ := (HS.out.below HB.out).at (by omega)
          obtain ⟨ap, np, cp, m0, hp⟩ := hcell k hlt
          have hkl : k < d.sh.length := by rw [← HNS.out]; exact hlt
          have HB1 : Hid (Below w.heap.size w (wr.alloc (.cells #[.slice ap np cp] 119))) := HB.out.alloc HB.out.size _
          have HK1 := hid (HK.out.alloc (.cells #[.slice ap np cp] 119))
          have HC := hid (shtOk_any ap np cp (shAt d.sh k) (wr.alloc (.cells #[.slice ap np cp] 119)) hp.len.1 (by have := hp.len.2; omega))
          have HT1 : Hid (shtOk (shAt d.sh k) = true → ∀ i, i < k + 1 → shtOk (shAt d.sh i) = true) := by
            intro hh i hi
            by_cases e : i = k
            · subst e; exact hh
            · exact HT.out i (by omega)
          have HF : Hid (shtOk (shAt d.sh k) = false → dkOk d = false) := fun e => dk_no_sheet hkl (by rw [e]; exact Bool.false_ne_true)
          clear hcell hbw hp hkl HT
          generalize shtOk (shAt d.sh k) = Z at *
          go_wp2_with fail
          refine HC.out.mono ?_
          rintro e w1 ⟨rfl, rfl⟩
          cases Z with
          | true =>
            have HT2 := hid (HT1.out rfl)
            clear HT1 HF
            go_wp2
            go_roundw
            case rel => exact ⟨k + 1, by omega, by go_num, HT2.out, HK1.out, HB1.out⟩
            case measure => simp [intOf]; omega
          | false =>
            have HF2 := hid (HF.out rfl)
            clear HT1 HF
            go_wp2
            go_ret
            exact ⟨by rw [HF2.out]; rfl, HB1.out⟩
        · have hkn : k = sn := by omega
          have HT0 : Hid (∀ i, i < d.sh.length → shtOk (shAt d.sh i) = true) := by rw [← HNS.out, ← hkn]; exact HT.out
          clear HT hkn
          have c1 := HK.out.cell (j := 1) rfl
          go_wp2_with fail
          clear c1
          go_loopw [35] (fun i wr => ∃ k : Nat, k ≤ dn ∧ i = .int .i64 k ∧ Hid (∀ i, i < k → wrtOk d.sh.length (dwAt d.dw i) = true) ∧ Hid (Below w.heap.size w wr)) (fun i _ => dn - (intOf i).toNat)
          case atStart => exact ⟨0, Nat.zero_le _, rfl, fun i hi => absurd hi (Nat.not_lt_zero _), HB.out⟩
          case round =>
            clear HK HB
            obtain ⟨j, hj, rfl, HT, HB⟩ := hrel
            by_cases hlt : j < dn
            · have hlt' : (j : Int) < (dn : Int) := by omega
              obtain ⟨b, off, rfl, _, hbw, hcell⟩ := (HD.out.below HB.out).at (by omega)
              obtain ⟨ap, np, cp, mt, m0, hp⟩ := hcell j hlt
              have hkl : j < d.dw.length := by rw [← HND.out]; exact hlt
              generalize htt : (dwAt d.dw j).1 = tt at *
              have HB1 : Hid (Below w.heap.size w (wr.alloc (.cells #[.int .i64 tt, .slice ap np cp] 109))) := HB.out.alloc HB.out.size _
              have HC := hid (writeOk_any tt ap np cp (dwAt d.dw j).2 sn (wr.alloc (.cells #[.int .i64 tt, .slice ap np cp] 109)) hp.len.1 (by have := hp.len.2; omega))
              have hpe : (tt, (dwAt d.dw j).2) = dwAt d.dw j := by rw [← htt]
              rw [hpe, HNS.out] at HC
              have HT1 : Hid (wrtOk d.sh.length (dwAt d.dw j) = true → ∀ i, i < j + 1 → wrtOk d.sh.length (dwAt d.dw i) = true) := by
                intro hh i hi
                by_cases e : i = j
                · subst e; exact hh
                · exact HT.out i (by omega)
              have HF : Hid (wrtOk d.sh.length (dwAt d.dw j) = false → dkOk d = false) := fun e => dk_no_write hkl (by rw [e]; exact Bool.false_ne_true)
              rw [← HNS.out] at HC
              clear hcell hbw hp htt hpe HT hkl
              rw [HNS.out] at HC
              generalize wrtOk d.sh.length (dwAt d.dw j) = Z at *
              rw [← HNS.out] at HC
              go_wp2_with fail
              refine HC.out.mono ?_
              rintro e w1 ⟨rfl, hb1⟩
              have HB2 := hid (HB1.out.trans (hb1.mono HB1.out.size))
              clear hb1
              cases Z with
              | true =>
                have HT2 := hid (HT1.out rfl)
                clear HT1 HF
                go_wp2
                go_roundw
                case rel => exact ⟨j + 1, by omega, by go_num, HT2.out, HB2.out⟩
                case measure => simp [intOf]; omega
              | false =>
                have HF2 := hid (HF.out rfl)
                clear HT1 HF
                go_wp2
                go_ret
                exact ⟨by rw [HF2.out]; rfl, HB2.out⟩
            · have hjn : j = dn := by omega
              have HF : Hid (dkOk d = true) := (dkOk_iff d).2 ⟨HQ.out.1, HQ.out.2.1, HQ.out.2.2, HT0.out, by rw [← HND.out, ← hjn]; exact HT.out⟩
              clear HT HT0 hjn
              go_wp2
              go_ret
              exact ⟨by rw [HF.out]; rfl, HB.out⟩
end Go.Proofs.Ytcpdedpgjaimkaa

