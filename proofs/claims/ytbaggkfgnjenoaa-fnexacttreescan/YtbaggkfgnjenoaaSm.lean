/-
  l03SameNode of the specification: it tells whether two nodes hold the same.
-/
import Derived.Test.YtbaggkfgnjenoaaNodeM
import Derived.Laws.StructEq
namespace Go.Proofs.Ytbaggkfgnjenoaa
open Go.RowKit
theorem neq_pair (a b c d : ByteArray) (w : World) : (binOp .neq 69 (.agg #[.string a, .string b]) (.agg #[.string c, .string d])).run Try.prog w = .ok (.bool (!decide ((a, b) = (c, d)))) w := by
  have u9 := Try.underlying9
  have hS : Try.prog.underlying 69 = some (.struct (Try.prog.fieldsOf 69)) := by kernel_rfl
  have hp : Try.prog.stoodInHeld 69 = false := by kernel_rfl
  rw [run_neq_struct, show (10000 : Nat) = 9999 + 1 from rfl, run_equalIn_agg w 9999 69 _ _ hS hp]
  simp only [Program.fieldsOf, Try.underlying69]
  by_cases h1 : a = c
  · subst h1
    by_cases h2 : b = d
    · subst h2
      rw [decide_eq_true rfl]
      go_simp
    · have t2 := str_beq h2
      rw [decide_eq_false (by simp [h2])]
      clear h2
      go_simp
  · have t1 := str_beq h1
    rw [decide_eq_false (by simp [h1])]
    clear h1
    go_simp
set_option maxHeartbeats 8000000 in
theorem sameNode_any (S S' : Nat → Prop) (ap ax ai ap' ax' ai' : Option Addr) (np cp nx cx ni ci np' cp' nx' cx' ni' ci' : Nat) (x y : NB) (w : World)
    (hP : Pr w S (.slice ap np cp) x.ps) (hS : Sr w S (.slice ax nx cx) x.keys) (hI : Ir w S (.slice ai ni ci) x.kids) (hP' : Pr w S' (.slice ap' np' cp') y.ps) (hS' : Sr w S' (.slice ax' nx' cx') y.keys) (hI' : Ir w S' (.slice ai' ni' ci') y.kids) :
    Calls Try.prog 134 #[.agg #[.slice ap np cp, .slice ax nx cx, .slice ai ni ci], .agg #[.slice ap' np' cp', .slice ax' nx' cx', .slice ai' ni' ci']] w fun e w' => e = .returned (.bool (decide (x = y))) ∧ Below w.heap.size w w' := by
  have HP := hid hP
  have HS := hid hS
  have HI := hid hI
  have HP' := hid hP'
  have HS' := hid hS'
  have HI' := hid hI'
  have lp := hid (Rw.len hP).1
  have ls := hid (Rw.len hS).1
  have li := hid (Rw.len hI).1
  have lp' := hid (Rw.len hP').1
  have ls' := hid (Rw.len hS').1
  have li' := hid (Rw.len hI').1
  have b1 := (Rw.len hP).2
  have b2 := (Rw.len hS).2
  have b3 := (Rw.len hI).2
  have b1' := (Rw.len hP').2
  have b2' := (Rw.len hS').2
  have b3' := (Rw.len hI').2
  clear hP hS hI hP' hS' hI'
  have HB0 : Hid (Below w.heap.size w ((w.alloc (.cells #[.slice ap np cp, .slice ax nx cx, .slice ai ni ci] 135)).alloc (.cells #[.slice ap' np' cp', .slice ax' nx' cx', .slice ai' ni' ci'] 135))) := below_new (below_new (Below.refl _ _))
  have KA : Hid (Bk ((w.alloc (.cells #[.slice ap np cp, .slice ax nx cx, .slice ai ni ci] 135)).alloc (.cells #[.slice ap' np' cp', .slice ax' nx' cx', .slice ai' ni' ci'] 135)) w.heap.size 135 [.slice ap np cp, .slice ax nx cx, .slice ai ni ci]) := (Bk.new w 135 [.slice ap np cp, .slice ax nx cx, .slice ai ni ci]).alloc _
  have KB : Hid (Bk ((w.alloc (.cells #[.slice ap np cp, .slice ax nx cx, .slice ai ni ci] 135)).alloc (.cells #[.slice ap' np' cp', .slice ax' nx' cx', .slice ai' ni' ci'] 135)) (w.heap.size + 1) 135 [.slice ap' np' cp', .slice ax' nx' cx', .slice ai' ni' ci']) := by
    have := Bk.new (w.alloc (.cells #[.slice ap np cp, .slice ax nx cx, .slice ai ni ci] 135)) 135 [.slice ap' np' cp', .slice ax' nx' cx', .slice ai' ni' ci']
    show Bk _ _ _ _
    simpa using this
  by_cases h1 : np = np'
  · have e1 : ((np : Int) != (np' : Int)) = false := by simp [h1]
    by_cases h2 : nx = nx'
    · have e2 : ((nx : Int) != (nx' : Int)) = false := by simp [h2]
      by_cases h3 : ni = ni'
      · have e3 : ((ni : Int) != (ni' : Int)) = false := by simp [h3]
        subst h1 h2 h3
        have HXY : Hid (x.ps = y.ps → x.keys = y.keys → x.kids = y.kids → decide (x = y) = true) := by
          intro q1 q2 q3
          rw [decide_eq_true_eq]
          cases x; cases y; simp_all
        have HNE : Hid (∀ (P : Prop), (x = y → P) → ¬ P → decide (x = y) = false) := fun P q1 q2 => decide_eq_false (fun e => q2 (q1 e))
        go_enter Try.func134, Try.ntmps134
        go_wp2_with fail
        generalize (w.alloc (.cells #[.slice ap np cp, .slice ax nx cx, .slice ai ni ci] 135)).alloc (.cells #[.slice ap' np cp', .slice ax' nx cx', .slice ai' ni ci'] 135) = u at *
        have a0 := KA.out.cell (j := 0) rfl
        have a1 := KA.out.cell (j := 1) rfl
        have a2 := KA.out.cell (j := 2) rfl
        have d0 := KB.out.cell (j := 0) rfl
        have d1 := KB.out.cell (j := 1) rfl
        have d2 := KB.out.cell (j := 2) rfl
        have HPu := hid (HP.out.below HB0.out)
        have HPu' := hid (HP'.out.below HB0.out)
        have HSu := hid (HS.out.below HB0.out)
        have HSu' := hid (HS'.out.below HB0.out)
        have HIu := hid (HI.out.below HB0.out)
        have HIu' := hid (HI'.out.below HB0.out)
        clear KA KB HP HP' HS HS' HI HI'
        go_loopw [36] (fun i wr => ∃ k q : Nat, k ≤ np ∧ i = .int .i64 k ∧ wr = u.drewN q ∧ Hid (x.ps.take k = y.ps.take k)) (fun i _ => np - (intOf i).toNat)
        case atStart => exact ⟨0, 0, Nat.zero_le _, rfl, rfl, rfl⟩
        case round =>
          obtain ⟨k, q, hk, rfl, rfl, HT⟩ := hrel
          by_cases hlt : k < np
          · have hlt' : (k : Int) < (np : Int) := by omega
            obtain ⟨g, off, hap, _, _, hc⟩ := HPu.out.at (by omega)
            obtain ⟨g', off', hap', _, _, hc'⟩ := HPu'.out.at (by omega)
            subst hap hap'
            have m0 := (hc k hlt).1
            have m1 := (hc k hlt).2
            have m0' := (hc' k hlt).1
            have m1' := (hc' k hlt).2
            have HSS : Hid (pAtB x.ps k = pAtB y.ps k → x.ps.take (k + 1) = y.ps.take (k + 1)) := by
              intro e
              have hl : k < x.ps.length := by rw [← lp.out]; exact hlt
              have hl' : k < y.ps.length := by rw [← lp'.out]; exact hlt
              rw [List.take_succ_eq_append_getElem hl, List.take_succ_eq_append_getElem hl', HT.out]
              simp [pAtB, hl, hl'] at e
              rw [e]
            have HFF : Hid (pAtB x.ps k ≠ pAtB y.ps k → decide (x = y) = false) := fun e => HNE.out _ (fun q => by rw [q]) e
            clear hc hc'
            generalize pAtB x.ps k = cx1 at *
            generalize pAtB y.ps k = cx2 at *
            obtain ⟨k1, v1⟩ := cx1
            obtain ⟨k2, v2⟩ := cx2
            have hnq := neq_pair k1 v1 k2 v2
            by_cases he : (k1, v1) = (k2, v2)
            · have HS1 := hid (HSS.out he)
              rw [decide_eq_true he] at hnq
              clear he HSS HFF
              go_wp2_with fail
              go_quiet (fail)
              go_wp2
              go_roundw
              case rel => exact ⟨k + 1, q + nq, by omega, by go_num, rfl, HS1.out⟩
              case measure => simp [intOf]; omega
            · have HF1 := hid (HFF.out he)
              rw [decide_eq_false he] at hnq
              clear he HSS HFF
              go_wp2_with fail
              go_quiet (fail)
              go_wp2
              go_ret
              exact ⟨by rw [HF1.out]; rfl, Below.drewN' (Below.drewN' HB0.out _) _⟩
          · have HQ1 : Hid (x.ps = y.ps) := by
              show _ = _
              have e := HT.out
              rwa [List.take_of_length_le (by rw [← lp.out]; omega), List.take_of_length_le (by rw [← lp'.out]; omega)] at e
            clear HT
            go_wp2_with fail
            go_loopw [54] (fun i wr => ∃ k q : Nat, k ≤ nx ∧ i = .int .i64 k ∧ wr = u.drewN q ∧ Hid (x.keys.take k = y.keys.take k)) (fun i _ => nx - (intOf i).toNat)
            case atStart => exact ⟨0, q, Nat.zero_le _, rfl, rfl, rfl⟩
            case round =>
              clear hk hlt
              obtain ⟨k, q, hk, rfl, rfl, HT⟩ := hrel
              by_cases hlt : k < nx
              · have hlt' : (k : Int) < (nx : Int) := by omega
                obtain ⟨g, off, hap, _, _, hc⟩ := HSu.out.at (by omega)
                obtain ⟨g', off', hap', _, _, hc'⟩ := HSu'.out.at (by omega)
                subst hap hap'
                have m0 := hc k hlt
                have m0' := hc' k hlt
                have HSS : Hid (sAt x.keys k = sAt y.keys k → x.keys.take (k + 1) = y.keys.take (k + 1)) := by
                  intro e
                  have hl : k < x.keys.length := by rw [← ls.out]; exact hlt
                  have hl' : k < y.keys.length := by rw [← ls'.out]; exact hlt
                  rw [List.take_succ_eq_append_getElem hl, List.take_succ_eq_append_getElem hl', HT.out]
                  simp [sAt, hl, hl'] at e
                  rw [e]
                have HFF : Hid (sAt x.keys k ≠ sAt y.keys k → decide (x = y) = false) := fun e => HNE.out _ (fun q => by rw [q]) e
                clear hc hc'
                generalize sAt x.keys k = k1 at *
                generalize sAt y.keys k = k2 at *
                by_cases he : k1 = k2
                · have HS1 := hid (HSS.out he)
                  subst he
                  skip
                  clear HSS HFF
                  go_wp2_with fail
                  go_quiet (fail)
                  go_wp2
                  go_roundw
                  case rel => exact ⟨k + 1, q + nq, by omega, by go_num, rfl, HS1.out⟩
                  case measure => simp [intOf]; omega
                · have HF1 := hid (HFF.out he)
                  have t := str_beq he
                  clear he HSS HFF
                  go_wp2_with fail
                  go_quiet (fail)
                  go_wp2
                  go_ret
                  exact ⟨by rw [HF1.out]; rfl, Below.drewN' (Below.drewN' HB0.out _) _⟩
              · have HQ2 : Hid (x.keys = y.keys) := by
                  show _ = _
                  have e := HT.out
                  rwa [List.take_of_length_le (by rw [← ls.out]; omega), List.take_of_length_le (by rw [← ls'.out]; omega)] at e
                clear HT
                go_wp2_with fail
                go_loopw [72] (fun i wr => ∃ k q : Nat, k ≤ ni ∧ i = .int .i64 k ∧ wr = u.drewN q ∧ Hid (x.kids.take k = y.kids.take k)) (fun i _ => ni - (intOf i).toNat)
                case atStart => exact ⟨0, q, Nat.zero_le _, rfl, rfl, rfl⟩
                case round =>
                  clear hk hlt
                  obtain ⟨k, q, hk, rfl, rfl, HT⟩ := hrel
                  by_cases hlt : k < ni
                  · have hlt' : (k : Int) < (ni : Int) := by omega
                    obtain ⟨g, off, hap, _, _, hc⟩ := HIu.out.at (by omega)
                    obtain ⟨g', off', hap', _, _, hc'⟩ := HIu'.out.at (by omega)
                    subst hap hap'
                    have m0 := hc k hlt
                    have m0' := hc' k hlt
                    have HSS : Hid (iAt x.kids k = iAt y.kids k → x.kids.take (k + 1) = y.kids.take (k + 1)) := by
                      intro e
                      have hl : k < x.kids.length := by rw [← li.out]; exact hlt
                      have hl' : k < y.kids.length := by rw [← li'.out]; exact hlt
                      rw [List.take_succ_eq_append_getElem hl, List.take_succ_eq_append_getElem hl', HT.out]
                      simp [iAt, hl, hl'] at e
                      rw [e]
                    have HFF : Hid (iAt x.kids k ≠ iAt y.kids k → decide (x = y) = false) := fun e => HNE.out _ (fun q => by rw [q]) e
                    clear hc hc'
                    generalize iAt x.kids k = k1 at *
                    generalize iAt y.kids k = k2 at *
                    by_cases he : k1 = k2
                    · have HS1 := hid (HSS.out he)
                      subst he
                      have t : (k1 != k1) = false := by simp
                      clear HSS HFF
                      go_wp2_with fail
                      go_quiet (fail)
                      go_wp2
                      go_roundw
                      case rel => exact ⟨k + 1, q + nq, by omega, by go_num, rfl, HS1.out⟩
                      case measure => simp [intOf]; omega
                    · have HF1 := hid (HFF.out he)
                      have t : (k1 != k2) = true := by simp [he]
                      clear he HSS HFF
                      go_wp2_with fail
                      go_quiet (fail)
                      go_wp2
                      go_ret
                      exact ⟨by rw [HF1.out]; rfl, Below.drewN' (Below.drewN' HB0.out _) _⟩
                  · have HQ3 : Hid (x.kids = y.kids) := by
                      show _ = _
                      have e := HT.out
                      rwa [List.take_of_length_le (by rw [← li.out]; omega), List.take_of_length_le (by rw [← li'.out]; omega)] at e
                    clear HT
                    have HF := hid (HXY.out HQ1.out HQ2.out HQ3.out)
                    go_wp2
                    go_ret
                    exact ⟨by rw [HF.out]; rfl, Below.drewN' HB0.out _⟩
      · have HF : Hid (decide (x = y) = false) := by
          show _ = _
          rw [decide_eq_false_iff_not]
          rintro rfl
          exact h3 (by rw [li.out, li'.out])
        have e3 : ((ni : Int) != (ni' : Int)) = true := by simp; omega
        clear h3
        go_enter Try.func134, Try.ntmps134
        go_wp2
        go_ret
        exact ⟨by rw [HF.out]; rfl, below_new (below_new (Below.refl _ _))⟩
    · have HF : Hid (decide (x = y) = false) := by
        show _ = _
        rw [decide_eq_false_iff_not]
        rintro rfl
        exact h2 (by rw [ls.out, ls'.out])
      have e2 : ((nx : Int) != (nx' : Int)) = true := by simp; omega
      clear h2
      go_enter Try.func134, Try.ntmps134
      go_wp2
      go_ret
      exact ⟨by rw [HF.out]; rfl, below_new (below_new (Below.refl _ _))⟩
  · have HF : Hid (decide (x = y) = false) := by
      show _ = _
      rw [decide_eq_false_iff_not]
      rintro rfl
      exact h1 (by rw [lp.out, lp'.out])
    have e1 : ((np : Int) != (np' : Int)) = true := by simp; omega
    clear h1
    go_enter Try.func134, Try.ntmps134
    go_wp2
    go_ret
    exact ⟨by rw [HF.out]; rfl, below_new (below_new (Below.refl _ _))⟩
end Go.Proofs.Ytbaggkfgnjenoaa

