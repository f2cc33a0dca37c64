/-
  Messages: when one is right, in plain; MsgOk of the program.
-/
import Derived.Test.YtbonkheoeohaiaaAkA
import Derived.Test.YtbonkheoeohaiaaLkA
import Derived.Test.YtbonkheoeohaiaaPairL
namespace Go.Proofs.Ytbonkheoeohaiaa
open Go.RowKit
set_option linter.unusedVariables false
def nuOk (nu : Int) : Bool := decide (1 ≤ nu) && decide (nu ≤ 16)
def stN (st : Int) : Bool := decide (0 < st) && decide (st ≤ 1099511627775)
def stC (cd st : Int) : Bool := if cd = 0 then stN st else decide (st = 0)
def noT (st cd : Int) (pn : Nat) : Bool := decide (st = 0) && (decide (cd = 0) && decide (pn = 0))
def upOk (p : PB) : Bool := uOk p.1 && uvOk p.2
def prsOk (ps : List PB) : Bool := decide (ps.length ≤ 8) && ps.all upOk
def tel (st cd : Int) (ps : List PB) : Bool := (decide (0 ≤ cd) && decide (cd ≤ 9)) && (stC cd st && prsOk ps)
def prtOk (kd nu st : Int) (ak az : Bool) (cd : Int) (ps : List PB) (ys : Bool) : Bool :=
  if kd = 1 then nuOk nu && (ak && (noT st cd ps.length && !ys))
  else if kd = 2 then nuOk nu && (tel st cd ps && (az && !ys))
  else if kd = 3 then (decide (cd = 0) && decide (ps.length = 0)) && (nuOk nu && (tel st cd ps && (az && !ys)))
  else if kd = 4 ∨ kd = 5 then decide (nu = 0) && (az && noT st cd ps.length)
  else if kd = 6 ∨ kd = 7 then !ys && (decide (nu = 0) && (az && noT st cd ps.length))
  else false
def mgOk (kd c e n sh nu st : Int) (ak az : Bool) (cd : Int) (ps : List PB) (ys : Bool) : Bool := txOk (c, e, n) && (decide (0 ≤ sh) && (decide (sh < 4) && prtOk kd nu st ak az cd ps ys))
theorem prtOk_1 (nu st : Int) (ak az : Bool) (cd : Int) (ps : List PB) (ys : Bool) : prtOk 1 nu st ak az cd ps ys = (nuOk nu && (ak && (noT st cd ps.length && !ys))) := rfl
theorem prtOk_2 (nu st : Int) (ak az : Bool) (cd : Int) (ps : List PB) (ys : Bool) : prtOk 2 nu st ak az cd ps ys = (nuOk nu && (tel st cd ps && (az && !ys))) := rfl
theorem prtOk_3 (nu st : Int) (ak az : Bool) (cd : Int) (ps : List PB) (ys : Bool) : prtOk 3 nu st ak az cd ps ys = ((decide (cd = 0) && decide (ps.length = 0)) && (nuOk nu && (tel st cd ps && (az && !ys)))) := rfl
theorem prtOk_4 (nu st : Int) (ak az : Bool) (cd : Int) (ps : List PB) (ys : Bool) : prtOk 4 nu st ak az cd ps ys = (decide (nu = 0) && (az && noT st cd ps.length)) := rfl
theorem prtOk_5 (nu st : Int) (ak az : Bool) (cd : Int) (ps : List PB) (ys : Bool) : prtOk 5 nu st ak az cd ps ys = (decide (nu = 0) && (az && noT st cd ps.length)) := rfl
theorem prtOk_6 (nu st : Int) (ak az : Bool) (cd : Int) (ps : List PB) (ys : Bool) : prtOk 6 nu st ak az cd ps ys = (!ys && (decide (nu = 0) && (az && noT st cd ps.length))) := rfl
theorem prtOk_7 (nu st : Int) (ak az : Bool) (cd : Int) (ps : List PB) (ys : Bool) : prtOk 7 nu st ak az cd ps ys = (!ys && (decide (nu = 0) && (az && noT st cd ps.length))) := rfl
theorem prtOk_no {kd : Int} (h : ¬ (1 ≤ kd ∧ kd ≤ 7)) (nu st : Int) (ak az : Bool) (cd : Int) (ps : List PB) (ys : Bool) : prtOk kd nu st ak az cd ps ys = false := by
  unfold prtOk
  rw [if_neg (by omega), if_neg (by omega), if_neg (by omega), if_neg (by omega), if_neg (by omega)]
theorem askNumOk_any (nu : Int) (w : World) : Calls Try.prog 46 #[.int .i64 nu] w fun e w' => e = .returned (.bool (nuOk nu)) ∧ w = w' := by
  by_cases h : 1 ≤ nu
  · have HE : Hid (nuOk nu = decide (nu ≤ 16)) := by show nuOk nu = _; simp [nuOk, h]
    go_enter Try.func46, Try.ntmps46
    go_wp2
    go_ret
    exact ⟨by rw [HE.out]; rfl, rfl⟩
  · have HE : Hid (nuOk nu = false) := by show nuOk nu = false; simp [nuOk, h]
    go_enter Try.func46, Try.ntmps46
    go_wp2
    go_ret
    exact ⟨by rw [HE.out]; rfl, rfl⟩
theorem isNumberM_any (m : Int) (w : World) : Calls Try.prog 56 #[.int .i64 m] w fun e w' => e = .returned (.bool (decide (0 ≤ m) && decide (m ≤ 1099511627775))) ∧ w = w' := by
  by_cases h : 0 ≤ m
  · have HE : Hid ((decide (0 ≤ m) && decide (m ≤ 1099511627775)) = decide (m ≤ 1099511627775)) := by show _ = _; simp [h]
    go_enter Try.func56, Try.ntmps56
    go_wp2
    go_ret
    exact ⟨by rw [HE.out]; rfl, rfl⟩
  · have HE : Hid ((decide (0 ≤ m) && decide (m ≤ 1099511627775)) = false) := by show _ = false; simp [h]
    go_enter Try.func56, Try.ntmps56
    go_wp2
    go_ret
    exact ⟨by rw [HE.out]; rfl, rfl⟩
theorem all_take_succ {α : Type} (l : List α) (f : α → Bool) (d : α) {m : Nat} (h : m < l.length) : (l.take (m + 1)).all f = ((l.take m).all f && f (l[m]?.getD d)) := by
  rw [List.take_succ_eq_append_getElem h, List.all_append]
  simp [h]
theorem all_no {α : Type} (l : List α) (f : α → Bool) (d : α) {m : Nat} (h : m < l.length) (hf : f (l[m]?.getD d) = false) : l.all f = false := by
  rw [List.all_eq_false]
  refine ⟨l[m], List.getElem_mem h, ?_⟩
  simp [h] at hf
  simp [hf]
theorem pAtB_get (l : List PB) (m : Nat) : pAtB l m = l[m]?.getD (⟨#[]⟩, ⟨#[]⟩) := rfl
set_option maxHeartbeats 1600000 in
theorem userPairsOk_any (S : Nat → Prop) (a : Option Addr) (n c : Nat) (l : List PB) (w : World) (h : Pr w S (.slice a n c) l) :
    Calls Try.prog 53 #[.slice a n c] w fun e w' => e = .returned (.bool (prsOk l)) ∧ Below w.heap.size w w' := by
  have HN := hid (Rw.len h).1
  have hcc := (Rw.len h).2
  have H0 := hid h
  clear h
  by_cases hbig : 8 < n
  · have hbig' : (8 : Int) < (n : Int) := by omega
    have HV : Hid (prsOk l = false) := by show _ = false; simp [prsOk, ← HN.out]; omega
    go_enter Try.func53, Try.ntmps53
    go_wp2
    go_ret
    exact ⟨by rw [HV.out]; rfl, Below.refl _ _⟩
  · have hbig' : ¬ (8 : Int) < (n : Int) := by omega
    have HV : Hid (prsOk l = l.all upOk) := by
      show _ = _
      have : l.length ≤ 8 := by rw [← HN.out]; omega
      simp [prsOk, this]
    go_enter Try.func53, Try.ntmps53
    go_wp2_with fail
    go_loopw [10] (fun i v => ∃ k : Nat, k ≤ n ∧ i = .int .i64 k ∧ Hid (Below w.heap.size w v) ∧ Hid ((l.take k).all upOk = true)) (fun i _ => n - (intOf i).toNat)
    case atStart => exact ⟨0, Nat.zero_le _, rfl, Below.refl _ _, rfl⟩
    case round =>
      obtain ⟨m, hm, rfl, HB, HT⟩ := hrel
      by_cases hlt : m < n
      · have hlt' : (m : Int) < (n : Int) := by omega
        have hml : m < l.length := by rw [← HN.out]; exact hlt
        obtain ⟨b, off, ha, -, -, hcell⟩ := Pr.at (H0.out.below HB.out) (by omega)
        obtain ⟨hc0, hc1⟩ := hcell m hlt
        clear hcell
        subst ha
        have HCU : Hid (l[m]?.getD (⟨#[]⟩, ⟨#[]⟩) = pAtB l m) := rfl
        generalize pAtB l m = cur at hc0 hc1 HCU
        obtain ⟨xk, xv⟩ := cur
        have HB1 : Hid (Below w.heap.size w (wr.alloc (.cells #[.string xk, .string xv] 59))) := HB.out.alloc HB.out.size _
        have HX : Hid (upOk (xk, xv) = (uOk xk && uvOk xv)) := rfl
        go_wp2_with fail
        refine (implUserOk_any xk _).mono ?_
        rintro r w' ⟨rfl, rfl⟩
        cases h1 : uOk xk
        · have HZ : Hid (l.all upOk = false) := all_no l upOk (⟨#[]⟩, ⟨#[]⟩) hml (by rw [HCU.out, HX.out, h1]; rfl)
          go_wp2
          go_ret
          exact ⟨by rw [HV.out, HZ.out]; rfl, HB1.out⟩
        · go_wp2_with fail
          refine (implUvalOk_any xv _).mono ?_
          rintro r w' ⟨rfl, rfl⟩
          cases h2 : uvOk xv
          · have HZ : Hid (l.all upOk = false) := all_no l upOk (⟨#[]⟩, ⟨#[]⟩) hml (by rw [HCU.out, HX.out, h1, h2]; rfl)
            go_wp2
            go_ret
            exact ⟨by rw [HV.out, HZ.out]; rfl, HB1.out⟩
          · have HZ : Hid ((l.take (m + 1)).all upOk = true) := by
              show _ = true
              rw [all_take_succ l upOk (⟨#[]⟩, ⟨#[]⟩) hml, HT.out, HCU.out, HX.out, h1, h2]; rfl
            go_wp2
            go_roundw
            case rel => exact ⟨m + 1, by omega, by go_num, HB1.out, HZ.out⟩
            case measure => simp [intOf]; omega
      · have HA : Hid (l.all upOk = true) := by
          have := HT.out
          rwa [List.take_of_length_le (by rw [← HN.out]; omega)] at this
        go_wp2
        go_ret
        exact ⟨by rw [HV.out, HA.out]; rfl, HB.out⟩
end Go.Proofs.Ytbonkheoeohaiaa

