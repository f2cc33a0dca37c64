/-
  Messages: when one is right, in plain; MsgOk of the program.
-/
import Derived.Test.YtbonkheoeohaiaaDoorMb3
import Derived.Test.YtbonkheoeohaiaaDoorMb1
import Derived.Deep.RegionHeld3
import Derived.Test.YtbonkheoeohaiaaDoorMb2
import Derived.Deep.Strs
import Derived.Deep.Slices
import Derived.ChangeSlices
import Derived.WideShapes
import Derived.ChangeSame
import Derived.ProofKit
import Derived.OpenShut
namespace Go.Proofs.YtbonkheoeohaiaaDoor
open Go.RowKit
set_option linter.unusedVariables false
def nuOk (nu : Int) : Bool := decide (1 ≤ nu) && decide (nu ≤ 16)
def stN (st : Int) : Bool := decide (0 < st) && decide (st ≤ 1099511627775)
def stC (cd st : Int) : Bool := if cd = 0 then stN st else decide (st = 0)
def noT (st cd : Int) (pn : Nat) : Bool := decide (st = 0) && (decide (cd = 0) && decide (pn = 0))
def upOk (p : PB) : Bool := uOk p.1 && uvOk p.2
def prsOk (ps : List PB) : Bool := decide (ps.length ≤ 8) && ps.all upOk
def tel (st cd : Int) (ps : List PB) : Bool := (decide (0 ≤ cd) && decide (cd ≤ 9)) && (stC cd st && prsOk ps)
def prtOk (kd nu st : Int) (ak az : Bool) (cd : Int) (ps : List PB) (ys : Bool) : Bool :=
  if kd = 1 then nuOk nu && (ak && (noT st cd ps.length && !ys))
  else if kd = 2 then nuOk nu && (tel st cd ps && (az && !ys))
  else if kd = 3 then (decide (cd = 0) && decide (ps.length = 0)) && (nuOk nu && (tel st cd ps && (az && !ys)))
  else if kd = 4 ∨ kd = 5 then decide (nu = 0) && (az && noT st cd ps.length)
  else if kd = 6 ∨ kd = 7 then !ys && (decide (nu = 0) && (az && noT st cd ps.length))
  else false
def mgOk (kd c e n sh nu st : Int) (ak az : Bool) (cd : Int) (ps : List PB) (ys : Bool) : Bool := txOk (c, e, n) && (decide (0 ≤ sh) && (decide (sh < 4) && prtOk kd nu st ak az cd ps ys))
theorem prtOk_1 (nu st : Int) (ak az : Bool) (cd : Int) (ps : List PB) (ys : Bool) : prtOk 1 nu st ak az cd ps ys = (nuOk nu && (ak && (noT st cd ps.length && !ys))) := rfl
theorem prtOk_2 (nu st : Int) (ak az : Bool) (cd : Int) (ps : List PB) (ys : Bool) : prtOk 2 nu st ak az cd ps ys = (nuOk nu && (tel st cd ps && (az && !ys))) := rfl
theorem prtOk_3 (nu st : Int) (ak az : Bool) (cd : Int) (ps : List PB) (ys : Bool) : prtOk 3 nu st ak az cd ps ys = ((decide (cd = 0) && decide (ps.length = 0)) && (nuOk nu && (tel st cd ps && (az && !ys)))) := rfl
theorem prtOk_4 (nu st : Int) (ak az : Bool) (cd : Int) (ps : List PB) (ys : Bool) : prtOk 4 nu st ak az cd ps ys = (decide (nu = 0) && (az && noT st cd ps.length)) := rfl
theorem prtOk_5 (nu st : Int) (ak az : Bool) (cd : Int) (ps : List PB) (ys : Bool) : prtOk 5 nu st ak az cd ps ys = (decide (nu = 0) && (az && noT st cd ps.length)) := rfl
theorem prtOk_6 (nu st : Int) (ak az : Bool) (cd : Int) (ps : List PB) (ys : Bool) : prtOk 6 nu st ak az cd ps ys = (!ys && (decide (nu = 0) && (az && noT st cd ps.length))) := rfl
theorem prtOk_7 (nu st : Int) (ak az : Bool) (cd : Int) (ps : List PB) (ys : Bool) : prtOk 7 nu st ak az cd ps ys = (!ys && (decide (nu = 0) && (az && noT st cd ps.length))) := rfl
theorem prtOk_no {kd : Int} (h : ¬ (1 ≤ kd ∧ kd ≤ 7)) (nu st : Int) (ak az : Bool) (cd : Int) (ps : List PB) (ys : Bool) : prtOk kd nu st ak az cd ps ys = false := by
  unfold prtOk
  rw [if_neg (by omega), if_neg (by omega), if_neg (by omega), if_neg (by omega), if_neg (by omega)]
theorem askNumOk_any (nu : Int) (w : World) : Calls Tryd.prog 87 #[.int .i64 nu] w fun e w' => e = .returned (.bool (nuOk nu)) ∧ w = w' := by
  by_cases h : 1 ≤ nu
  · have HE : Hid (nuOk nu = decide (nu ≤ 16)) := by show nuOk nu = _; simp [nuOk, h]
    go_enter Tryd.func87, Tryd.ntmps87
    go_wp2
    go_ret
    exact ⟨by rw [HE.out]; rfl, rfl⟩
  · have HE : Hid (nuOk nu = false) := by show nuOk nu = false; simp [nuOk, h]
    go_enter Tryd.func87, Tryd.ntmps87
    go_wp2
    go_ret
    exact ⟨by rw [HE.out]; rfl, rfl⟩
theorem isNumberM_any (m : Int) (w : World) : Calls Tryd.prog 65 #[.int .i64 m] w fun e w' => e = .returned (.bool (decide (0 ≤ m) && decide (m ≤ 1099511627775))) ∧ w = w' := by
  by_cases h : 0 ≤ m
  · have HE : Hid ((decide (0 ≤ m) && decide (m ≤ 1099511627775)) = decide (m ≤ 1099511627775)) := by show _ = _; simp [h]
    go_enter Tryd.func65, Tryd.ntmps65
    go_wp2
    go_ret
    exact ⟨by rw [HE.out]; rfl, rfl⟩
  · have HE : Hid ((decide (0 ≤ m) && decide (m ≤ 1099511627775)) = false) := by show _ = false; simp [h]
    go_enter Tryd.func65, Tryd.ntmps65
    go_wp2
    go_ret
    exact ⟨by rw [HE.out]; rfl, rfl⟩
theorem all_take_succ {α : Type} (l : List α) (f : α → Bool) (d : α) {m : Nat} (h : m < l.length) : (l.take (m + 1)).all f = ((l.take m).all f && f (l[m]?.getD d)) := by
  rw [List.take_succ_eq_append_getElem h, List.all_append]
  simp [h]
theorem all_no {α : Type} (l : List α) (f : α → Bool) (d : α) {m : Nat} (h : m < l.length) (hf : f (l[m]?.getD d) = false) : l.all f = false := by
  rw [List.all_eq_false]
  refine ⟨l[m], List.getElem_mem h, ?_⟩
  simp [h] at hf
  simp [hf]
theorem pAtB_get (l : List PB) (m : Nat) : pAtB l m = l[m]?.getD (⟨#[]⟩, ⟨#[]⟩) := rfl
set_option maxHeartbeats 1600000 in
theorem userPairsOk_any (S : Nat → Prop) (a : Option Addr) (n c : Nat) (l : List PB) (w : World) (h : Pr w S (.slice a n c) l) :
    Calls Tryd.prog 102 #[.slice a n c] w fun e w' => e = .returned (.bool (prsOk l)) ∧ Below w.heap.size w w' := by
  have HN := hid (Rw.len h).1
  have hcc := (Rw.len h).2
  have H0 := hid h
  clear h
  by_cases hbig : 8 < n
  · have hbig' : (8 : Int) < (n : Int) := by omega
    have HV : Hid (prsOk l = false) := by show _ = false; simp [prsOk, ← HN.out]; omega
    go_enter Tryd.func102, Tryd.ntmps102
    go_wp2
    go_ret
    exact ⟨by rw [HV.out]; rfl, Below.refl _ _⟩
  · have hbig' : ¬ (8 : Int) < (n : Int) := by omega
    have HV : Hid (prsOk l = l.all upOk) := by
      show _ = _
      have : l.length ≤ 8 := by rw [← HN.out]; omega
      simp [prsOk, this]
    go_enter Tryd.func102, Tryd.ntmps102
    go_wp2_with fail
    go_loopw [10] (fun i v => ∃ k : Nat, k ≤ n ∧ i = .int .i64 k ∧ Hid (Below w.heap.size w v) ∧ Hid ((l.take k).all upOk = true)) (fun i _ => n - (intOf i).toNat)
    case atStart => exact ⟨0, Nat.zero_le _, rfl, Below.refl _ _, rfl⟩
    case round =>
      obtain ⟨m, hm, rfl, HB, HT⟩ := hrel
      by_cases hlt : m < n
      · have hlt' : (m : Int) < (n : Int) := by omega
        have hml : m < l.length := by rw [← HN.out]; exact hlt
        obtain ⟨b, off, ha, -, -, hcell⟩ := Pr.at (H0.out.below HB.out) (by omega)
        obtain ⟨hc0, hc1⟩ := hcell m hlt
        clear hcell
        subst ha
        have HCU : Hid (l[m]?.getD (⟨#[]⟩, ⟨#[]⟩) = pAtB l m) := rfl
        generalize pAtB l m = cur at hc0 hc1 HCU
        obtain ⟨xk, xv⟩ := cur
        have HB1 : Hid (Below w.heap.size w (wr.alloc (.cells #[.string xk, .string xv] 69))) := HB.out.alloc HB.out.size _
        have HX : Hid (upOk (xk, xv) = (uOk xk && uvOk xv)) := rfl
        go_wp2_with fail
        refine (implUserOk_any xk _).mono ?_
        rintro r w' ⟨rfl, rfl⟩
        cases h1 : uOk xk
        · have HZ : Hid (l.all upOk = false) := all_no l upOk (⟨#[]⟩, ⟨#[]⟩) hml (by rw [HCU.out, HX.out, h1]; rfl)
          go_wp2
          go_ret
          exact ⟨by rw [HV.out, HZ.out]; rfl, HB1.out⟩
        · go_wp2_with fail
          refine (implUvalOk_any xv _).mono ?_
          rintro r w' ⟨rfl, rfl⟩
          cases h2 : uvOk xv
          · have HZ : Hid (l.all upOk = false) := all_no l upOk (⟨#[]⟩, ⟨#[]⟩) hml (by rw [HCU.out, HX.out, h1, h2]; rfl)
            go_wp2
            go_ret
            exact ⟨by rw [HV.out, HZ.out]; rfl, HB1.out⟩
          · have HZ : Hid ((l.take (m + 1)).all upOk = true) := by
              show _ = true
              rw [all_take_succ l upOk (⟨#[]⟩, ⟨#[]⟩) hml, HT.out, HCU.out, HX.out, h1, h2]; rfl
            go_wp2
            go_roundw
            case rel => exact ⟨m + 1, by omega, by go_num, HB1.out, HZ.out⟩
            case measure => simp [intOf]; omega
      · have HA : Hid (l.all upOk = true) := by
          have := HT.out
          rwa [List.take_of_length_le (by rw [← HN.out]; omega)] at this
        go_wp2
        go_ret
        exact ⟨by rw [HV.out, HA.out]; rfl, HB.out⟩
end Go.Proofs.YtbonkheoeohaiaaDoor
/-
  Asks: the law's helpers, AskLock on both sides, the laws FnExactAskOk and FnExactAskLock.
-/
namespace Go.Proofs.YtbonkheoeohaiaaDoor
open Go.RowKit
set_option linter.unusedVariables false
theorem load_ask {w : World} {g : Nat} {k : Int} {ky vl lo hi : ByteArray} {mo : Int} {bk : Bool} (c0 : w.cell? ⟨g, 0, none⟩ = some (.int .i64 k)) (c1 : w.cell? ⟨g, 1, none⟩ = some (.string ky)) (c2 : w.cell? ⟨g, 2, none⟩ = some (.string vl)) (c3 : w.cell? ⟨g, 3, none⟩ = some (.string lo)) (c4 : w.cell? ⟨g, 4, none⟩ = some (.string hi)) (c5 : w.cell? ⟨g, 5, none⟩ = some (.int .i64 mo)) (c6 : w.cell? ⟨g, 6, none⟩ = some (.bool bk)) :
    (loadVar 28 ⟨g, 0, none⟩).run Tryd.prog w = .ok (.agg #[.int .i64 k, .string ky, .string vl, .string lo, .string hi, .int .i64 mo, .bool bk]) w := by go_simp
theorem results_ask {fn : Func} {p : Tmp} (h : fn.results = #[.cell p 28]) (tmps : Array Value) (w : World) (g : Nat) {k : Int} {ky vl lo hi : ByteArray} {mo : Int} {bk : Bool} (hp : tmps.getD p undef = .pointer (some ⟨g, 0, none⟩)) (c0 : w.cell? ⟨g, 0, none⟩ = some (.int .i64 k)) (c1 : w.cell? ⟨g, 1, none⟩ = some (.string ky)) (c2 : w.cell? ⟨g, 2, none⟩ = some (.string vl)) (c3 : w.cell? ⟨g, 3, none⟩ = some (.string lo)) (c4 : w.cell? ⟨g, 4, none⟩ = some (.string hi)) (c5 : w.cell? ⟨g, 5, none⟩ = some (.int .i64 mo)) (c6 : w.cell? ⟨g, 6, none⟩ = some (.bool bk)) :
    (results fn tmps).run Tryd.prog w = .ok (.agg #[.int .i64 k, .string ky, .string vl, .string lo, .string hi, .int .i64 mo, .bool bk]) w := by
  have hp' : tmps[p]?.getD undef = .pointer (some ⟨g, 0, none⟩) := by simpa using hp
  simp [results, h, hp', asAddr, load_ask c0 c1 c2 c3 c4 c5 c6]
set_option maxHeartbeats 3200000 in
theorem toAsk_any (k : Int) (ky vl lo hi : ByteArray) (mo : Int) (bk : Bool) (w : World) : Calls Tryd.prog 45 #[.agg #[.int .i64 k, .string ky, .string vl, .string lo, .string hi, .int .i64 mo, .bool bk]] w fun r w' => r = .returned (.agg #[.int .i64 k, .string ky, .string vl, .string lo, .string hi, .int .i64 mo, .bool bk]) ∧ Below w.heap.size w w' := by
  have C1 : Hid (∀ w, Calls Tryd.prog 75 #[.agg #[.string lo, .string hi]] w fun r w' => r = .returned (.agg #[.string lo, .string hi]) ∧ Below w.heap.size w w') := fun w => toRange_any lo hi w
  have B0 : Hid (Below w.heap.size w (((w.alloc (.cells #[.int .i64 k, .string ky, .string vl, .string lo, .string hi, .int .i64 mo, .bool bk] 42)).alloc (.cells #[.int .i64 0, .string ⟨#[]⟩, .string ⟨#[]⟩, .string ⟨#[]⟩, .string ⟨#[]⟩, .int .i64 0, .bool false] 28)).alloc (.cells #[.int .i64 k, .string ky, .string vl, .string ⟨#[]⟩, .string ⟨#[]⟩, .int .i64 0, .bool false] 28))) := below_new (below_new (below_new (Below.refl _ _)))
  have K0 := hid (((Bk.new w 42 [.int .i64 k, .string ky, .string vl, .string lo, .string hi, .int .i64 mo, .bool bk]).alloc (.cells #[.int .i64 0, .string ⟨#[]⟩, .string ⟨#[]⟩, .string ⟨#[]⟩, .string ⟨#[]⟩, .int .i64 0, .bool false] 28)).alloc (.cells #[.int .i64 k, .string ky, .string vl, .string ⟨#[]⟩, .string ⟨#[]⟩, .int .i64 0, .bool false] 28))
  have J0 := hid ((Bk.new (w.alloc (.cells #[.int .i64 k, .string ky, .string vl, .string lo, .string hi, .int .i64 mo, .bool bk] 42)) 28 [.int .i64 0, .string ⟨#[]⟩, .string ⟨#[]⟩, .string ⟨#[]⟩, .string ⟨#[]⟩, .int .i64 0, .bool false]).alloc (.cells #[.int .i64 k, .string ky, .string vl, .string ⟨#[]⟩, .string ⟨#[]⟩, .int .i64 0, .bool false] 28))
  have I0 := hid (Bk.new ((w.alloc (.cells #[.int .i64 k, .string ky, .string vl, .string lo, .string hi, .int .i64 mo, .bool bk] 42)).alloc (.cells #[.int .i64 0, .string ⟨#[]⟩, .string ⟨#[]⟩, .string ⟨#[]⟩, .string ⟨#[]⟩, .int .i64 0, .bool false] 28)) 28 [.int .i64 k, .string ky, .string vl, .string ⟨#[]⟩, .string ⟨#[]⟩, .int .i64 0, .bool false])
  rw [show (w.alloc (.cells #[.int .i64 k, .string ky, .string vl, .string lo, .string hi, .int .i64 mo, .bool bk] 42)).heap.size = w.heap.size + 1 by simp] at J0
  rw [show ((w.alloc (.cells #[.int .i64 k, .string ky, .string vl, .string lo, .string hi, .int .i64 mo, .bool bk] 42)).alloc (.cells #[.int .i64 0, .string ⟨#[]⟩, .string ⟨#[]⟩, .string ⟨#[]⟩, .string ⟨#[]⟩, .int .i64 0, .bool false] 28)).heap.size = w.heap.size + 1 + 1 by simp] at I0
  go_enter Tryd.func45, Tryd.ntmps45
  go_wp2_with fail
  refine (C1.out _).mono ?_
  generalize ((w.alloc (.cells #[.int .i64 k, .string ky, .string vl, .string lo, .string hi, .int .i64 mo, .bool bk] 42)).alloc (.cells #[.int .i64 0, .string ⟨#[]⟩, .string ⟨#[]⟩, .string ⟨#[]⟩, .string ⟨#[]⟩, .int .i64 0, .bool false] 28)).alloc (.cells #[.int .i64 k, .string ky, .string vl, .string ⟨#[]⟩, .string ⟨#[]⟩, .int .i64 0, .bool false] 28) = U at *
  rintro r w1 ⟨rfl, hb⟩
  have K1 := hid (K0.out.below hb)
  have J1 := hid (J0.out.below hb)
  have I1 := hid (I0.out.below hb)
  have B1 := hid (btR B0.out hb)
  clear J0 I0 K0 B0 hb
  have x5 := K1.out.cell (j := 5) rfl
  have x6 := K1.out.cell (j := 6) rfl
  have y0 := I1.out.cell (j := 0) rfl
  have y1 := I1.out.cell (j := 1) rfl
  have y2 := I1.out.cell (j := 2) rfl
  have y3 := I1.out.cell (j := 3) rfl
  have y4 := I1.out.cell (j := 4) rfl
  have y5 := I1.out.cell (j := 5) rfl
  have y6 := I1.out.cell (j := 6) rfl
  have f3 := I1.out.free 3
  have f4 := I1.out.free 4
  have f5 := I1.out.free 5
  have f6 := I1.out.free 6
  have z0 := J1.out.cell (j := 0) rfl
  have z1 := J1.out.cell (j := 1) rfl
  have z2 := J1.out.cell (j := 2) rfl
  have z3 := J1.out.cell (j := 3) rfl
  have z4 := J1.out.cell (j := 4) rfl
  have z5 := J1.out.cell (j := 5) rfl
  have z6 := J1.out.cell (j := 6) rfl
  have g0 := J1.out.free 0
  have g1 := J1.out.free 1
  have g2 := J1.out.free 2
  have g3 := J1.out.free 3
  have g4 := J1.out.free 4
  have g5 := J1.out.free 5
  have g6 := J1.out.free 6
  have J2 : Hid (Bk ((((w1.setCell ⟨w.heap.size + 1 + 1, 3, none⟩ (.string lo)).setCell ⟨w.heap.size + 1 + 1, 4, none⟩ (.string hi)).setCell ⟨w.heap.size + 1 + 1, 5, none⟩ (.int .i64 mo)).setCell ⟨w.heap.size + 1 + 1, 6, none⟩ (.bool bk)) (w.heap.size + 1) 28 [.int .i64 0, .string ⟨#[]⟩, .string ⟨#[]⟩, .string ⟨#[]⟩, .string ⟨#[]⟩, .int .i64 0, .bool false]) := ((((J1.out.setOther (by omega) _ _).setOther (by omega) _ _).setOther (by omega) _ _).setOther (by omega) _ _)
  have J3 := hid (((((((J2.out.set 0 (.int .i64 k)).set 1 (.string ky)).set 2 (.string vl)).set 3 (.string lo)).set 4 (.string hi)).set 5 (.int .i64 mo)).set 6 (.bool bk))
  have B3 := hid (Below.setCell (p := ⟨w.heap.size + 1, 6, none⟩) (Below.setCell (p := ⟨w.heap.size + 1, 5, none⟩) (Below.setCell (p := ⟨w.heap.size + 1, 4, none⟩) (Below.setCell (p := ⟨w.heap.size + 1, 3, none⟩) (Below.setCell (p := ⟨w.heap.size + 1, 2, none⟩) (Below.setCell (p := ⟨w.heap.size + 1, 1, none⟩) (Below.setCell (p := ⟨w.heap.size + 1, 0, none⟩) (Below.setCell (p := ⟨w.heap.size + 1 + 1, 6, none⟩) (Below.setCell (p := ⟨w.heap.size + 1 + 1, 5, none⟩) (Below.setCell (p := ⟨w.heap.size + 1 + 1, 4, none⟩) (Below.setCell (p := ⟨w.heap.size + 1 + 1, 3, none⟩) B1.out (by simp; omega) (.string lo)) (by simp; omega) (.string hi)) (by simp; omega) (.int .i64 mo)) (by simp; omega) (.bool bk)) (by simp) (.int .i64 k)) (by simp) (.string ky)) (by simp) (.string vl)) (by simp) (.string lo)) (by simp) (.string hi)) (by simp) (.int .i64 mo)) (by simp) (.bool bk))
  have d1 : ¬ w.heap.size + 1 = w.heap.size + 1 + 1 := by omega
  have d2 : ¬ w.heap.size + 1 + 1 = w.heap.size + 1 := by omega
  have d3 : ¬ w.heap.size = w.heap.size + 1 + 1 := by omega
  have d4 : ¬ w.heap.size = w.heap.size + 1 := by omega
  clear J1 I1 B1 J2 K1
  go_wp2
  try simp only [Exit.inBlock, Exit.then]
  refine bodyPost_ret (v := .agg #[.int .i64 k, .string ky, .string vl, .string lo, .string hi, .int .i64 mo, .bool bk]) ?_ rfl ?_
  · exact results_ask rfl _ _ _ rfl (J3.out.cell (j := 0) rfl) (J3.out.cell (j := 1) rfl) (J3.out.cell (j := 2) rfl) (J3.out.cell (j := 3) rfl) (J3.out.cell (j := 4) rfl) (J3.out.cell (j := 5) rfl) (J3.out.cell (j := 6) rfl)
  · exact ⟨rfl, B3.out⟩
set_option maxHeartbeats 1600000 in
theorem szAsk_any (k : Int) (ky vl lo hi : ByteArray) (mo : Int) (bk : Bool) (left : Int) (w : World) (h0 : 0 ≤ left) (h1 : left ≤ 1048576) (hs : ky.size ≤ 9223372036854775807 ∧ vl.size ≤ 9223372036854775807 ∧ lo.size ≤ 9223372036854775807 ∧ hi.size ≤ 9223372036854775807) :
    Calls Tryd.prog 42 #[.agg #[.int .i64 k, .string ky, .string vl, .string lo, .string hi, .int .i64 mo, .bool bk], .int .i64 left] w fun e w' => (∃ x : Int, e = .returned (.int .i64 x) ∧ x ≤ left ∧ -1 ≤ x) ∧ Below w.heap.size w w' := by
  obtain ⟨s1, s2, s3, s4⟩ := hs
  have B0 := hid (below_new (o := .cells #[.int .i64 k, .string ky, .string vl, .string lo, .string hi, .int .i64 mo, .bool bk] 42) (w := w) (Below.refl _ _))
  by_cases q1 : left - ky.size < 0
  · go_enter Tryd.func42, Tryd.ntmps42
    go_wp2
    go_ret
    exact ⟨⟨-1, rfl, by omega, by omega⟩, B0.out⟩
  · by_cases q2 : left - ky.size - vl.size < 0
    · go_enter Tryd.func42, Tryd.ntmps42
      go_wp2
      go_ret
      exact ⟨⟨-1, rfl, by omega, by omega⟩, B0.out⟩
    · have C1 : Hid (∀ w, Calls Tryd.prog 73 #[.agg #[.string lo, .string hi], .int .i64 (left - ky.size - vl.size)] w fun e w' => (∃ x : Int, e = .returned (.int .i64 x) ∧ x ≤ left - ky.size - vl.size ∧ -1 ≤ x) ∧ Below w.heap.size w w') := fun w => szRange_any lo hi _ w (by omega) (by omega) s3 s4
      go_enter Tryd.func42, Tryd.ntmps42
      go_wp2_with fail
      refine (C1.out _).mono ?_
      rintro e w1 ⟨⟨x, rfl, hx1, hx2⟩, hb⟩
      have B1 := hid (btR B0.out hb)
      clear hb B0
      by_cases hx : x < 0
      · go_wp2
        go_ret
        exact ⟨⟨-1, rfl, by omega, by omega⟩, B1.out⟩
      · go_wp2
        go_ret
        exact ⟨⟨x, rfl, by omega, by omega⟩, B1.out⟩
set_option maxHeartbeats 3200000 in
theorem eqAsk_same (k : Int) (ky vl lo hi : ByteArray) (mo : Int) (bk : Bool) (w : World) : Calls Tryd.prog 48 #[.agg #[.int .i64 k, .string ky, .string vl, .string lo, .string hi, .int .i64 mo, .bool bk], .agg #[.int .i64 k, .string ky, .string vl, .string lo, .string hi, .int .i64 mo, .bool bk]] w fun e w' => e = .returned (.bool true) ∧ Below w.heap.size w w' := by
  have hz0 : (k != k) = false := by simp
  have hz1 : (mo != mo) = false := by simp
  have hz2 : (bk != bk) = false := by simp
  have C1 : Hid (∀ w, Calls Tryd.prog 77 #[.agg #[.string lo, .string hi], .agg #[.string lo, .string hi]] w fun r w' => r = .returned (.bool true) ∧ Below w.heap.size w w') := fun w => eqRange_same lo hi w
  have B0 : Hid (Below w.heap.size w ((w.alloc (.cells #[.int .i64 k, .string ky, .string vl, .string lo, .string hi, .int .i64 mo, .bool bk] 28)).alloc (.cells #[.int .i64 k, .string ky, .string vl, .string lo, .string hi, .int .i64 mo, .bool bk] 28))) := below_new (below_new (Below.refl _ _))
  have K0 := hid ((Bk.new w 28 [.int .i64 k, .string ky, .string vl, .string lo, .string hi, .int .i64 mo, .bool bk]).alloc (.cells #[.int .i64 k, .string ky, .string vl, .string lo, .string hi, .int .i64 mo, .bool bk] 28))
  have J0 := hid (Bk.new (w.alloc (.cells #[.int .i64 k, .string ky, .string vl, .string lo, .string hi, .int .i64 mo, .bool bk] 28)) 28 [.int .i64 k, .string ky, .string vl, .string lo, .string hi, .int .i64 mo, .bool bk])
  rw [show (w.alloc (.cells #[.int .i64 k, .string ky, .string vl, .string lo, .string hi, .int .i64 mo, .bool bk] 28)).heap.size = w.heap.size + 1 by simp] at J0
  go_enter Tryd.func48, Tryd.ntmps48
  go_wp2_with fail
  refine (C1.out _).mono ?_
  generalize (w.alloc (.cells #[.int .i64 k, .string ky, .string vl, .string lo, .string hi, .int .i64 mo, .bool bk] 28)).alloc (.cells #[.int .i64 k, .string ky, .string vl, .string lo, .string hi, .int .i64 mo, .bool bk] 28) = U at *
  rintro r w1 ⟨rfl, hb⟩
  have B1 := hid (btR B0.out hb)
  have K1 := hid (K0.out.below hb)
  have J1 := hid (J0.out.below hb)
  clear hb B0 K0 J0
  have x5 := K1.out.cell (j := 5) rfl
  have x6 := K1.out.cell (j := 6) rfl
  have y5 := J1.out.cell (j := 5) rfl
  have y6 := J1.out.cell (j := 6) rfl
  go_wp2
  go_ret
  exact ⟨rfl, B1.out⟩
def alLo (k : Int) (ky vl lo hi : ByteArray) (mo : Int) (bk : Bool) : ByteArray := if akOk k ky vl lo hi mo bk then (if k = 4 then lo else ptLo ky) else ⟨#[]⟩
def alHi (k : Int) (ky vl lo hi : ByteArray) (mo : Int) (bk : Bool) : ByteArray := if akOk k ky vl lo hi mo bk then (if k = 4 then hi else ptHi ky) else ⟨#[]⟩
def alEx (k : Int) (ky vl lo hi : ByteArray) (mo : Int) (bk : Bool) : Bool := akOk k ky vl lo hi mo bk && (decide (k ≠ 4) && decide (k ≠ 1))
end Go.Proofs.YtbonkheoeohaiaaDoor
/-
  Messages as bytes, in plain.
-/
namespace Go.Proofs.YtbonkheoeohaiaaDoor
open Go.RowKit
set_option linter.unusedVariables false
def bit (b : Bool) : Int := if b then 1 else 0
def nparts : List Int → List Int
  | [] => []
  | n :: l => enc n ++ nparts l
def pparts : List PB → List Int
  | [] => []
  | p :: l => (tpart p.1 ++ tpart p.2) ++ pparts l
theorem nparts_append (l r : List Int) : nparts (l ++ r) = nparts l ++ nparts r := by
  induction l with
  | nil => rfl
  | cons s l ih => simp only [List.cons_append, nparts, ih, List.append_assoc]
theorem pparts_append (l r : List PB) : pparts (l ++ r) = pparts l ++ pparts r := by
  induction l with
  | nil => rfl
  | cons s l ih => simp only [List.cons_append, pparts, ih, List.append_assoc]
theorem nparts_len (l : List Int) : (nparts l).length ≤ l.length * 7 := by
  induction l with
  | nil => simp [nparts]
  | cons s l ih =>
    have h1 := enc_len s
    simp only [nparts, List.length_append, List.length_cons]
    omega
theorem pparts_len (l : List PB) (h : ∀ p ∈ l, p.1.size ≤ 20 ∧ p.2.size ≤ 20) : (pparts l).length ≤ l.length * 54 := by
  induction l with
  | nil => simp [pparts]
  | cons s l ih =>
    have h1 := tpart_len s.1
    have h2 := tpart_len s.2
    have h3 := h s (by simp)
    have h4 := ih (fun x hx => h x (by simp [hx]))
    simp only [pparts, List.length_append, List.length_cons]
    omega
theorem nparts_byte (l : List Int) (h : ∀ m ∈ l, 0 ≤ m ∧ m ≤ 1099511627775) : ∀ z ∈ nparts l, 0 ≤ z ∧ z ≤ 255 := by
  induction l with
  | nil => intro z hz; cases hz
  | cons s l ih => exact byte_append (enc_byte s (h s (by simp)).1 (h s (by simp)).2) (ih (fun x hx => h x (by simp [hx])))
theorem pparts_byte (l : List PB) (h : ∀ p ∈ l, p.1.size ≤ 20 ∧ p.2.size ≤ 20) : ∀ z ∈ pparts l, 0 ≤ z ∧ z ≤ 255 := by
  induction l with
  | nil => intro z hz; cases hz
  | cons s l ih =>
    have h3 := h s (by simp)
    exact byte_append (byte_append (tpart_byte _ (by omega)) (tpart_byte _ (by omega))) (ih (fun x hx => h x (by simp [hx])))
theorem nparts_take {l : List Int} {j : Nat} (h : j < l.length) : nparts (l.take (j + 1)) = nparts (l.take j) ++ enc (l[j]?.getD 0) := by
  rw [List.take_succ_eq_append_getElem h, nparts_append]
  simp [h, nparts]
theorem tparts_take {l : List ByteArray} {j : Nat} (h : j < l.length) : tparts (l.take (j + 1)) = tparts (l.take j) ++ tpart (l[j]?.getD ⟨#[]⟩) := by
  rw [List.take_succ_eq_append_getElem h, tparts_append]
  simp [h, tparts]
theorem pparts_take {l : List PB} {j : Nat} (h : j < l.length) : pparts (l.take (j + 1)) = pparts (l.take j) ++ (tpart (pAtB l j).1 ++ tpart (pAtB l j).2) := by
  rw [List.take_succ_eq_append_getElem h, pparts_append]
  simp [h, pparts, pAtB]
def mgBy (kd c e n sh nu st k : Int) (ky vl lo hi : ByteArray) (mo : Int) (bk : Bool) (cd : Int) (ps : List PB) (ys : Bool) : List Int :=
  nparts [kd, c, e, n, sh, nu, st, k] ++ (tparts [ky, vl, lo, hi] ++ (nparts [mo, bit bk, cd, (ps.length : Int)] ++ (pparts ps ++ enc (bit ys))))
def mgBytes (kd c e n sh nu st k : Int) (ky vl lo hi : ByteArray) (mo : Int) (bk : Bool) (cd : Int) (ps : List PB) (ys : Bool) : Option (List Int) :=
  if mgOk kd c e n sh nu st (akOk k ky vl lo hi mo bk) (akZ k ky vl lo hi mo bk) cd ps ys = true then some (mgBy kd c e n sh nu st k ky vl lo hi mo bk cd ps ys) else none
/-- What a right message has within bounds. -/
structure MgF (kd c e n sh nu st k : Int) (ky vl lo hi : ByteArray) (mo : Int) (cd : Int) (ps : List PB) : Prop where
  n1 : ∀ m ∈ [kd, c, e, n, sh, nu, st, k], 0 ≤ m ∧ m ≤ 1099511627775
  s1 : ∀ s ∈ [ky, vl, lo, hi], s.size ≤ 20
  hmo : 0 ≤ mo ∧ mo ≤ 8
  hcd : 0 ≤ cd ∧ cd ≤ 9
  hpl : ps.length ≤ 8
  hps : ∀ p ∈ ps, p.1.size ≤ 20 ∧ p.2.size ≤ 20
theorem isE_size {s : ByteArray} (h : isE s = true) : s.size = 0 := by
  unfold isE at h
  have h1 : s.toList = [] := of_decide_eq_true h
  rw [ByteArray.toList_eq] at h1
  have : s.data.toList.length = 0 := by
    cases hs : s.data.toList with
    | nil => rfl
    | cons a l => rw [hs] at h1; simp at h1
  rw [show s.size = s.data.toList.length from (Array.length_toList (xs := s.data)).symm]; exact this
theorem akK_facts {ky vl lo hi : ByteArray} {mo : Int} {bk : Bool} (h : akK ky vl lo hi mo bk = true) : ky.size ≤ 8 ∧ vl.size ≤ 20 ∧ lo.size ≤ 9 ∧ hi.size ≤ 9 ∧ 0 ≤ mo ∧ mo ≤ 8 := by
  simp only [akK, Bool.and_eq_true, uOk, uvOk, decide_eq_true_eq] at h
  obtain ⟨⟨h1, h2⟩, h3, ⟨h4, h5⟩, h6, _⟩ := h
  have := isE_size h4
  have := isE_size h5
  omega
theorem akOk_facts {k : Int} {ky vl lo hi : ByteArray} {mo : Int} {bk : Bool} (h : akOk k ky vl lo hi mo bk = true) : (1 ≤ k ∧ k ≤ 4) ∧ ky.size ≤ 8 ∧ vl.size ≤ 20 ∧ lo.size ≤ 9 ∧ hi.size ≤ 9 ∧ 0 ≤ mo ∧ mo ≤ 8 := by
  unfold akOk at h
  split at h
  · rename_i hk
    simp only [akS, rchOk, Bool.and_eq_true, decide_eq_true_eq] at h
    obtain ⟨⟨h1, h2⟩, ⟨_, h3, h4⟩, h5, h6⟩ := h
    have := isE_size h5
    have := isE_size h6
    omega
  · split at h
    · have := akK_facts h
      omega
    · split at h
      · rw [Bool.and_eq_true] at h
        have := akK_facts h.2
        omega
      · cases h
theorem akZ_facts {k : Int} {ky vl lo hi : ByteArray} {mo : Int} {bk : Bool} (h : akZ k ky vl lo hi mo bk = true) : k = 0 ∧ ky.size = 0 ∧ vl.size = 0 ∧ lo.size = 0 ∧ hi.size = 0 ∧ mo = 0 := by
  simp only [akZ, Bool.and_eq_true, decide_eq_true_eq] at h
  obtain ⟨h0, h1, h2, ⟨h3, h4⟩, h5, _⟩ := h
  exact ⟨h0, isE_size h1, isE_size h2, isE_size h3, isE_size h4, h5⟩
theorem noT_facts {st cd : Int} {pn : Nat} (h : noT st cd pn = true) : st = 0 ∧ cd = 0 ∧ pn = 0 := by
  simpa only [noT, Bool.and_eq_true, decide_eq_true_eq] using h
theorem tel_facts {st cd : Int} {ps : List PB} (h : tel st cd ps = true) : (0 ≤ cd ∧ cd ≤ 9) ∧ (0 ≤ st ∧ st ≤ 1099511627775) ∧ ps.length ≤ 8 ∧ ∀ p ∈ ps, p.1.size ≤ 20 ∧ p.2.size ≤ 20 := by
  simp only [tel, prsOk, Bool.and_eq_true, decide_eq_true_eq, List.all_eq_true] at h
  obtain ⟨h1, h2, h3, h4⟩ := h
  refine ⟨h1, ?_, h3, fun p hp => ?_⟩
  · unfold stC at h2
    split at h2
    · simp only [stN, Bool.and_eq_true, decide_eq_true_eq] at h2
      omega
    · have := of_decide_eq_true h2
      omega
  · have := h4 p hp
    simp only [upOk, uOk, uvOk, Bool.and_eq_true, decide_eq_true_eq] at this
    omega
theorem nuOk_facts {nu : Int} (h : nuOk nu = true) : 1 ≤ nu ∧ nu ≤ 16 := by simpa only [nuOk, Bool.and_eq_true, decide_eq_true_eq] using h
theorem mem8 {P : Int → Prop} {a b c d e f g h : Int} (h0 : P a) (h1 : P b) (h2 : P c) (h3 : P d) (h4 : P e) (h5 : P f) (h6 : P g) (h7 : P h) : ∀ m ∈ [a, b, c, d, e, f, g, h], P m := by
  intro m hm
  simp only [List.mem_cons, List.not_mem_nil, or_false] at hm
  rcases hm with rfl | rfl | rfl | rfl | rfl | rfl | rfl | rfl <;> assumption
theorem mem4 {P : ByteArray → Prop} {a b c d : ByteArray} (h0 : P a) (h1 : P b) (h2 : P c) (h3 : P d) : ∀ m ∈ [a, b, c, d], P m := by
  intro m hm
  simp only [List.mem_cons, List.not_mem_nil, or_false] at hm
  rcases hm with rfl | rfl | rfl | rfl <;> assumption
theorem mgOk_facts {kd c e n sh nu st k : Int} {ky vl lo hi : ByteArray} {mo : Int} {bk : Bool} {cd : Int} {ps : List PB} {ys : Bool} (h : mgOk kd c e n sh nu st (akOk k ky vl lo hi mo bk) (akZ k ky vl lo hi mo bk) cd ps ys = true) : MgF kd c e n sh nu st k ky vl lo hi mo cd ps := by
  simp only [mgOk, Bool.and_eq_true, decide_eq_true_eq] at h
  obtain ⟨h1, h2, h3, h4⟩ := h
  obtain ⟨t0, t1, t2, t3, t4, t5⟩ := (txOk_iff (c, e, n)).1 h1
  simp only at t0 t1 t2 t3 t4 t5
  have key : (1 ≤ kd ∧ kd ≤ 7) ∧ (0 ≤ nu ∧ nu ≤ 16) ∧ (0 ≤ st ∧ st ≤ 1099511627775) ∧ (0 ≤ k ∧ k ≤ 4) ∧ (ky.size ≤ 20 ∧ vl.size ≤ 20 ∧ lo.size ≤ 20 ∧ hi.size ≤ 20) ∧ (0 ≤ mo ∧ mo ≤ 8) ∧ (0 ≤ cd ∧ cd ≤ 9) ∧ ps.length ≤ 8 ∧ ∀ p ∈ ps, p.1.size ≤ 20 ∧ p.2.size ≤ 20 := by
    have none : ps.length = 0 → ∀ p ∈ ps, p.1.size ≤ 20 ∧ p.2.size ≤ 20 := fun h0 p hp => by rw [List.eq_nil_of_length_eq_zero h0] at hp; cases hp
    unfold prtOk at h4
    split at h4
    · simp only [Bool.and_eq_true] at h4
      obtain ⟨a1, a2, a3, _⟩ := h4
      have b1 := nuOk_facts a1
      have b2 := akOk_facts a2
      have b3 := noT_facts a3
      refine ⟨by omega, by omega, by omega, by omega, by omega, by omega, by omega, by omega, none b3.2.2⟩
    · split at h4
      · simp only [Bool.and_eq_true] at h4
        obtain ⟨a1, a2, a3, _⟩ := h4
        have b1 := nuOk_facts a1
        have b2 := akZ_facts a3
        obtain ⟨b3, b4, b5, b6⟩ := tel_facts a2
        refine ⟨by omega, by omega, by omega, by omega, by omega, by omega, by omega, by omega, b6⟩
      · split at h4
        · simp only [Bool.and_eq_true, decide_eq_true_eq] at h4
          obtain ⟨_, a1, a2, a3, _⟩ := h4
          have b1 := nuOk_facts a1
          have b2 := akZ_facts a3
          obtain ⟨b3, b4, b5, b6⟩ := tel_facts a2
          refine ⟨by omega, by omega, by omega, by omega, by omega, by omega, by omega, by omega, b6⟩
        · split at h4
          · simp only [Bool.and_eq_true, decide_eq_true_eq] at h4
            obtain ⟨a1, a2, a3⟩ := h4
            have b2 := akZ_facts a2
            have b3 := noT_facts a3
            refine ⟨by omega, by omega, by omega, by omega, by omega, by omega, by omega, by omega, none b3.2.2⟩
          · split at h4
            · simp only [Bool.and_eq_true, decide_eq_true_eq] at h4
              obtain ⟨_, a1, a2, a3⟩ := h4
              have b2 := akZ_facts a2
              have b3 := noT_facts a3
              refine ⟨by omega, by omega, by omega, by omega, by omega, by omega, by omega, by omega, none b3.2.2⟩
            · cases h4
  obtain ⟨q1, q2, q3, q4, q5, q6, q7, q8, q9⟩ := key
  exact ⟨mem8 (by omega) (by omega) (by omega) (by omega) (by omega) (by omega) (by omega) (by omega), mem4 q5.1 q5.2.1 q5.2.2.1 q5.2.2.2, q6, q7, q8, q9⟩
theorem bit_bound (b : Bool) : 0 ≤ bit b ∧ bit b ≤ 1 := by cases b <;> decide
theorem mgN4 {mo cd : Int} {bk : Bool} {ps : List PB} (h1 : 0 ≤ mo ∧ mo ≤ 8) (h2 : 0 ≤ cd ∧ cd ≤ 9) (h3 : ps.length ≤ 8) : ∀ m ∈ [mo, bit bk, cd, (ps.length : Int)], 0 ≤ m ∧ m ≤ 1099511627775 := by
  intro m hm
  have := bit_bound bk
  simp only [List.mem_cons, List.not_mem_nil, or_false] at hm
  rcases hm with rfl | rfl | rfl | rfl <;> omega
theorem MgF.byte {kd c e n sh nu st k : Int} {ky vl lo hi : ByteArray} {mo : Int} {cd : Int} {ps : List PB} (h : MgF kd c e n sh nu st k ky vl lo hi mo cd ps) (bk ys : Bool) : ∀ z ∈ mgBy kd c e n sh nu st k ky vl lo hi mo bk cd ps ys, 0 ≤ z ∧ z ≤ 255 := by
  have hb := bit_bound ys
  exact byte_append (nparts_byte _ h.n1) (byte_append (tparts_byte _ (fun s hs => by have := h.s1 s hs; omega)) (byte_append (nparts_byte _ (mgN4 h.hmo h.hcd h.hpl)) (byte_append (pparts_byte _ h.hps) (enc_byte _ (by omega) (by omega)))))
theorem MgF.len {kd c e n sh nu st k : Int} {ky vl lo hi : ByteArray} {mo : Int} {cd : Int} {ps : List PB} (h : MgF kd c e n sh nu st k ky vl lo hi mo cd ps) (bk ys : Bool) : (mgBy kd c e n sh nu st k ky vl lo hi mo bk cd ps ys).length ≤ 800 := by
  have l1 := nparts_len [kd, c, e, n, sh, nu, st, k]
  have l2 := tparts_len [ky, vl, lo, hi] h.s1
  have l3 := nparts_len [mo, bit bk, cd, (ps.length : Int)]
  have l4 := pparts_len ps h.hps
  have l5 := enc_len (bit ys)
  have l6 := h.hpl
  simp only [List.length_cons, List.length_nil] at l1 l2 l3
  simp only [mgBy, List.length_append]
  omega
end Go.Proofs.YtbonkheoeohaiaaDoor
/-
  Messages: what is told, what is asked, the stamp.
-/
namespace Go.Proofs.YtbonkheoeohaiaaDoor
open Go.RowKit
set_option linter.unusedVariables false
set_option maxHeartbeats 3200000 in
theorem tellsNothing_any (kd c e n sh nu st k : Int) (ky vl lo hi : ByteArray) (mo : Int) (bk : Bool) (cd : Int) (pa : Option Addr) (pn pc : Nat) (ys : Bool) (w : World) : Calls Tryd.prog 89 #[.agg #[.int .i64 kd, .int .i64 c, .int .i64 e, .int .i64 n, .int .i64 sh, .int .i64 nu, .int .i64 st, .int .i64 k, .string ky, .string vl, .string lo, .string hi, .int .i64 mo, .bool bk, .int .i64 cd, .slice pa pn pc, .bool ys]] w fun r w' => r = .returned (.bool (noT st cd pn)) ∧ Below w.heap.size w w' := by
  have B0 := hid (below_new (o := .cells #[.int .i64 kd, .int .i64 c, .int .i64 e, .int .i64 n, .int .i64 sh, .int .i64 nu, .int .i64 st, .int .i64 k, .string ky, .string vl, .string lo, .string hi, .int .i64 mo, .bool bk, .int .i64 cd, .slice pa pn pc, .bool ys] 31) (w := w) (Below.refl _ _))
  have K0 := hid (Bk.new w 31 [.int .i64 kd, .int .i64 c, .int .i64 e, .int .i64 n, .int .i64 sh, .int .i64 nu, .int .i64 st, .int .i64 k, .string ky, .string vl, .string lo, .string hi, .int .i64 mo, .bool bk, .int .i64 cd, .slice pa pn pc, .bool ys])
  have HV : Hid (noT st cd pn = (decide (st = 0) && (decide (cd = 0) && decide (pn = 0)))) := rfl
  generalize noT st cd pn = z at *
  go_enter Tryd.func89, Tryd.ntmps89
  by_cases h1 : st = 0
  · subst h1
    by_cases h2 : cd = 0
    · subst h2
      by_cases h3 : pn = 0
      · subst h3
        go_wp2
        go_ret
        exact ⟨by rw [HV.out] <;> simp <;> first | assumption | (intros; omega), B0.out⟩
      · skip
        have h4 : ¬ (pn : Int) = 0 := by omega
        have h5 : ((pn : Int) == 0) = false := by simpa using h4
        go_wp2
        go_ret
        exact ⟨by rw [HV.out] <;> simp <;> first | assumption | (intros; omega), B0.out⟩
    · skip
      go_wp2
      go_ret
      exact ⟨by rw [HV.out] <;> simp <;> first | assumption | (intros; omega), B0.out⟩
  · skip
    go_wp2
    go_ret
    exact ⟨by rw [HV.out] <;> simp <;> first | assumption | (intros; omega), B0.out⟩
set_option maxHeartbeats 3200000 in
theorem asksNothing_any (kd c e n sh nu st k : Int) (ky vl lo hi : ByteArray) (mo : Int) (bk : Bool) (cd : Int) (pa : Option Addr) (pn pc : Nat) (ys : Bool) (w : World) : Calls Tryd.prog 91 #[.agg #[.int .i64 kd, .int .i64 c, .int .i64 e, .int .i64 n, .int .i64 sh, .int .i64 nu, .int .i64 st, .int .i64 k, .string ky, .string vl, .string lo, .string hi, .int .i64 mo, .bool bk, .int .i64 cd, .slice pa pn pc, .bool ys]] w fun r w' => r = .returned (.bool (akZ k ky vl lo hi mo bk)) ∧ Below w.heap.size w w' := by
  have B0 := hid (below_new (o := .cells #[.int .i64 kd, .int .i64 c, .int .i64 e, .int .i64 n, .int .i64 sh, .int .i64 nu, .int .i64 st, .int .i64 k, .string ky, .string vl, .string lo, .string hi, .int .i64 mo, .bool bk, .int .i64 cd, .slice pa pn pc, .bool ys] 31) (w := w) (Below.refl _ _))
  have K0 := hid (Bk.new w 31 [.int .i64 kd, .int .i64 c, .int .i64 e, .int .i64 n, .int .i64 sh, .int .i64 nu, .int .i64 st, .int .i64 k, .string ky, .string vl, .string lo, .string hi, .int .i64 mo, .bool bk, .int .i64 cd, .slice pa pn pc, .bool ys])
  have hq := eql_askZ k ky vl lo hi mo bk
  have hg := guard_ask .eql
  go_enter Tryd.func91, Tryd.ntmps91
  go_wp2
  go_ret
  exact ⟨rfl, B0.out⟩
end Go.Proofs.YtbonkheoeohaiaaDoor
/-
  Messages: the stamp.
-/
namespace Go.Proofs.YtbonkheoeohaiaaDoor
open Go.RowKit
set_option linter.unusedVariables false
set_option maxHeartbeats 3200000 in
theorem stampOk_any (kd c e n sh nu st k : Int) (ky vl lo hi : ByteArray) (mo : Int) (bk : Bool) (cd : Int) (pa : Option Addr) (pn pc : Nat) (ys : Bool) (w : World) : Calls Tryd.prog 101 #[.agg #[.int .i64 kd, .int .i64 c, .int .i64 e, .int .i64 n, .int .i64 sh, .int .i64 nu, .int .i64 st, .int .i64 k, .string ky, .string vl, .string lo, .string hi, .int .i64 mo, .bool bk, .int .i64 cd, .slice pa pn pc, .bool ys]] w fun r w' => r = .returned (.bool (stC cd st)) ∧ Below w.heap.size w w' := by
  have B0 := hid (below_new (o := .cells #[.int .i64 kd, .int .i64 c, .int .i64 e, .int .i64 n, .int .i64 sh, .int .i64 nu, .int .i64 st, .int .i64 k, .string ky, .string vl, .string lo, .string hi, .int .i64 mo, .bool bk, .int .i64 cd, .slice pa pn pc, .bool ys] 31) (w := w) (Below.refl _ _))
  have K0 := hid (Bk.new w 31 [.int .i64 kd, .int .i64 c, .int .i64 e, .int .i64 n, .int .i64 sh, .int .i64 nu, .int .i64 st, .int .i64 k, .string ky, .string vl, .string lo, .string hi, .int .i64 mo, .bool bk, .int .i64 cd, .slice pa pn pc, .bool ys])
  by_cases h1 : cd = 0
  · subst h1
    have HV : Hid (stC 0 st = (decide (0 < st) && decide (st ≤ 1099511627775))) := rfl
    by_cases h2 : 0 < st
    · have h3 : 0 ≤ st := by omega
      have C1 : Hid (∀ w, Calls Tryd.prog 65 #[.int .i64 st] w fun e w' => e = .returned (.bool (decide (st ≤ 1099511627775))) ∧ w = w') := fun w => by
        have := isNumberM_any st w
        rwa [decide_eq_true h3, Bool.true_and] at this
      have HW : Hid (stC 0 st = decide (st ≤ 1099511627775)) := by show _ = _; rw [HV.out, decide_eq_true h2, Bool.true_and]
      go_enter Tryd.func101, Tryd.ntmps101
      go_wp2_with fail
      refine (C1.out _).mono ?_
      rintro r w' ⟨rfl, rfl⟩
      go_wp2
      go_ret
      exact ⟨by rw [HW.out]; rfl, B0.out⟩
    · have HW : Hid (stC 0 st = false) := by show _ = false; rw [HV.out, decide_eq_false h2]; rfl
      go_enter Tryd.func101, Tryd.ntmps101
      go_wp2
      go_ret
      exact ⟨by rw [HW.out]; rfl, B0.out⟩
  · have HV : Hid (stC cd st = decide (st = 0)) := by show _ = _; unfold stC; rw [if_neg h1]
    by_cases h2 : st = 0
    · subst h2
      go_enter Tryd.func101, Tryd.ntmps101
      go_wp2
      go_ret
      exact ⟨by rw [HV.out]; simp, B0.out⟩
    · go_enter Tryd.func101, Tryd.ntmps101
      go_wp2
      go_ret
      exact ⟨by rw [HV.out]; simp [h2], B0.out⟩
end Go.Proofs.YtbonkheoeohaiaaDoor
/-
  Messages: small functions of the specification.
-/
namespace Go.Proofs.YtbonkheoeohaiaaDoor
open Go.RowKit
set_option linter.unusedVariables false
theorem specNuOk_any (nu : Int) (w : World) : Calls Tryd.prog 32 #[.int .i64 nu] w fun e w' => e = .returned (.bool (nuOk nu)) ∧ w = w' := by
  by_cases h : 1 ≤ nu
  · have HE : Hid (nuOk nu = decide (nu ≤ 16)) := by show nuOk nu = _; simp [nuOk, h]
    go_enter Tryd.func32, Tryd.ntmps32
    go_wp2
    go_ret
    exact ⟨by rw [HE.out]; rfl, rfl⟩
  · have HE : Hid (nuOk nu = false) := by show nuOk nu = false; simp [nuOk, h]
    go_enter Tryd.func32, Tryd.ntmps32
    go_wp2
    go_ret
    exact ⟨by rw [HE.out]; rfl, rfl⟩
theorem specNumM_any (m : Int) (w : World) : Calls Tryd.prog 36 #[.int .i64 m] w fun e w' => e = .returned (.bool (decide (0 ≤ m) && decide (m ≤ 1099511627775))) ∧ w = w' := by
  by_cases h : 0 ≤ m
  · have HE : Hid ((decide (0 ≤ m) && decide (m ≤ 1099511627775)) = decide (m ≤ 1099511627775)) := by show _ = _; simp [h]
    go_enter Tryd.func36, Tryd.ntmps36
    go_wp2
    go_ret
    exact ⟨by rw [HE.out]; rfl, rfl⟩
  · have HE : Hid ((decide (0 ≤ m) && decide (m ≤ 1099511627775)) = false) := by show _ = false; simp [h]
    go_enter Tryd.func36, Tryd.ntmps36
    go_wp2
    go_ret
    exact ⟨by rw [HE.out]; rfl, rfl⟩
theorem prsOk_nil : prsOk [] = true := rfl
theorem stC_0 (st : Int) : stC 0 st = (decide (1 ≤ st) && decide (st ≤ 1099511627775)) := rfl
theorem stC_no {cd : Int} (h : ¬ cd = 0) (st : Int) : stC cd st = decide (st = 0) := by unfold stC; rw [if_neg h]
end Go.Proofs.YtbonkheoeohaiaaDoor
/-
  What is known of asks and messages that come in as arguments.
-/
namespace Go.Proofs.YtbonkheoeohaiaaDoor
open Go.ChangeShapes Go.WideShapes Go.ChangeAt Go.RowKit
set_option linter.unusedVariables false
theorem arrK7 {α : Type} {cs : Array α} (h : cs.size = 7) : ∃ v0 v1 v2 v3 v4 v5 v6, cs = #[v0, v1, v2, v3, v4, v5, v6] := by
  obtain ⟨l⟩ := cs
  match l, h with
  | [v0, v1, v2, v3, v4, v5, v6], _ => exact ⟨v0, v1, v2, v3, v4, v5, v6, rfl⟩
theorem arrK17 {α : Type} {cs : Array α} (h : cs.size = 17) : ∃ v0 v1 v2 v3 v4 v5 v6 v7 v8 v9 v10 v11 v12 v13 v14 v15 v16, cs = #[v0, v1, v2, v3, v4, v5, v6, v7, v8, v9, v10, v11, v12, v13, v14, v15, v16] := by
  obtain ⟨l⟩ := cs
  match l, h with
  | [v0, v1, v2, v3, v4, v5, v6, v7, v8, v9, v10, v11, v12, v13, v14, v15, v16], _ => exact ⟨v0, v1, v2, v3, v4, v5, v6, v7, v8, v9, v10, v11, v12, v13, v14, v15, v16, rfl⟩
set_option maxRecDepth 100000 in
theorem rangeK_two : ∃ f0 f1 : Field, Tryd.prog.underlying 40 = some (.struct #[f0, f1]) ∧ f0.type = 9 ∧ f1.type = 9 ∧ f0.offset = 0 ∧ f1.offset = 1 := ⟨_, _, Tryd.underlying40, rfl, rfl, rfl, rfl⟩
set_option maxRecDepth 100000 in
theorem open_rngK {H : Type} {enc : TypeId × Value → H} {w : World} {base : Nat} {spare : Nat → Bool} {held : Bool} {fuel : Nat} {v0 v1 : Value} {x : DataW H × List MemPlace}
    (h : DataW.trod enc Tryd.prog w base spare held fuel 40 [v0, v1] = some x) : ∃ lo hi : ByteArray, v0 = .string lo ∧ v1 = .string hi ∧ lo.size ≤ maxLen ∧ hi.size ≤ maxLen := by
  obtain ⟨f0, f1, hs, t0, t1, o0, o1⟩ := rangeK_two
  have k0 : Tryd.prog.cellsOf 9 = 1 := by kernel_rfl
  obtain ⟨y0, y1, n', _, _, d0, d1⟩ := trod_struct2 hs h
  rw [t0, o0, k0] at d0
  rw [t1, o1, k0] at d1
  simp at d0 d1
  obtain ⟨s0, e0, _, l0⟩ := DataW.trod_string Tryd.underlying9 d0
  obtain ⟨s1, e1, _, l1⟩ := DataW.trod_string Tryd.underlying9 d1
  simp at e0 e1
  exact ⟨s0, s1, e0, e1, l0, l1⟩
set_option maxRecDepth 100000 in
theorem ask_six : ∃ f0 f1 f2 f3 f4 f5 : Field, Tryd.prog.underlying 42 = some (.struct #[f0, f1, f2, f3, f4, f5]) ∧ f0.type = 3 ∧ f1.type = 9 ∧ f2.type = 9 ∧ f3.type = 40 ∧ f4.type = 3 ∧ f5.type = 4 ∧ f0.offset = 0 ∧ f1.offset = 1 ∧ f2.offset = 2 ∧ f3.offset = 3 ∧ f4.offset = 5 ∧ f5.offset = 6 := ⟨_, _, _, _, _, _, Tryd.underlying42, rfl, rfl, rfl, rfl, rfl, rfl, rfl, rfl, rfl, rfl, rfl, rfl⟩
set_option maxRecDepth 100000 in
theorem open_askc {H : Type} {enc : TypeId × Value → H} {w : World} {base : Nat} {spare : Nat → Bool} {held : Bool} {fuel : Nat} {v0 v1 v2 v3 v4 v5 v6 : Value} {x : DataW H × List MemPlace}
    (h : DataW.trod enc Tryd.prog w base spare held fuel 42 [v0, v1, v2, v3, v4, v5, v6] = some x) : ∃ (k : Int) (ky vl lo hi : ByteArray) (mo : Int) (bk : Bool), v0 = .int .i64 k ∧ v1 = .string ky ∧ v2 = .string vl ∧ v3 = .string lo ∧ v4 = .string hi ∧ v5 = .int .i64 mo ∧ v6 = .bool bk ∧ ky.size ≤ maxLen ∧ vl.size ≤ maxLen ∧ lo.size ≤ maxLen ∧ hi.size ≤ maxLen := by
  obtain ⟨f0, f1, f2, f3, f4, f5, hs, t0, t1, t2, t3, t4, t5, o0, o1, o2, o3, o4, o5⟩ := ask_six
  have kbool : Tryd.prog.cellsOf 4 = 1 := by kernel_rfl
  have kint : Tryd.prog.cellsOf 3 = 1 := by kernel_rfl
  have klawsRange : Tryd.prog.cellsOf 40 = 2 := by kernel_rfl
  have kstring : Tryd.prog.cellsOf 9 = 1 := by kernel_rfl
  obtain ⟨xs, n', _, rfl, hl, hlen, hf⟩ := DataW.trod_struct hs h
  match xs, hlen with
  | [y0, y1, y2, y3, y4, y5], _ =>
    have d0 := hf 0 f0 rfl
    have d1 := hf 1 f1 rfl
    have d2 := hf 2 f2 rfl
    have d3 := hf 3 f3 rfl
    have d4 := hf 4 f4 rfl
    have d5 := hf 5 f5 rfl
    rw [t0, o0, kint] at d0
    rw [t1, o1, kstring] at d1
    rw [t2, o2, kstring] at d2
    rw [t3, o3, klawsRange] at d3
    rw [t4, o4, kint] at d4
    rw [t5, o5, kbool] at d5
    simp at d0 d1 d2 d3 d4 d5
    obtain ⟨s0, e0, _⟩ := DataW.trod_int Tryd.underlying3 d0
    obtain ⟨s1, e1, _, l1⟩ := DataW.trod_string Tryd.underlying9 d1
    obtain ⟨s2, e2, _, l2⟩ := DataW.trod_string Tryd.underlying9 d2
    obtain ⟨lo, hi, e3, e4, l3, l4⟩ := open_rngK d3
    obtain ⟨s4, e5, _⟩ := DataW.trod_int Tryd.underlying3 d4
    obtain ⟨s5, e6, _⟩ := DataW.trod_bool Tryd.underlying4 d5
    simp at e0 e1 e2 e5 e6
    exact ⟨s0, s1, s2, lo, hi, s4, s5, e0, e1, e2, e3, e4, e5, e6, l1, l2, l3, l4⟩
set_option maxRecDepth 100000 in
theorem open_ask {H : Type} {enc : TypeId × Value → H} {w : World} {base : Nat} {spare : Nat → Bool} {held : Bool} {r : Reach} {b0 : Nat} {v : Value} {d : DataW H} {p : List MemPlace}
    (hv : Value.okWide Tryd.prog w r b0 42 v) (h : DataW.Trod enc Tryd.prog w base spare held 42 v d p) : ∃ (k : Int) (ky vl lo hi : ByteArray) (mo : Int) (bk : Bool), v = .agg #[.int .i64 k, .string ky, .string vl, .string lo, .string hi, .int .i64 mo, .bool bk] ∧ ky.size ≤ maxLen ∧ vl.size ≤ maxLen ∧ lo.size ≤ maxLen ∧ hi.size ≤ maxLen := by
  obtain ⟨f0, f1, f2, f3, f4, f5, hs, _⟩ := ask_six
  obtain ⟨cs, rfl, hsz⟩ := okWide_struct hs hv
  obtain ⟨v0, v1, v2, v3, v4, v5, v6, rfl⟩ := arrK7 (hsz.trans (by kernel_rfl))
  obtain ⟨fuel, hf⟩ := h
  simp [Value.cells] at hf
  obtain ⟨k, ky, vl, lo, hi, mo, bk, rfl, rfl, rfl, rfl, rfl, rfl, rfl, hl⟩ := open_askc hf
  exact ⟨k, ky, vl, lo, hi, mo, bk, rfl, hl⟩
set_option maxRecDepth 100000 in
theorem msg_nine : ∃ f0 f1 f2 f3 f4 f5 f6 f7 f8 : Field, Tryd.prog.underlying 45 = some (.struct #[f0, f1, f2, f3, f4, f5, f6, f7, f8]) ∧ f0.type = 3 ∧ f1.type = 39 ∧ f2.type = 3 ∧ f3.type = 3 ∧ f4.type = 3 ∧ f5.type = 42 ∧ f6.type = 3 ∧ f7.type = 43 ∧ f8.type = 4 ∧ f0.offset = 0 ∧ f1.offset = 1 ∧ f2.offset = 4 ∧ f3.offset = 5 ∧ f4.offset = 6 ∧ f5.offset = 7 ∧ f6.offset = 14 ∧ f7.offset = 15 ∧ f8.offset = 16 := ⟨_, _, _, _, _, _, _, _, _, Tryd.underlying45, rfl, rfl, rfl, rfl, rfl, rfl, rfl, rfl, rfl, rfl, rfl, rfl, rfl, rfl, rfl, rfl, rfl, rfl⟩
set_option maxRecDepth 100000 in
theorem txK_three : ∃ f0 f1 f2 : Field, Tryd.prog.underlying 39 = some (.struct #[f0, f1, f2]) ∧ f0.type = 3 ∧ f1.type = 3 ∧ f2.type = 3 ∧ f0.offset = 0 ∧ f1.offset = 1 ∧ f2.offset = 2 := ⟨_, _, _, Tryd.underlying39, rfl, rfl, rfl, rfl, rfl, rfl⟩
set_option maxRecDepth 100000 in
theorem open_msgc {H : Type} {enc : TypeId × Value → H} {w : World} {base : Nat} {spare : Nat → Bool} {held : Bool} {fuel : Nat} {v0 v1 v2 v3 v4 v5 v6 v7 v8 v9 v10 v11 v12 v13 v14 v15 v16 : Value} {x : DataW H × List MemPlace}
    (h : DataW.trod enc Tryd.prog w base spare held fuel 45 [v0, v1, v2, v3, v4, v5, v6, v7, v8, v9, v10, v11, v12, v13, v14, v15, v16] = some x) : ∃ (kd c e n sh nu st : Int) (k : Int) (ky vl lo hi : ByteArray) (mo : Int) (bk : Bool) (cd : Int) (ps : List PB) (ys : Bool), v0 = .int .i64 kd ∧ v1 = .int .i64 c ∧ v2 = .int .i64 e ∧ v3 = .int .i64 n ∧ v4 = .int .i64 sh ∧ v5 = .int .i64 nu ∧ v6 = .int .i64 st ∧ v7 = .int .i64 k ∧ v8 = .string ky ∧ v9 = .string vl ∧ v10 = .string lo ∧ v11 = .string hi ∧ v12 = .int .i64 mo ∧ v13 = .bool bk ∧ v14 = .int .i64 cd ∧ v16 = .bool ys ∧ (ky.size ≤ maxLen ∧ vl.size ≤ maxLen ∧ lo.size ≤ maxLen ∧ hi.size ≤ maxLen) ∧ Pr w (fun _ => True) v15 ps ∧ szOkP ps := by
  obtain ⟨f0, f1, f2, f3, f4, f5, f6, f7, f8, hs, t0, t1, t2, t3, t4, t5, t6, t7, t8, o0, o1, o2, o3, o4, o5, o6, o7, o8⟩ := msg_nine
  have kSlawsPair : Tryd.prog.cellsOf 43 = 1 := by kernel_rfl
  have kbool : Tryd.prog.cellsOf 4 = 1 := by kernel_rfl
  have kint : Tryd.prog.cellsOf 3 = 1 := by kernel_rfl
  have klawsAsk : Tryd.prog.cellsOf 42 = 7 := by kernel_rfl
  have klawsTx : Tryd.prog.cellsOf 39 = 3 := by kernel_rfl
  obtain ⟨xs, n', _, rfl, hl, hlen, hf⟩ := DataW.trod_struct hs h
  match xs, hlen with
  | [y0, y1, y2, y3, y4, y5, y6, y7, y8], _ =>
    have d0 := hf 0 f0 rfl
    have d1 := hf 1 f1 rfl
    have d2 := hf 2 f2 rfl
    have d3 := hf 3 f3 rfl
    have d4 := hf 4 f4 rfl
    have d5 := hf 5 f5 rfl
    have d6 := hf 6 f6 rfl
    have d7 := hf 7 f7 rfl
    have d8 := hf 8 f8 rfl
    rw [t0, o0, kint] at d0
    rw [t1, o1, klawsTx] at d1
    rw [t2, o2, kint] at d2
    rw [t3, o3, kint] at d3
    rw [t4, o4, kint] at d4
    rw [t5, o5, klawsAsk] at d5
    rw [t6, o6, kint] at d6
    rw [t7, o7, kSlawsPair] at d7
    rw [t8, o8, kbool] at d8
    simp at d0 d1 d2 d3 d4 d5 d6 d7 d8
    obtain ⟨s0, e0, _⟩ := DataW.trod_int Tryd.underlying3 d0
    obtain ⟨g0, g1, g2, hs2, u0, u1, u2, i0, i1, i2⟩ := txK_three
    obtain ⟨z0, z1, z2, n2, _, _, j0, j1, j2⟩ := Go.Deep.trod_struct3 hs2 d1
    rw [u0, i0, kint] at j0
    rw [u1, i1, kint] at j1
    rw [u2, i2, kint] at j2
    simp at j0 j1 j2
    obtain ⟨q0, b0, _⟩ := DataW.trod_int Tryd.underlying3 j0
    obtain ⟨q1, b1, _⟩ := DataW.trod_int Tryd.underlying3 j1
    obtain ⟨q2, b2, _⟩ := DataW.trod_int Tryd.underlying3 j2
    obtain ⟨s2, e2, _⟩ := DataW.trod_int Tryd.underlying3 d2
    obtain ⟨s3, e3, _⟩ := DataW.trod_int Tryd.underlying3 d3
    obtain ⟨s4, e4, _⟩ := DataW.trod_int Tryd.underlying3 d4
    obtain ⟨k, ky, vl, lo, hi, mo, bk, a0, a1, a2, a3, a4, a5, a6, hz⟩ := open_askc d5
    obtain ⟨s6, e6, _⟩ := DataW.trod_int Tryd.underlying3 d6
    obtain ⟨ps, p1, p2⟩ := open_pairs d7
    obtain ⟨s8, e8, _⟩ := DataW.trod_bool Tryd.underlying4 d8
    simp at e0 b0 b1 b2 e2 e3 e4 e6 e8
    exact ⟨s0, q0, q1, q2, s2, s3, s4, k, ky, vl, lo, hi, mo, bk, s6, ps, s8, e0, b0, b1, b2, e2, e3, e4, a0, a1, a2, a3, a4, a5, a6, e6, e8, hz, p1, p2⟩
set_option maxRecDepth 100000 in
theorem open_msg {H : Type} {enc : TypeId × Value → H} {w : World} {base : Nat} {spare : Nat → Bool} {held : Bool} {r : Reach} {b0 : Nat} {v : Value} {d : DataW H} {p : List MemPlace}
    (hv : Value.okWide Tryd.prog w r b0 45 v) (h : DataW.Trod enc Tryd.prog w base spare held 45 v d p) : ∃ (kd c e n sh nu st : Int) (k : Int) (ky vl lo hi : ByteArray) (mo : Int) (bk : Bool) (cd : Int) (pa : Option Addr) (pn pc : Nat) (ps : List PB) (ys : Bool),
      v = .agg #[.int .i64 kd, .int .i64 c, .int .i64 e, .int .i64 n, .int .i64 sh, .int .i64 nu, .int .i64 st, .int .i64 k, .string ky, .string vl, .string lo, .string hi, .int .i64 mo, .bool bk, .int .i64 cd, .slice pa pn pc, .bool ys] ∧ (ky.size ≤ maxLen ∧ vl.size ≤ maxLen ∧ lo.size ≤ maxLen ∧ hi.size ≤ maxLen) ∧ Pr w (fun _ => True) (.slice pa pn pc) ps ∧ szOkP ps := by
  obtain ⟨f0, f1, f2, f3, f4, f5, f6, f7, f8, hs, _⟩ := msg_nine
  obtain ⟨cs, rfl, hsz⟩ := okWide_struct hs hv
  obtain ⟨v0, v1, v2, v3, v4, v5, v6, v7, v8, v9, v10, v11, v12, v13, v14, v15, v16, rfl⟩ := arrK17 (hsz.trans (by kernel_rfl))
  obtain ⟨fuel, hf⟩ := h
  simp [Value.cells] at hf
  obtain ⟨kd, c, e, n, sh, nu, st, k, ky, vl, lo, hi, mo, bk, cd, ps, ys, rfl, rfl, rfl, rfl, rfl, rfl, rfl, rfl, rfl, rfl, rfl, rfl, rfl, rfl, rfl, rfl, hz, p1, p2⟩ := open_msgc hf
  obtain ⟨pa, pc, rfl, _⟩ := Rw.shape p1
  exact ⟨kd, c, e, n, sh, nu, st, k, ky, vl, lo, hi, mo, bk, cd, pa, _, pc, ps, ys, rfl, hz, p1, p2⟩
end Go.Proofs.YtbonkheoeohaiaaDoor
