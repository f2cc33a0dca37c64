/-
  Tear of the specification.
-/
import Derived.Test.YtcpdedpgjaimkaaDoorMs1
import Derived.LaidLaws
import Derived.Stop.LaidErr
import Derived.Laws.CopyOwn
import Derived.Deep.RegionHeld3
import Derived.RangeFuncNested
import Derived.RangeFuncBound
import Derived.RangeFuncCalls
import Derived.RangeFuncLeaves
import Derived.Shelf.Abstract
import Derived.Shelf.RegionOpen
import Derived.WalkKit
import Derived.OwnWalkIn
import Derived.TacticsInMore
import Derived.LoopNIn
import Derived.LoopIn
import Derived.Deep.RegionLaw
import Derived.Deep.DeepCutAuto
import Derived.Laws.IdiomStrings
namespace Go.Proofs.YtcpdedpgjaimkaaDoor
open Go.RowKit
/-- A page of which the first n bytes came new. -/
def trB (old new : List Int) (n : Int) : List Int := new.take n.toNat ++ old.drop n.toNat
def sheet (zs : List Int) : List Int := if zs.length = 0 then List.replicate 512 0 else zs
def shOk (zs : List Int) : Bool := decide (zs.length = 0) || decide (zs.length = 512)
def tearV (old new : List Int) (n : Int) : Option (List Int) := if shOk old = true ∧ shOk new = true then some (trB (sheet old) (sheet new) n) else none
theorem sheet_len {zs : List Int} (h : shOk zs = true) : (sheet zs).length = 512 := by
  unfold sheet
  simp only [shOk, Bool.or_eq_true, decide_eq_true_eq] at h
  split
  · rw [List.length_replicate]
  · omega
theorem sheet_byte {zs : List Int} (h : ∀ z ∈ zs, 0 ≤ z ∧ z ≤ 255) : ∀ z ∈ sheet zs, 0 ≤ z ∧ z ≤ 255 := by
  unfold sheet
  split
  · intro z hz
    have := List.eq_of_mem_replicate hz
    omega
  · exact h
theorem ob_made (w : World) (k : Nat) (hk : k ≤ 8192) : Ob (w.alloc (.cells (madeCells #[.int .u8 0] k) 5)) w.heap.size (.slice (some ⟨w.heap.size, 0, none⟩) k k) (List.replicate k 0) := by
  have e : (madeCells #[.int .u8 0] k).toList = (List.replicate k (0 : Int)).map (Value.int .u8) := by
    apply List.ext_getElem
    · simp [madeCells]
    · intro i h1 h2
      simp [madeCells, Nat.mod_one]
  refine ⟨by simp, .inr ⟨w.heap.size, k, madeCells #[.int .u8 0] k, by simp, Nat.le_refl _, heap_alloc_new w _, by simp, by unfold maxLen; omega, by simp [madeCells], ?_⟩⟩
  rw [e]
  simp
theorem makeB (k : Nat) (h : k ≤ 8192) : ∀ w, (Instr.makeSlice 22 (.int .i64 (k : Int)) (.int .i64 (k : Int))).run Tryd.prog w = .ok (.slice (some ⟨w.heap.size, 0, none⟩) k k) (w.alloc (.cells (madeCells #[.int .u8 0] k) 5)) :=
  fun w => run_make_row' (P := Tryd.prog) 22 5 (.int .u8 0) 1 Tryd.underlying22 infoU8 rfl .i64 .i64 k (by omega) (by omega) w
theorem Ob.setB {w : World} {B g n c : Nat} {zs : List Int} (h : Ob w B (.slice (some ⟨g, 0, none⟩) n c) zs) (j : Nat) (z : Int) : Ob (w.setCell ⟨g, j, none⟩ (.int .u8 z)) B (.slice (some ⟨g, 0, none⟩) n c) (zs.set j z) := by
  obtain ⟨k1, k2⟩ := h
  rcases k2 with ⟨k2, _⟩ | ⟨g', cap, cur, e, k3, k4, k5, k6, k7, k8⟩
  · cases k2
  · have e2 : g' = g ∧ zs.length = n ∧ cap = c := by cases e; exact ⟨rfl, rfl, rfl⟩
    obtain ⟨rfl, hn, rfl⟩ := e2
    refine ⟨by simp, .inr ⟨g', cap, cur.setIfInBounds j (.int .u8 z), by rw [List.length_set, hn], k3, ?_, by rw [List.length_set]; exact k5, k6, by simpa using k7, ?_⟩⟩
    · simp [World.setCell, Array.getElem?_modify, k4]
    · rw [List.length_set, Array.toList_setIfInBounds, List.take_set, k8, List.map_set]
theorem Ob.keepT {w w' : World} {B : Nat} {v : Value} {zs : List Int} (h : Ob w B v zs) (hb : Below w.heap.size w w') : Ob w' B v zs := own_kept h (only_of_below hb (fun _ => False)) (fun _ _ h => h)
theorem Ob.at {w : World} {B : Nat} {a : Option Addr} {n c : Nat} {zs : List Int} (h : Ob w B (.slice a n c) zs) (hp : 0 < n) : ∃ g, a = some ⟨g, 0, none⟩ ∧ B ≤ g ∧ n = zs.length ∧ n ≤ c ∧ c ≤ 9223372036854775807 ∧ (∀ o, w.frozen? ⟨g, o, none⟩ = false) ∧ ∀ i, i < n → w.cell? ⟨g, i, none⟩ = some (.int .u8 (zs[i]?.getD 0)) := by
  have hc := fun g hg => World.ownsRow.cells h (g := g) hg
  rcases h.2 with ⟨e, e2⟩ | ⟨g, cap, cur, e, hB, hg, k5, k6, k7, k8⟩
  · cases e; omega
  · have e2 : a = some ⟨g, 0, none⟩ ∧ n = zs.length ∧ c = cap := by cases e; exact ⟨rfl, rfl, rfl⟩
    obtain ⟨rfl, rfl, rfl⟩ := e2
    refine ⟨g, rfl, hB, rfl, k5, by unfold maxLen at k6; omega, fun o => by simp [World.frozen?, hg], fun i hi => ?_⟩
    have := hc g rfl i (.int .u8 (zs[i]?.getD 0)) (by simp [hi])
    rwa [Addr.add_lit, Nat.zero_add] at this
def ShPost (zs : List Int) (w : World) (e : Ending) (w' : World) : Prop := ∃ a n c, e = .returned (.tuple #[.slice a n c, .bool (shOk zs)]) ∧ Ob w' w.heap.size (.slice a n c) (sheet zs) ∧ Below w.heap.size w w'
set_option maxHeartbeats 2000000 in
theorem sheet_any (a : Option Addr) (n c : Nat) (zs : List Int) (w : World) (h : Rd w a n c zs) (hl : n ≤ 1048576) : Calls Tryd.prog 44 #[.slice a n c] w fun e w' => ShPost zs w e w' := by
  have hzl : n = zs.length := h.1
  by_cases h0 : n = 0
  · subst h0
    have HS : Hid (shOk zs = true ∧ sheet zs = List.replicate 512 0) := ⟨by simp [shOk, ← hzl], by rw [sheet, if_pos hzl.symm]⟩
    have hmk : ∀ w, (Instr.makeSlice 22 (.int .i64 512) (.int .i64 512)).run Tryd.prog w = .ok (.slice (some ⟨w.heap.size, 0, none⟩) 512 512) (w.alloc (.cells (madeCells #[.int .u8 0] 512) 5)) := fun w => makeB 512 (by omega) w
    have HO := hid (ob_made w 512 (by omega))
    have HB := hid (below_new (o := .cells (madeCells #[.int .u8 0] 512) 5) (w := w) (Below.refl _ _))
    clear h hzl
    go_enter Tryd.func44, Tryd.ntmps44
    go_wp2
    go_ret2
    exact ⟨_, _, _, by rw [HS.out.1]; rfl, by rw [HS.out.2]; exact HO.out, HB.out⟩
  · have h0' : ((n : Int) == 0) = false := by simp; omega
    have h0'' : ¬ (n : Int) = 0 := by omega
    have HS : Hid (shOk zs = decide (n = 512) ∧ sheet zs = zs) := ⟨by simp [shOk, ← hzl, h0], by rw [sheet, if_neg (by omega)]⟩
    have HO := hid (ob_new w w.heap.size (Nat.le_refl _))
    have HB := hid (below_new (o := .cells #[] 5) (w := w) (Below.refl _ _))
    have HR := hid (h.kept HB.out)
    have HZ : Hid (w.heap.size ≤ (w.alloc (.cells #[] 5)).heap.size) := HB.out.size
    have hzb : ([] : List Int).length + zs.length ≤ 70368744177664 := by rw [← hzl]; simp; omega
    clear h hzl
    go_enter Tryd.func44, Tryd.ntmps44
    go_wp2_with (at_builtin; refine wpList_append_rd rfl _ _ rfl w.heap.size _ [] rfl HO.out a n c zs rfl HR.out hzb HZ.out ?_)
    intro v3 w3 hO3 hg3
    have O3 : Hid (Ob w3 w.heap.size v3 zs) := by show Ob _ _ _ _; simpa using hO3
    have B3 : Hid (Below w.heap.size w w3) := HB.out.trans ((only_of_grown hg3 (R := fun y => (Value.slice (some ⟨w.heap.size, 0, none⟩) 0 0).ownBlock = some y) (fun k e => e)).below HZ.out (fun b hb e => by have := (World.ownsRow.lt HO.out b e).1; omega))
    obtain ⟨a3, c3, rfl⟩ := hO3.shape
    clear hO3 hg3 HO HB HR
    by_cases h5 : n = 512
    · have h5' : ((n : Int) == 512) = true := by simp; omega
      have HT : Hid (shOk zs = true) := by show _ = true; rw [HS.out.1, decide_eq_true h5]
      subst h5
      go_wp2
      go_ret2
      exact ⟨_, _, _, by rw [HT.out]; rfl, by rw [HS.out.2]; exact O3.out, B3.out⟩
    · have h5' : ((n : Int) == 512) = false := by simp; omega
      have h5'' : ¬ (n : Int) = 512 := by omega
      have HT : Hid (shOk zs = false) := by show _ = false; rw [HS.out.1, decide_eq_false h5]
      go_wp2
      go_ret2
      exact ⟨_, _, _, by rw [HT.out]; rfl, by rw [HS.out.2]; exact O3.out, B3.out⟩
theorem tr_step {old new : List Int} (ho : old.length = 512) (hn : new.length = 512) {j : Nat} (hj : j < 512) : (trB old new (j : Int)).set j (new[j]?.getD 0) = trB old new ((j + 1 : Nat) : Int) := by
  unfold trB
  rw [Int.toNat_natCast, Int.toNat_natCast]
  have hl : (new.take j).length = j := by rw [List.length_take]; omega
  have hd : old.drop j = (old[j]?.getD 0) :: old.drop (j + 1) := by
    rw [List.drop_eq_getElem_cons (by omega)]; simp [show j < old.length by omega]
  have ht : new.take (j + 1) = new.take j ++ [new[j]?.getD 0] := by
    rw [List.take_succ_eq_append_getElem (by omega)]; simp [show j < new.length by omega]
  rw [List.set_append_right _ _ (by omega), hl, Nat.sub_self, hd, List.set_cons_zero, ht, List.append_assoc]
  rfl
theorem tr_len {old new : List Int} (ho : old.length = 512) (hn : new.length = 512) (n : Int) : (trB old new n).length = 512 := by
  rw [trB, List.length_append, List.length_take, List.length_drop]
  omega
theorem tr_full {old new : List Int} (ho : old.length = 512) (hn : new.length = 512) {n : Int} (h : 512 ≤ n) : trB old new n = trB old new ((512 : Nat) : Int) := by
  rw [trB, trB, List.take_of_length_le (by omega), List.drop_eq_nil_of_le (by omega), List.take_of_length_le (by omega), List.drop_eq_nil_of_le (by omega)]
theorem tr_stop {old new : List Int} {n : Int} {j : Nat} (h : n ≤ (j : Int)) (h2 : j = 0 ∨ (j : Int) ≤ n) : trB old new n = trB old new (j : Int) := by
  have e : n.toNat = j := by omega
  rw [trB, trB, e, Int.toNat_natCast]
def TePost (o : Option (List Int)) (w : World) (e : Ending) (w' : World) : Prop := Below w.heap.size w w' ∧ ((o = none ∧ e = .returned (.slice none 0 0)) ∨ ∃ v zs, o = some zs ∧ e = .returned v ∧ Ob w' w.heap.size v zs)
set_option maxHeartbeats 2000000 in
theorem specTear_any (a : Option Addr) (n c : Nat) (xs : List Int) (b : Option Addr) (m d : Nat) (ys : List Int) (t : Int) (w : World) (hx : Rd w a n c xs) (hy : Rd w b m d ys) (hn : n ≤ 1048576) (hm : m ≤ 1048576) :
    Calls Tryd.prog 37 #[.slice a n c, .slice b m d, .int .i64 t] w fun e w' => TePost (tearV xs ys t) w e w' := by
  have HY := hid hy
  have HX := hid hx
  have HT : Hid (tearV xs ys t = if shOk xs = true ∧ shOk ys = true then some (trB (sheet xs) (sheet ys) t) else none) := rfl
  clear hx hy
  go_enter Tryd.func37, Tryd.ntmps37
  go_wp2_with fail
  refine (sheet_any a n c xs _ HX.out hn).mono ?_
  rintro e w1 ⟨a1, n1, c1, rfl, hO1, hb1⟩
  have HY1 := hid (HY.out.kept hb1)
  have O1 := hid hO1
  have B1 := hid hb1
  clear hO1 hb1
  go_wp2_with fail
  refine (sheet_any b m d ys _ HY1.out hm).mono ?_
  rintro e w2 ⟨a2, n2, c2, rfl, hO2, hb2⟩
  have O1' := hid (O1.out.keepT hb2)
  have O2 := hid hO2
  have B2 : Hid (Below w.heap.size w w2) := B1.out.trans (hb2.mono B1.out.size)
  have HSEP : Hid (∀ y, (Value.slice a1 n1 c1).ownBlock = some y → y < w1.heap.size) := fun y e => (World.ownsRow.lt O1.out y e).2
  clear hO2 hb2 O1 B1 HY1
  cases h1 : shOk xs with
  | false =>
    have HN : Hid (tearV xs ys t = none) := by show _ = _; rw [HT.out, if_neg (by rw [h1]; simp)]
    go_wp2
    go_ret
    exact ⟨B2.out, .inl ⟨HN.out, rfl⟩⟩
  | true =>
    cases h2 : shOk ys with
    | false =>
      have HN : Hid (tearV xs ys t = none) := by show _ = _; rw [HT.out, if_neg (by rw [h2]; simp)]
      go_wp2
      go_ret
      exact ⟨B2.out, .inl ⟨HN.out, rfl⟩⟩
    | true =>
      have HN : Hid (tearV xs ys t = some (trB (sheet xs) (sheet ys) t)) := by show _ = _; rw [HT.out, if_pos ⟨h1, h2⟩]
      have HL1 := hid (sheet_len h1)
      have HL2 := hid (sheet_len h2)
      clear HT h1 h2
      generalize sheet xs = xs' at *
      generalize sheet ys = ys' at *
      obtain ⟨n1e, n2e⟩ : n1 = 512 ∧ n2 = 512 := by
        obtain ⟨_, _, e1⟩ := O1'.out.shape
        obtain ⟨_, _, e2⟩ := O2.out.shape
        cases e1; cases e2
        exact ⟨HL1.out, HL2.out⟩
      subst n1e n2e
      obtain ⟨g1, e1, hB1, -, hc1, hc1', -, -⟩ := O1'.out.at (by omega)
      obtain ⟨g2, e2, hB2, -, hc2, hc2', -, -⟩ := O2.out.at (by omega)
      subst e1 e2
      have HNE : Hid (g1 ≠ g2) := by have := HSEP.out g1 rfl; show _ ≠ _; omega
      have O0 : Hid (Ob w2 w.heap.size (.slice (some ⟨g1, 0, none⟩) 512 c1) (trB xs' ys' ((0 : Nat) : Int))) := by show Ob _ _ _ _; simpa [trB] using O1'.out
      have HG1 := hid hB1
      have O2' : Hid (Ob w2 0 (.slice (some ⟨g2, 0, none⟩) 512 c2) ys') := by
        refine ⟨O2.out.1, O2.out.2.imp id ?_⟩
        rintro ⟨g, cap, cur, k1, k2, k3⟩
        exact ⟨g, cap, cur, k1, Nat.zero_le _, k3⟩
      clear O1' O2 HSEP hB1 hB2
      go_wp2_with fail
      go_loopw [11] (fun i wr => ∃ (j : Nat), j ≤ 512 ∧ i = .int .i64 j ∧ (j = 0 ∨ (j : Int) ≤ t) ∧ Hid (Ob wr w.heap.size (.slice (some ⟨g1, 0, none⟩) 512 c1) (trB xs' ys' (j : Int))) ∧ Hid (Ob wr 0 (.slice (some ⟨g2, 0, none⟩) 512 c2) ys') ∧ Hid (Below w.heap.size w wr)) (fun i _ => 512 - (intOf i).toNat)
      case atStart => exact ⟨0, by omega, rfl, .inl rfl, O0.out, O2'.out, B2.out⟩
      case round =>
        obtain ⟨j, hj, rfl, hjt, P1, P2, B3⟩ := hrel
        clear O0 O2' B2
        by_cases q1 : (j : Int) < 512
        · by_cases q2 : (j : Int) < t
          · obtain ⟨g, e, -, hl, -, -, hf, hcell⟩ := P1.out.at (by omega)
            cases e
            obtain ⟨g, e, -, hl2, -, -, -, hcell2⟩ := P2.out.at (by omega)
            cases e
            have m1 := hcell j (by omega)
            have m2 := hcell2 j (by omega)
            have f1 := hf j
            have HST := hid (tr_step HL1.out HL2.out (show j < 512 by omega))
            have P1' : Hid (Ob (wr.setCell ⟨g1, j, none⟩ (.int .u8 (ys'[j]?.getD 0))) w.heap.size (.slice (some ⟨g1, 0, none⟩) 512 c1) (trB xs' ys' ((j + 1 : Nat) : Int))) := by
              show Ob _ _ _ _
              rw [← HST.out]
              exact P1.out.setB j _
            have P2' : Hid (Ob (wr.setCell ⟨g1, j, none⟩ (.int .u8 (ys'[j]?.getD 0))) 0 (.slice (some ⟨g2, 0, none⟩) 512 c2) ys') := own_kept P2.out (only_set (R := fun y => y = g1) rfl _) (fun k e e2 => by cases e; exact HNE.out e2.symm)
            have B3' : Hid (Below w.heap.size w (wr.setCell ⟨g1, j, none⟩ (.int .u8 (ys'[j]?.getD 0)))) := B3.out.setCell (p := ⟨g1, j, none⟩) HG1.out _
            clear hcell hcell2 hf P1 P2 B3 HST hl hl2
            generalize ys'[j]?.getD 0 = z at *
            generalize (trB xs' ys' (j : Int))[j]?.getD 0 = z2 at *
            go_wp2
            go_roundw
            case rel => exact ⟨j + 1, by omega, by go_num, .inr (by omega), P1'.out, P2'.out, B3'.out⟩
            case measure => simp [intOf]; omega
          · have HE : Hid (trB xs' ys' t = trB xs' ys' (j : Int)) := tr_stop (by omega) hjt
            clear hjt
            go_wp2
            go_ret
            exact ⟨B3.out, .inr ⟨_, _, by rw [HN.out, HE.out], rfl, P1.out⟩⟩
        · obtain rfl : j = 512 := by omega
          have HE : Hid (trB xs' ys' t = trB xs' ys' ((512 : Nat) : Int)) := tr_full HL1.out HL2.out (by omega)
          go_wp2
          go_ret
          exact ⟨B3.out, .inr ⟨_, _, by rw [HN.out, HE.out], rfl, P1.out⟩⟩
end Go.Proofs.YtcpdedpgjaimkaaDoor
/-
  DiskCrash of the specification.
-/
namespace Go.Proofs.YtcpdedpgjaimkaaDoor
open Go.RowKit
set_option linter.unusedVariables false
def teaV (a b : List Int) (n : Int) : List Int := (tearV a b n).getD []
/-- The sheets when k of the writes have been torn over them. -/
def crS (ss : List (List Int)) (ds : List DW) (keep : List Int) : Nat → List (List Int)
  | 0 => ss
  | k + 1 => if 0 < iAt keep k then (crS ss ds keep k).set (dwAt ds k).1.toNat (teaV (shAt (crS ss ds keep k) (dwAt ds k).1.toNat) (dwAt ds k).2 (iAt keep k)) else crS ss ds keep k
theorem crS_len (ss : List (List Int)) (ds : List DW) (keep : List Int) (k : Nat) : (crS ss ds keep k).length = ss.length := by
  induction k with
  | zero => rfl
  | succ k ih =>
    rw [crS]
    split
    · rw [List.length_set]; exact ih
    · exact ih
def dcV (d : DK) (keep : List Int) : DK := if dkOk d = true then ⟨crS d.sh d.dw keep d.dw.length, []⟩ else emD
theorem trB_byt {a b : List Int} (ha : byt a) (hb : byt b) (n : Int) (hl : b.length = a.length) : byt (trB a b n) := by
  intro i
  unfold trB
  by_cases hi : i < (b.take n.toNat).length
  · rw [List.getElem?_append_left hi, List.getElem?_take_of_lt (by simp at hi; omega)]
    exact hb i
  · rw [List.getElem?_append_right (by omega), List.getElem?_drop]
    exact ha _
theorem byt_sht {l : List Int} (h : byt l) : byt (sheet l) := by
  unfold sheet
  split
  · intro i
    rw [List.getElem?_replicate]
    split <;> exact ⟨by decide, by decide⟩
  · exact h
theorem tea_facts {a b : List Int} (ha : byt a) (hb : byt b) (n : Int) : byt (teaV a b n) ∧ (teaV a b n).length ≤ 512 ∧ (shtOk a = true → shtOk b = true → teaV a b n = trB (sheet a) (sheet b) n ∧ (teaV a b n).length = 512) := by
  unfold teaV tearV
  split
  · rename_i hh
    rw [Option.getD_some]
    have e1 := sheet_len hh.1
    have e2 := sheet_len hh.2
    exact ⟨trB_byt (byt_sht ha) (byt_sht hb) n (by omega), by rw [tr_len e1 e2]; omega, fun _ _ => ⟨rfl, tr_len e1 e2 n⟩⟩
  · rename_i hh
    exact ⟨fun i => by simp, by simp, fun h1 h2 => absurd ⟨h1, h2⟩ hh⟩
/-- What holds of every sheet as the crash goes on. -/
theorem crS_facts {d : DK} (hok : dkOk d = true) (hb : (∀ i, byt (shAt d.sh i)) ∧ ∀ i, byt (dwAt d.dw i).2) (keep : List Int) : ∀ k, k ≤ d.dw.length → ∀ i, byt (shAt (crS d.sh d.dw keep k) i) ∧ (i < d.sh.length → shtOk (shAt (crS d.sh d.dw keep k) i) = true) := by
  have hk := (dkOk_iff d).1 hok
  intro k
  induction k with
  | zero => intro _ i; exact ⟨hb.1 i, fun hi => hk.2.2.2.1 i hi⟩
  | succ k ih =>
    intro hkl i
    have hw := (wrtOk_iff _ _).1 (hk.2.2.2.2 k (by omega))
    rw [crS]
    split
    · by_cases e : i = (dwAt d.dw k).1.toNat
      · subst e
        rw [shAt_set (by rw [crS_len]; omega)]
        have hs := ih (by omega) (dwAt d.dw k).1.toNat
        have ht := tea_facts hs.1 (hb.2 k) (iAt keep k)
        refine ⟨ht.1, fun hi => (shtOk_iff _).2 (.inr (ht.2.2 (hs.2 (by omega)) ((shtOk_iff _).2 (.inr hw.2.2))).2)⟩
      · rw [shAt_other e]
        exact ih (by omega) i
    · exact ih (by omega) i
theorem dcV_small {d : DK} (hb : (∀ i, byt (shAt d.sh i)) ∧ ∀ i, byt (dwAt d.dw i).2) (keep : List Int) : smallD (dcV d keep) ∧ dkTot (dcV d keep) ≤ 4194304 := by
  unfold dcV
  split
  · rename_i hok
    have hk := (dkOk_iff d).1 hok
    have hl : ∀ i, (shAt (crS d.sh d.dw keep d.dw.length) i).length ≤ 512 := by
      intro i
      by_cases hi : i < d.sh.length
      · have := (shtOk_iff _).1 ((crS_facts hok hb keep d.dw.length (Nat.le_refl _) i).2 hi)
        omega
      · simp [shAt, show (crS d.sh d.dw keep d.dw.length).length ≤ i by rw [crS_len]; omega]
    refine ⟨⟨fun i hi => by have := hl i; simp only at this ⊢; omega, fun i hi => by simp at hi⟩, ?_⟩
    have ho : ∀ n, offS (crS d.sh d.dw keep d.dw.length) n ≤ n * 512 := by
      intro n
      induction n with
      | zero => simp [offS]
      | succ n ih => rw [offS]; have := hl n; omega
    have h1 := ho d.sh.length
    simp only [dkTot, crS_len, List.length_nil, offW]
    omega
  · exact ⟨⟨fun i hi => by simp [emD] at hi, fun i hi => by simp [emD] at hi⟩, by simp [emD, dkTot, offS, offW]⟩
theorem dcV_bytes {d : DK} (hb : (∀ i, byt (shAt d.sh i)) ∧ ∀ i, byt (dwAt d.dw i).2) (keep : List Int) : (∀ i, byt (shAt (dcV d keep).sh i)) ∧ ∀ i, byt (dwAt (dcV d keep).dw i).2 := by
  unfold dcV
  split
  · rename_i hok
    exact ⟨fun i => (crS_facts hok hb keep d.dw.length (Nat.le_refl _) i).1, fun i => by simp [dwAt]; exact fun j => by simp⟩
  · exact ⟨fun i => by simp [emD, shAt]; exact fun j => by simp, fun i => by simp [emD, dwAt]; exact fun j => by simp⟩
theorem Dk.bytes' {w : World} {S : Nat → Prop} {sa : Option Addr} {sn sc : Nat} {da : Option Addr} {dn dc : Nat} {d : DK} (h : Dk w S sa sn sc da dn dc d) : (∀ i, byt (shAt d.sh i)) ∧ ∀ i, byt (dwAt d.dw i).2 := by
  obtain ⟨V, h1, h2, h3⟩ := h.hs
  obtain ⟨U, k1, k2, k3⟩ := h.hd
  refine ⟨fun i => ?_, fun i => ?_⟩
  · by_cases hi : i < d.sh.length
    · exact (h3 i hi).2
    · rw [show shAt d.sh i = [] by simp [shAt, show d.sh.length ≤ i by omega]]; exact fun j => by simp
  · by_cases hi : i < d.dw.length
    · exact (k3 i hi).2.2
    · rw [show dwAt d.dw i = (0, []) by simp [dwAt, show d.dw.length ≤ i by omega]]; exact fun j => by simp
theorem specTear_at (a : Option Addr) (n c : Nat) (xs : List Int) (b : Option Addr) (m d : Nat) (ys : List Int) (t : Int) (w : World) (hx : Rd w a n c xs) (hy : Rd w b m d ys) (hn : n ≤ 1048576) (hm : m ≤ 1048576) :
    Calls Tryd.prog 37 #[.slice a n c, .slice b m d, .int .i64 t] w fun e w' => ∃ a' n' c', e = .returned (.slice a' n' c') ∧ Ob w' w.heap.size (.slice a' n' c') (teaV xs ys t) ∧ Below w.heap.size w w' := by
  refine (specTear_any a n c xs b m d ys t w hx hy hn hm).mono ?_
  rintro e w' ⟨hb, hor⟩
  rcases hor with ⟨ho, rfl⟩ | ⟨v, zs, ho, rfl, hO⟩
  · exact ⟨none, 0, 0, rfl, by rw [teaV, ho]; exact World.ownsRow_nil _ _ _ _, hb⟩
  · obtain ⟨a', c', rfl⟩ := hO.shape
    exact ⟨a', _, c', rfl, by rw [teaV, ho]; exact hO, hb⟩
/-- The boxes of the specification's crash: the disk, the result, what comes. -/
structure KX (w v : World) (sa : Option Addr) (sn sc : Nat) (da : Option Addr) (dn dc : Nat) (bo B : Nat) (xa : Option Addr) (xn xc : Nat) (V : List Value) (ss : List (List Int)) : Prop where
  bel : Below w.heap.size w v
  k0 : Bk v w.heap.size 26 [.slice sa sn sc, .slice da dn dc]
  k1 : Bk v (w.heap.size + 1) 26 [.slice none 0 0, .slice none 0 0]
  k2 : Bk v bo 26 [.slice xa xn xc, .slice none 0 0]
  own : SOw v B (.slice xa xn xc) V ss
  lo : w.heap.size + 1 < B
  lb : w.heap.size + 1 < bo
  nb : ∀ y, sbl (.slice xa xn xc) V y → y ≠ bo
theorem KX.below {w v v' : World} {sa : Option Addr} {sn sc : Nat} {da : Option Addr} {dn dc : Nat} {bo B : Nat} {xa : Option Addr} {xn xc : Nat} {V : List Value} {ss : List (List Int)} (h : KX w v sa sn sc da dn dc bo B xa xn xc V ss) (hb : Below v.heap.size v v') : KX w v' sa sn sc da dn dc bo B xa xn xc V ss :=
  ⟨bt7 h.bel hb, h.k0.below hb, h.k1.below hb, h.k2.below hb, h.own.below hb, h.lo, h.lb, h.nb⟩
theorem KX.put {w v u : World} {sa : Option Addr} {sn sc : Nat} {da : Option Addr} {dn dc : Nat} {bo B g : Nat} {xn xc : Nat} {V : List Value} {ss : List (List Int)} {p : Value} {x : List Int} {k : Nat} (h : KX w v sa sn sc da dn dc bo B (some ⟨g, 0, none⟩) xn xc V ss) (hb : Below v.heap.size v u) (hp : Ob u v.heap.size p x) (hx : byt x) (hk : k < ss.length) :
    KX w (u.setCell ⟨g, k, none⟩ p) sa sn sc da dn dc bo B (some ⟨g, 0, none⟩) xn xc (V.set k p) (ss.set k x) := by
  have hu := h.below hb
  have hg : B ≤ g ∧ g < v.heap.size := World.ownsRow.lt h.own.row g rfl
  have hlo := h.lo
  have hgb : g ≠ bo := h.nb g (.inl rfl)
  have o3 : Only (fun y => y = g) u (u.setCell ⟨g, k, none⟩ p) := only_set (R := fun y => y = g) rfl _
  refine ⟨hu.bel.setCell (p := ⟨g, k, none⟩) (by show w.heap.size ≤ g; omega) _, hu.k0.setOther (by omega) _ _, hu.k1.setOther (by omega) _ _, hu.k2.setOther (Ne.symm hgb) _ _, ?_, h.lo, h.lb, ?_⟩
  · exact h.own.upd hk rfl hb hp hx (by have := h.own.lt (y := g) (.inl rfl); omega) o3 (ownD_set hu.own.row k p)
  · intro y hy
    rcases hy with e | ⟨i, hi, e⟩
    · exact h.nb y (.inl e)
    · rw [List.length_set] at hi
      by_cases e2 : i = k
      · subst e2
        rw [uAt_set hi] at e
        have h1 := (World.ownsRow.lt hp y e).1
        have h2 := h.k2.lt
        omega
      · rw [uAt_other e2] at e
        exact h.nb y (.inr ⟨i, hi, e⟩)
end Go.Proofs.YtcpdedpgjaimkaaDoor
/-
  DiskCrash of the specification: its walk.
-/
namespace Go.Proofs.YtcpdedpgjaimkaaDoor
open Go.RowKit
set_option linter.unusedVariables false
set_option maxHeartbeats 16000000 in
set_option maxRecDepth 20000 in
theorem specDiskCrash_any (S S2 : Nat → Prop) (sa : Option Addr) (sn sc : Nat) (da : Option Addr) (dn dc : Nat) (d : DK) (ka : Option Addr) (kn kc : Nat) (keep : List Int) (w : World) (h : Dk w S sa sn sc da dn dc d) (hsm : smallD d) (h1 : sn ≤ 1048576) (h2 : dn ≤ 1048576) (hk : Ir w S2 (.slice ka kn kc) keep) :
    Calls Tryd.prog 29 #[.agg #[.slice sa sn sc, .slice da dn dc], .slice ka kn kc] w fun e w' => DkPost1 (dcV d keep) w e w' := by
  have HH := hid h
  have HSM := hid hsm
  have HKE := hid hk
  have HBY := hid h.bytes'
  obtain ⟨hkl, hkc, hkc'⟩ := Rw.len hk
  have HKL := hid hkl
  have hsc := h.hs.len.2
  have hdc := h.hd.len.2
  have HNS := hid h.hs.len.1
  have HND := hid h.hd.len.1
  have HB0 : Hid (Below w.heap.size w ((w.alloc (.cells #[.slice sa sn sc, .slice da dn dc] 26)).alloc (.cells #[.slice none 0 0, .slice none 0 0] 26))) := below_new (below_new (Below.refl _ _))
  have K0 := hid ((Bk.new w 26 [.slice sa sn sc, .slice da dn dc]).alloc (.cells #[.slice none 0 0, .slice none 0 0] 26))
  have K1 : Hid (Bk ((w.alloc (.cells #[.slice sa sn sc, .slice da dn dc] 26)).alloc (.cells #[.slice none 0 0, .slice none 0 0] 26)) (w.heap.size + 1) 26 [.slice none 0 0, .slice none 0 0]) := by
    have := Bk.new (w.alloc (.cells #[.slice sa sn sc, .slice da dn dc] 26)) 26 [.slice none 0 0, .slice none 0 0]
    show Bk _ _ _ _
    simpa using this
  have HOK := hid (specDiskOk_any S sa sn sc da dn dc d _ (h.below HB0.out))
  have HDV : Hid (dcV d keep = if dkOk d = true then ⟨crS d.sh d.dw keep d.dw.length, []⟩ else emD) := rfl
  clear h hsm hk hkl
  go_enter Tryd.func29, Tryd.ntmps29
  go_wp2_with fail
  refine HOK.out.mono ?_
  generalize (w.alloc (.cells #[.slice sa sn sc, .slice da dn dc] 26)).alloc (.cells #[.slice none 0 0, .slice none 0 0] 26) = W0 at *
  rintro e w1 ⟨rfl, hb⟩
  have J0 := hid (K0.out.below hb)
  have J1 := hid (K1.out.below hb)
  have B1 := hid (bt7 HB0.out hb)
  clear hb HB0 K0 K1 HOK
  cases hok : dkOk d with
  | false =>
    have HF : Hid (dcV d keep = emD) := by show _ = _; rw [HDV.out, hok]; rfl
    have r0 := J1.out.cell (j := 0) rfl
    have r1 := J1.out.cell (j := 1) rfl
    have f0 := J1.out.free 0
    have f1 := J1.out.free 1
    go_wp2
    try simp only [Exit.inBlock, Exit.then]
    refine bodyPost_ret (v := .agg #[.slice none 0 0, .slice none 0 0]) ?_ rfl ?_
    · exact results_dsk rfl _ _ _ rfl (by go_simp) (by go_simp)
    · rw [HF.out]
      exact ⟨_, _, _, _, _, _, _, _, rfl, do_nil _ _, (B1.out.setCell (p := ⟨w.heap.size + 1, 0, none⟩) (Nat.le_succ _) _).setCell (p := ⟨w.heap.size + 1, 1, none⟩) (Nat.le_succ _) _⟩
  | true =>
    have HF : Hid (dcV d keep = ⟨crS d.sh d.dw keep d.dw.length, []⟩) := by show _ = _; rw [HDV.out, hok]; rfl
    have HOK := hid hok
    clear hok HDV
    have d0 := J0.out.cell (j := 0) rfl
    have d1 := J0.out.cell (j := 1) rfl
    go_wp2_with fail
    refine (l05Copy_any S sa sn sc da dn dc d _ (HH.out.below B1.out) HSM.out h1 h2).mono ?_
    rintro e w2 ⟨xa, xn, xc, ya, yn, yc, V, Uu, rfl, hO, hb⟩
    have hsn : 2 ≤ sn ∧ sn ≤ 400 := by have := (dkOk_iff d).1 HOK.out; rw [HNS.out]; exact ⟨this.1, this.2.1⟩
    have hxn : xn = sn := by rw [HNS.out]; exact (own_at hO.hs.row).1
    have hxc := (own_at hO.hs.row).2.1
    have hxc' := (own_at hO.hs.row).2.2.1
    subst hxn
    obtain ⟨g, rfl, -⟩ := (own_at hO.hs.row).2.2.2 (by omega)
    have hbn := below_new (o := .cells #[.slice (some ⟨g, 0, none⟩) xn xc, .slice none 0 0] 26) (w := w2) (Below.refl _ _)
    have KK0 : Hid (KX w (w2.alloc (.cells #[.slice (some ⟨g, 0, none⟩) xn xc, .slice none 0 0] 26)) sa xn sc da dn dc w2.heap.size w1.heap.size (some ⟨g, 0, none⟩) xn xc V (crS d.sh d.dw keep 0)) :=
      ⟨bt7 (bt7 B1.out hb) hbn, (J0.out.below hb).below hbn, (J1.out.below hb).below hbn, Bk.new w2 _ [_, _], hO.hs.below hbn, J1.out.lt, Nat.lt_of_lt_of_le J1.out.lt hb.size, fun y hy => by have := (hO.hs.lt hy).2; omega⟩
    have d1b := KK0.out.k0.cell (j := 1) rfl
    clear hb hbn hO J0 J1 B1 d0 d1
    go_wp2_with fail
    clear d1b
    generalize w2.heap.size = bo at *
    generalize w1.heap.size = B at *
    go_loopw [19] (fun i wr => ∃ (k : Nat) (V : List Value), k ≤ dn ∧ i = .int .i64 k ∧ Hid (KX w wr sa xn sc da dn dc bo B (some ⟨g, 0, none⟩) xn xc V (crS d.sh d.dw keep k))) (fun i _ => dn - (intOf i).toNat)
    case atStart => exact ⟨0, V, Nat.zero_le _, rfl, KK0.out⟩
    case round =>
      clear KK0
      obtain ⟨k, V, hk, rfl, KK⟩ := hrel
      by_cases hlt : k < dn
      · have hlt' : (k : Int) < (dn : Int) := by omega
        obtain ⟨b, off, rfl, _, hbw, hcell⟩ := (HH.out.hd.below KK.out.bel).at (by omega)
        obtain ⟨ap, np, cp, mt, m0, hp⟩ := hcell k hlt
        have hkl : k < d.dw.length := by rw [← HND.out]; exact hlt
        have hwk := (wrtOk_iff _ _).1 (((dkOk_iff d).1 HOK.out).2.2.2.2 k hkl)
        obtain ⟨u, hu⟩ : ∃ u : Nat, (dwAt d.dw k).1 = (u : Int) := ⟨(dwAt d.dw k).1.toNat, by omega⟩
        have hus : u < xn := by rw [HNS.out]; omega
        rw [hu] at mt
        have hnp : np ≤ 1048576 := by have := hp.len.1; have := hwk.2.2; omega
        have HPR := hid hp
        have HCR : Hid (crS d.sh d.dw keep (k + 1) = if 0 < iAt keep k then (crS d.sh d.dw keep k).set u (teaV (shAt (crS d.sh d.dw keep k) u) (dwAt d.dw k).2 (iAt keep k)) else crS d.sh d.dw keep k) := by
          show _ = _
          rw [crS, hu]
          rfl
        have hb0 := below_new (o := .cells #[.int .i64 (u : Int), .slice ap np cp] 43) (w := wr) (Below.refl _ _)
        have KU := hid (KK.out.below hb0)
        have HFA := hid (crS_facts HOK.out HBY.out keep k (by omega) u)
        have HB2 := hid (HBY.out.2 k)
        have SS : Hid (bo < wr.heap.size) := KK.out.k2.lt
        have SG : Hid (g < wr.heap.size) := (World.ownsRow.lt KK.out.own.row g rfl).2
        clear hcell hbw hp hwk hu
        by_cases hkk : k < kn
        · have hkk' : (k : Int) < (kn : Int) := by omega
          obtain ⟨kb, koff, rfl, _, hkb, hkcell⟩ := Ir.at (HKE.out.below KK.out.bel) (by omega)
          have n0 := hkcell k hkk
          have n0' : (wr.alloc (.cells #[.int .i64 (u : Int), .slice ap np cp] 43)).cell? ⟨kb, koff + k, none⟩ = some (.int .i64 (iAt keep k)) := (World.cell?_of_block (w := wr) (a := ⟨kb, koff + k, none⟩) (hb0.block kb hkb)).trans n0
          clear hkcell
          generalize iAt keep k = q at *
          by_cases hq : 0 < q
          · have HCR2 : Hid (crS d.sh d.dw keep (k + 1) = (crS d.sh d.dw keep k).set u (teaV (shAt (crS d.sh d.dw keep k) u) (dwAt d.dw k).2 q)) := by show _ = _; rw [HCR.out, if_pos hq]
            have hul : u < (crS d.sh d.dw keep k).length := by rw [crS_len, ← HNS.out]; exact hus
            have hso := KK.out.own.own u hul
            obtain ⟨a3, c3, e3⟩ := hso.1.shape
            have hvl : u < V.length := by rw [KK.out.own.len]; exact hul
            have hl3 : (shAt (crS d.sh d.dw keep k) u).length ≤ 512 := by have := (shtOk_iff _).1 (HFA.out.2 (by rw [← HNS.out]; exact hus)); omega
            have HRS : Hid (Rd wr a3 (shAt (crS d.sh d.dw keep k) u).length c3 (shAt (crS d.sh d.dw keep k) u)) := by
              obtain ⟨a', c', e', hr, _⟩ := Ob.rd hso.1 hso.2 (by omega)
              rw [e3] at e'
              cases e'
              exact hr
            have HBX : Hid (∀ z, Below (wr.alloc (.cells #[.int .i64 (u : Int), .slice ap np cp] 43)).heap.size (wr.alloc (.cells #[.int .i64 (u : Int), .slice ap np cp] 43)) z → z.cell? ⟨bo, 0, none⟩ = some (.slice (some ⟨g, 0, none⟩) xn xc) ∧ z.cell? ⟨wr.heap.size, 0, none⟩ = some (.int .i64 (u : Int)) ∧ z.cell? ⟨g, u, none⟩ = some (.slice a3 (shAt (crS d.sh d.dw keep k) u).length c3) ∧ z.frozen? ⟨g, u, none⟩ = false) := fun z hz => by
              have c := KU.out.below hz
              obtain ⟨-, -, -, hr⟩ := own_at c.own.row
              obtain ⟨g', e', -, -, hf, hcell⟩ := hr (by omega)
              cases e'
              refine ⟨c.k2.cell (j := 0) rfl, ((Bk.new wr 43 [.int .i64 (u : Int), .slice ap np cp]).below hz).cell (j := 0) rfl, ?_, hf u⟩
              have := hcell u _ (uAt_some hvl)
              rwa [e3] at this
            have HTE : Hid (∀ z, Below (wr.alloc (.cells #[.int .i64 (u : Int), .slice ap np cp] 43)).heap.size (wr.alloc (.cells #[.int .i64 (u : Int), .slice ap np cp] 43)) z → Calls Tryd.prog 37 #[.slice a3 (shAt (crS d.sh d.dw keep k) u).length c3, .slice ap np cp, .int .i64 q] z fun e w' => ∃ a' n' c', e = .returned (.slice a' n' c') ∧ Ob w' z.heap.size (.slice a' n' c') (teaV (shAt (crS d.sh d.dw keep k) u) (dwAt d.dw k).2 q) ∧ Below z.heap.size z w') := fun z hz =>
              specTear_at _ _ _ _ _ _ _ _ q z (HRS.out.kept (bt7 hb0 hz)) ((HPR.out.rd (by omega)).kept (bt7 hb0 hz)) (by omega) (by omega)
            have HFIN : Hid (∀ (w4 : World) (a4 : Option Addr) (n4 c4 : Nat), Ob w4 (wr.alloc (.cells #[.int .i64 (u : Int), .slice ap np cp] 43)).heap.size (.slice a4 n4 c4) (teaV (shAt (crS d.sh d.dw keep k) u) (dwAt d.dw k).2 q) → Below (wr.alloc (.cells #[.int .i64 (u : Int), .slice ap np cp] 43)).heap.size (wr.alloc (.cells #[.int .i64 (u : Int), .slice ap np cp] 43)) w4 → KX w (w4.setCell ⟨g, u, none⟩ (.slice a4 n4 c4)) sa xn sc (some ⟨b, off, none⟩) dn dc bo B (some ⟨g, 0, none⟩) xn xc (V.set u (.slice a4 n4 c4)) (crS d.sh d.dw keep (k + 1))) := fun w4 a4 n4 c4 hO4 hb4 => by
              rw [HCR2.out]
              exact KU.out.put hb4 hO4 (tea_facts HFA.out.1 HB2.out q).1 hul
            have HS4 : Hid (∀ z, Below (wr.alloc (.cells #[.int .i64 (u : Int), .slice ap np cp] 43)).heap.size (wr.alloc (.cells #[.int .i64 (u : Int), .slice ap np cp] 43)) z → g < z.heap.size ∧ bo < z.heap.size ∧ wr.heap.size < z.heap.size) := fun z hz => by have h1 := hz.size; have h2 := SS.out; have h3 := SG.out; simp at h1; omega
            have bb0 := (HBX.out _ (Below.refl _ _)).1
            have gg0 := (HBX.out _ (Below.refl _ _)).2.2.1
            have bb1 := KK.out.k2.cell (j := 0) rfl
            have gg1 : wr.cell? ⟨g, u, none⟩ = some (.slice a3 (shAt (crS d.sh d.dw keep k) u).length c3) := by
              obtain ⟨-, -, -, hr⟩ := own_at KK.out.own.row
              obtain ⟨g', e', -, -, hf, hcell⟩ := hr (by omega)
              cases e'
              have := hcell u _ (uAt_some hvl)
              rwa [e3] at this
            have HS3 : Hid (∀ z, Below (wr.alloc (.cells #[.int .i64 (u : Int), .slice ap np cp] 43)).heap.size (wr.alloc (.cells #[.int .i64 (u : Int), .slice ap np cp] 43)) z → z.cell? ⟨bo, 0, none⟩ = some (.slice (some ⟨g, 0, none⟩) xn xc) ∧ z.cell? ⟨wr.heap.size, 0, none⟩ = some (.int .i64 (u : Int)) ∧ z.cell? ⟨wr.heap.size, 1, none⟩ = some (.slice ap np cp)) := fun z hz => ⟨(HBX.out z hz).1, (HBX.out z hz).2.1, ((Bk.new wr 43 [.int .i64 (u : Int), .slice ap np cp]).below hz).cell (j := 1) rfl⟩
            have HS0 := hid (HS3.out _ (below_drew (wr.alloc (.cells #[.int .i64 (u : Int), .slice ap np cp] 43))))
            have g1 : ¬ g = bo := KK.out.nb g (.inl rfl)
            have g2 : ¬ bo = g := fun e => g1 e.symm
            have g3 : ¬ g = wr.heap.size := by have := SG.out; omega
            have g4 : ¬ wr.heap.size = g := fun e => g3 e.symm
            have s1 := SS.out
            have s2 := SG.out
            have hus' : (u : Int) < (xn : Int) := by omega
            clear hso e3 HRS HCR HCR2 KK hb0 HFA HB2 HPR hul hvl hl3 n0'
            generalize (shAt (crS d.sh d.dw keep k) u).length = L3 at *
            go_wp2_with fail
            refine wp_region_noPanic ?_
            refine wp_region_held_drew (S := (fun v => v.cell? ⟨bo, 0, none⟩ = some (.slice (some ⟨g, 0, none⟩) xn xc) ∧ v.cell? ⟨wr.heap.size, 0, none⟩ = some (.int .i64 (u : Int)) ∧ v.cell? ⟨wr.heap.size, 1, none⟩ = some (.slice ap np cp))) (by kernel_rfl) HS0.out (fun hHeld => ?_)
            simp only [List.size_toArray, List.length_cons, List.length_nil, Array.replicate_succ, Array.replicate_zero, Nat.reduceAdd, List.push_toArray, List.nil_append, List.cons_append]
            refine wpAnyH_take (i := 0) (v := (.pointer (some ⟨bo, 0, none⟩))) rfl (by kernel_rfl) (by kernel_rfl) (by kernel_rfl) (fun _ _ _ h => h) (Or.inl ⟨by rfl, ?_⟩) (by assumption) ?_
            · intro w hSw
              (try dsimp only at hSw)
              go_simp
            try simp only [List.getElem_toArray]
            try simp only [List.getElem_cons_succ]
            try simp only [List.getElem_cons_zero]
            try simp only [Act.put]
            try simp only [List.setIfInBounds_toArray]
            try simp only [List.set_cons_succ]
            try simp only [List.set_cons_zero]
            refine wpAnyH_take (i := 1) (v := (.slice (some ⟨g, 0, none⟩) xn xc)) rfl (by kernel_rfl) (by kernel_rfl) (by kernel_rfl) (fun _ _ _ h => h) (Or.inl ⟨by rfl, ?_⟩) (by assumption) ?_
            · intro w hSw
              (try dsimp only at hSw)
              go_simp
            try simp only [List.getElem_toArray]
            try simp only [List.getElem_cons_succ]
            try simp only [List.getElem_cons_zero]
            try simp only [Act.put]
            try simp only [List.setIfInBounds_toArray]
            try simp only [List.set_cons_succ]
            try simp only [List.set_cons_zero]
            refine wpAnyH_take (i := 2) (v := (.pointer (some ⟨wr.heap.size, 0, none⟩))) rfl (by kernel_rfl) (by kernel_rfl) (by kernel_rfl) (fun _ _ _ h => h) (Or.inl ⟨by rfl, ?_⟩) (by assumption) ?_
            · intro w hSw
              (try dsimp only at hSw)
              go_simp
            try simp only [List.getElem_toArray]
            try simp only [List.getElem_cons_succ]
            try simp only [List.getElem_cons_zero]
            try simp only [Act.put]
            try simp only [List.setIfInBounds_toArray]
            try simp only [List.set_cons_succ]
            try simp only [List.set_cons_zero]
            refine wpAnyH_take (i := 3) (v := (.int .i64 (u : Int))) rfl (by kernel_rfl) (by kernel_rfl) (by kernel_rfl) (fun _ _ _ h => h) (Or.inl ⟨by rfl, ?_⟩) (by assumption) ?_
            · intro w hSw
              (try dsimp only at hSw)
              go_simp
            try simp only [List.getElem_toArray]
            try simp only [List.getElem_cons_succ]
            try simp only [List.getElem_cons_zero]
            try simp only [Act.put]
            try simp only [List.setIfInBounds_toArray]
            try simp only [List.set_cons_succ]
            try simp only [List.set_cons_zero]
            refine wpAnyH_take (i := 4) (v := (.pointer (some ⟨bo, 0, none⟩))) rfl (by kernel_rfl) (by kernel_rfl) (by kernel_rfl) (fun _ _ _ h => h) (Or.inl ⟨by rfl, ?_⟩) (by assumption) ?_
            · intro w hSw
              (try dsimp only at hSw)
              go_simp
            try simp only [List.getElem_toArray]
            try simp only [List.getElem_cons_succ]
            try simp only [List.getElem_cons_zero]
            try simp only [Act.put]
            try simp only [List.setIfInBounds_toArray]
            try simp only [List.set_cons_succ]
            try simp only [List.set_cons_zero]
            refine wpAnyH_take (i := 5) (v := (.slice (some ⟨g, 0, none⟩) xn xc)) rfl (by kernel_rfl) (by kernel_rfl) (by kernel_rfl) (fun _ _ _ h => h) (Or.inl ⟨by rfl, ?_⟩) (by assumption) ?_
            · intro w hSw
              (try dsimp only at hSw)
              go_simp
            try simp only [List.getElem_toArray]
            try simp only [List.getElem_cons_succ]
            try simp only [List.getElem_cons_zero]
            try simp only [Act.put]
            try simp only [List.setIfInBounds_toArray]
            try simp only [List.set_cons_succ]
            try simp only [List.set_cons_zero]
            refine wpAnyH_take (i := 6) (v := (.pointer (some ⟨wr.heap.size, 0, none⟩))) rfl (by kernel_rfl) (by kernel_rfl) (by kernel_rfl) (fun _ _ _ h => h) (Or.inl ⟨by rfl, ?_⟩) (by assumption) ?_
            · intro w hSw
              (try dsimp only at hSw)
              go_simp
            try simp only [List.getElem_toArray]
            try simp only [List.getElem_cons_succ]
            try simp only [List.getElem_cons_zero]
            try simp only [Act.put]
            try simp only [List.setIfInBounds_toArray]
            try simp only [List.set_cons_succ]
            try simp only [List.set_cons_zero]
            refine wpAnyH_take (i := 7) (v := (.int .i64 (u : Int))) rfl (by kernel_rfl) (by kernel_rfl) (by kernel_rfl) (fun _ _ _ h => h) (Or.inl ⟨by rfl, ?_⟩) (by assumption) ?_
            · intro w hSw
              (try dsimp only at hSw)
              go_simp
            try simp only [List.getElem_toArray]
            try simp only [List.getElem_cons_succ]
            try simp only [List.getElem_cons_zero]
            try simp only [Act.put]
            try simp only [List.setIfInBounds_toArray]
            try simp only [List.set_cons_succ]
            try simp only [List.set_cons_zero]
            refine wpAnyH_take (i := 8) (v := (.pointer (some ⟨g, u, none⟩))) rfl (by kernel_rfl) (by kernel_rfl) (by kernel_rfl) (fun _ _ _ h => h) (Or.inl ⟨by rfl, ?_⟩) (by assumption) ?_
            · intro w hSw
              (try dsimp only at hSw)
              go_simp
            try simp only [List.getElem_toArray]
            try simp only [List.getElem_cons_succ]
            try simp only [List.getElem_cons_zero]
            try simp only [Act.put]
            try simp only [List.setIfInBounds_toArray]
            try simp only [List.set_cons_succ]
            try simp only [List.set_cons_zero]
            refine wpAnyH_take (i := 9) (v := (.pointer (some ⟨g, u, none⟩))) rfl (by kernel_rfl) (by kernel_rfl) (by kernel_rfl) (fun _ _ _ h => h) (Or.inl ⟨by rfl, ?_⟩) (by assumption) ?_
            · intro w hSw
              (try dsimp only at hSw)
              go_simp
            try simp only [List.getElem_toArray]
            try simp only [List.getElem_cons_succ]
            try simp only [List.getElem_cons_zero]
            try simp only [Act.put]
            try simp only [List.setIfInBounds_toArray]
            try simp only [List.set_cons_succ]
            try simp only [List.set_cons_zero]
            refine wpAnyH_take (i := 11) (v := (.pointer (some ⟨wr.heap.size, 1, none⟩))) rfl (by kernel_rfl) (by kernel_rfl) (by kernel_rfl) (fun _ _ _ h => h) (Or.inl ⟨by rfl, ?_⟩) (by assumption) ?_
            · intro w hSw
              (try dsimp only at hSw)
              go_simp
            try simp only [List.getElem_toArray]
            try simp only [List.getElem_cons_succ]
            try simp only [List.getElem_cons_zero]
            try simp only [Act.put]
            try simp only [List.setIfInBounds_toArray]
            try simp only [List.set_cons_succ]
            try simp only [List.set_cons_zero]
            refine wpAnyH_take (i := 12) (v := (.slice ap np cp)) rfl (by kernel_rfl) (by kernel_rfl) (by kernel_rfl) (fun _ _ _ h => h) (Or.inl ⟨by rfl, ?_⟩) (by assumption) ?_
            · intro w hSw
              (try dsimp only at hSw)
              go_simp
            try simp only [List.getElem_toArray]
            try simp only [List.getElem_cons_succ]
            try simp only [List.getElem_cons_zero]
            try simp only [Act.put]
            try simp only [List.setIfInBounds_toArray]
            try simp only [List.set_cons_succ]
            try simp only [List.set_cons_zero]
            refine wpAnyH_take (i := 13) (v := (.int .i64 q)) rfl (by kernel_rfl) (by kernel_rfl) (by kernel_rfl) (fun _ _ _ h => h) (Or.inl ⟨by rfl, ?_⟩) (by assumption) ?_
            · intro w hSw
              (try dsimp only at hSw)
              go_simp
            try simp only [List.getElem_toArray]
            try simp only [List.getElem_cons_succ]
            try simp only [List.getElem_cons_zero]
            try simp only [Act.put]
            try simp only [List.setIfInBounds_toArray]
            try simp only [List.set_cons_succ]
            try simp only [List.set_cons_zero]
            refine wpAnyH_ready (rs := [10]) (by kernel_rfl) (by simp) ?_
            refine AllReadyH.cons rfl (fun K1 hK => ?_) AllReadyH.nil
            go_simp
            try go_wp2_with fail
            refine hK.out _ _ ?_ (fun hHeld => ?_)
            · assumption
            clear hK K1
            try simp only [List.getElem_toArray]
            try simp only [List.getElem_cons_succ]
            try simp only [List.getElem_cons_zero]
            try simp only [Act.put]
            try simp only [List.setIfInBounds_toArray]
            try simp only [List.set_cons_succ]
            try simp only [List.set_cons_zero]
            refine wpAnyH_ready (rs := [14]) (by kernel_rfl) (by simp) ?_
            refine AllReadyH.cons rfl (fun K1 hK => ?_) AllReadyH.nil
            go_simp
            refine (HTE.out _ (below_drew _)).mono ?_
            rintro e w4 ⟨a4, n4, c4, rfl, hO4, hb4⟩
            have q1 := (HBX.out w4 (bt7 (below_drew _) hb4)).1
            have q2 := (HBX.out w4 (bt7 (below_drew _) hb4)).2.1
            have q3 := (HBX.out w4 (bt7 (below_drew _) hb4)).2.2.1
            have q4 := (HBX.out w4 (bt7 (below_drew _) hb4)).2.2.2
            go_wp2_with fail
            refine hK.out _ _ ?_ (fun hHeld => ?_)
            · exact HS3.out _ (bt7 (below_drew _) hb4)
            clear hK K1
            try simp only [List.getElem_toArray]
            try simp only [List.getElem_cons_succ]
            try simp only [List.getElem_cons_zero]
            try simp only [Act.put]
            try simp only [List.setIfInBounds_toArray]
            try simp only [List.set_cons_succ]
            try simp only [List.set_cons_zero]
            refine wpAnyH_take (i := 15) (v := (.pointer (some ⟨g, u, none⟩))) rfl (by kernel_rfl) (by kernel_rfl) (by kernel_rfl) (fun _ _ _ h => h) (Or.inl ⟨by rfl, ?_⟩) (by assumption) ?_
            · intro w hSw
              (try dsimp only at hSw)
              go_simp
            try simp only [List.getElem_toArray]
            try simp only [List.getElem_cons_succ]
            try simp only [List.getElem_cons_zero]
            try simp only [Act.put]
            try simp only [List.setIfInBounds_toArray]
            try simp only [List.set_cons_succ]
            try simp only [List.set_cons_zero]
            refine wpAnyH_take (i := 16) (v := (.pointer (some ⟨g, u, none⟩))) rfl (by kernel_rfl) (by kernel_rfl) (by kernel_rfl) (fun _ _ _ h => h) (Or.inl ⟨by rfl, ?_⟩) (by assumption) ?_
            · intro w hSw
              (try dsimp only at hSw)
              go_simp
            try simp only [List.getElem_toArray]
            try simp only [List.getElem_cons_succ]
            try simp only [List.getElem_cons_zero]
            try simp only [Act.put]
            try simp only [List.setIfInBounds_toArray]
            try simp only [List.set_cons_succ]
            try simp only [List.set_cons_zero]
            refine wpAnyH_ready (rs := [17]) (by kernel_rfl) (by simp) ?_
            refine AllReadyH.cons rfl (fun K1 hK => ?_) AllReadyH.nil
            go_simp
            try go_wp2_with fail
            refine hK.out _ _ ?_ (fun hHeld => ?_)
            · refine ⟨?_, ?_, ?_⟩ <;> go_simp
            clear hK K1
            try simp only [List.getElem_toArray]
            try simp only [List.getElem_cons_succ]
            try simp only [List.getElem_cons_zero]
            try simp only [Act.put]
            try simp only [List.setIfInBounds_toArray]
            try simp only [List.set_cons_succ]
            try simp only [List.set_cons_zero]
            refine wpAnyH_done (by kernel_rfl) ?_ _
            refine NoPanic.normal ?_
            all_goals go_wp2
            all_goals exact ⟨⟨k + 1, V.set u (.slice a4 n4 c4), by omega, by go_num, HFIN.out w4 a4 n4 c4 hO4 (bt7 (below_drew _) hb4)⟩, by simp [intOf]; omega⟩
          · have HCR2 : Hid (KX w (wr.alloc (.cells #[.int .i64 (u : Int), .slice ap np cp] 43)) sa xn sc (some ⟨b, off, none⟩) dn dc bo B (some ⟨g, 0, none⟩) xn xc V (crS d.sh d.dw keep (k + 1))) := by rw [HCR.out, if_neg hq]; exact KU.out
            clear HCR KK KU hb0 HFA HB2 HPR
            go_wp2
            go_roundw
            case rel => exact ⟨k + 1, V, by omega, by go_num, HCR2.out⟩
            case measure => simp [intOf]; omega
        · have hkk' : ¬ (k : Int) < (kn : Int) := by omega
          have HCR2 : Hid (KX w (wr.alloc (.cells #[.int .i64 (u : Int), .slice ap np cp] 43)) sa xn sc (some ⟨b, off, none⟩) dn dc bo B (some ⟨g, 0, none⟩) xn xc V (crS d.sh d.dw keep (k + 1))) := by
            rw [HCR.out, if_neg (by rw [show iAt keep k = 0 by simp [iAt, show keep.length ≤ k by rw [← HKL.out]; omega]]; omega)]
            exact KU.out
          clear HCR KK KU hb0 HFA HB2 HPR
          go_wp2
          go_roundw
          case rel => exact ⟨k + 1, V, by omega, by go_num, HCR2.out⟩
          case measure => simp [intOf]; omega
      · have hkd : k = d.dw.length := by rw [← HND.out]; omega
        subst hkd
        have c0 := KK.out.k2.cell (j := 0) rfl
        have c1 := KK.out.k2.cell (j := 1) rfl
        have r0 := KK.out.k1.cell (j := 0) rfl
        have r1 := KK.out.k1.cell (j := 1) rfl
        have f0 := KK.out.k1.free 0
        have f1 := KK.out.k1.free 1
        have hnb : ¬ w.heap.size + 1 = bo := by have := KK.out.lb; omega
        have hnb2 : ¬ bo = w.heap.size + 1 := fun e => hnb e.symm
        go_wp2
        try simp only [Exit.inBlock, Exit.then]
        refine bodyPost_ret (v := .agg #[.slice (some ⟨g, 0, none⟩) xn xc, .slice none 0 0]) ?_ rfl ?_
        · exact results_dsk rfl _ _ _ rfl (by go_simp) (by go_simp)
        · rw [HF.out]
          have O1 : Only (fun y => y = w.heap.size + 1) wr ((wr.setCell ⟨w.heap.size + 1, 0, none⟩ (.slice (some ⟨g, 0, none⟩) xn xc)).setCell ⟨w.heap.size + 1, 1, none⟩ (.slice none 0 0)) := (only_set (R := fun y => y = w.heap.size + 1) rfl _).trans (only_set (R := fun y => y = w.heap.size + 1) rfl _)
          have hlo := KK.out.lo
          refine ⟨_, _, _, _, _, _, V, [], rfl, ⟨(KK.out.own.to O1 (fun y e e2 => by have := (KK.out.own.lt e).1; omega)).base (by omega), wo_nil _ _, fun y _ hy => ?_⟩, (KK.out.bel.setCell (p := ⟨w.heap.size + 1, 0, none⟩) (Nat.le_succ _) _).setCell (p := ⟨w.heap.size + 1, 1, none⟩) (Nat.le_succ _) _⟩
          rcases hy with e | ⟨i, hi, _⟩
          · cases e
          · simp at hi
end Go.Proofs.YtcpdedpgjaimkaaDoor
/-
  copyDisk of the program, l05Copy of the specification.
-/
namespace Go.Proofs.YtcpdedpgjaimkaaDoor
open Go.RowKit
set_option linter.unusedVariables false
set_option maxHeartbeats 16000000 in
set_option maxRecDepth 20000 in
theorem copyDisk_any (S : Nat → Prop) (sa : Option Addr) (sn sc : Nat) (da : Option Addr) (dn dc : Nat) (d : DK) (w : World) (h : Dk w S sa sn sc da dn dc d) (hsm : smallD d) (h1 : sn ≤ 1048576) (h2 : dn ≤ 1048576) :
    Calls Tryd.prog 14 #[.agg #[.slice sa sn sc, .slice da dn dc]] w fun e w' => DkPost1 d w e w' := by
  have HS := hid h.hs
  have HD := hid h.hd
  have HSM := hid hsm
  have HNS := hid h.hs.len.1
  have HND := hid h.hd.len.1
  have C0 := hid (CX.start w sa sn sc da dn dc)
  clear h hsm
  go_enter Tryd.func14, Tryd.ntmps14
  go_wp2_with fail
  go_loopw [11] (fun i wr => ∃ (k : Nat) (xa : Option Addr) (xn xc : Nat) (V : List Value), k ≤ sn ∧ i = .int .i64 k ∧ Hid (CX w wr sa sn sc da dn dc xa xn xc none 0 0 V [] ⟨d.sh.take k, []⟩)) (fun i _ => sn - (intOf i).toNat)
  case atStart => exact ⟨0, none, 0, 0, [], Nat.zero_le _, rfl, C0.out⟩
  case round =>
    obtain ⟨k, xa, xn, xc, V, hk, rfl, CC⟩ := hrel
    clear C0
    by_cases hlt : k < sn
    · have hlt' : (k : Int) < (sn : Int) := by omega
      obtain ⟨b, off, rfl, _, hbw, hcell⟩ := (HS.out.below CC.out.bel).at (by omega)
      obtain ⟨ap, np, cp, m0, hp⟩ := hcell k hlt
      have hkl : k < d.sh.length := by rw [← HNS.out]; exact hlt
      have hnp : np ≤ 1048576 := by rw [hp.len.1]; exact HSM.out.1 k hkl
      have hb0 := below_new (o := .cells #[.slice ap np cp] 40) (w := wr) (Below.refl _ _)
      have CU := hid (CC.out.below hb0)
      have HBY := hid hp.2
      have HCB : Hid (∀ z, Below (wr.alloc (.cells #[.slice ap np cp] 40)).heap.size (wr.alloc (.cells #[.slice ap np cp] 40)) z → Calls Tryd.prog 20 #[.slice ap np cp] z fun e w' => ∃ a' n' c', e = .returned (.slice a' n' c') ∧ Ob w' z.heap.size (.slice a' n' c') (shAt d.sh k) ∧ Below z.heap.size z w') := fun z hz => copyB_any ap np cp _ z ((hp.rd hnp).kept (bt7 hb0 hz)) hnp
      have HL : Hid ((d.sh.take k).length = k) := by show _ = _; rw [List.length_take]; omega
      have HTK := hid (take_sh hkl)
      have HBX : Hid (∀ z, Below (wr.alloc (.cells #[.slice ap np cp] 40)).heap.size (wr.alloc (.cells #[.slice ap np cp] 40)) z → z.cell? ⟨w.heap.size + 1 + 1, 0, none⟩ = some (.slice xa xn xc) ∧ z.frozen? ⟨w.heap.size + 1 + 1, 0, none⟩ = false ∧ z.ownsRow (w.heap.size + 3) 40 1 (.slice xa xn xc) k V) := fun z hz => by
        have c := CU.out.below hz
        refine ⟨c.k2.cell (j := 0) rfl, c.k2.free 0, ?_⟩
        have := c.own.hs.row
        rwa [HL.out] at this
      have SS : Hid (w.heap.size + 1 + 1 < wr.heap.size) := CC.out.k2.lt
      have HNE : Hid ((Value.slice xa xn xc).ownBlock ≠ some (w.heap.size + 1 + 1)) := fun e => by have := (World.ownsRow.lt CC.out.own.hs.row _ e).1; omega
      have HFIN : Hid (∀ (w4 : World) (a4 : Option Addr) (n4 c4 : Nat) (a5 : Option Addr) (n5 c5 : Nat) (w5 : World), Ob w4 (wr.alloc (.cells #[.slice ap np cp] 40)).heap.size (.slice a4 n4 c4) (shAt d.sh k) → Below (wr.alloc (.cells #[.slice ap np cp] 40)).heap.size (wr.alloc (.cells #[.slice ap np cp] 40)) w4 → w5.ownsRow (w.heap.size + 3) 40 1 (.slice a5 n5 c5) (k + 1) (V ++ [.slice a4 n4 c4]) → (w4.alloc (.cells #[.slice a4 n4 c4] 40)).grownBy w5 (Value.slice xa xn xc).ownBlock → ((Value.slice a5 n5 c5).ownBlock = (Value.slice xa xn xc).ownBlock ∨ (Value.slice a5 n5 c5).ownBlock = some (w4.alloc (.cells #[.slice a4 n4 c4] 40)).heap.size) →
          CX w (w5.setCell ⟨w.heap.size + 1 + 1, 0, none⟩ (.slice a5 n5 c5)) (some ⟨b, off, none⟩) sn sc da dn dc a5 n5 c5 none 0 0 (V ++ [.slice a4 n4 c4]) [] ⟨d.sh.take (k + 1), []⟩) := by
        intro w4 a4 n4 c4 a5 n5 c5 w5 hO4 hb4 hO5 hg5 ha5
        rw [HTK.out]
        have hbn := below_new (o := .cells #[.slice a4 n4 c4] 40) (w := w4) (Below.refl _ _)
        exact CU.out.pushS (bt7 hb4 hbn) _ _ (own_kept hO4 (only_of_below hbn (fun _ => False)) (fun _ _ h => h)) HBY.out (by rw [HL.out]; exact hO5) hg5 ha5
      have c1 := CC.out.k2.cell (j := 0) rfl
      have s1 := SS.out
      have hk6 : k ≤ 1048576 := by omega
      have HS4 : Hid (∀ z, Below (wr.alloc (.cells #[.slice ap np cp] 40)).heap.size (wr.alloc (.cells #[.slice ap np cp] 40)) z → w.heap.size + 1 + 1 < z.heap.size) := fun z hz => by have h1 := hz.size; have h2 := CU.out.k2.lt; omega
      have HS5 : Hid (∀ z, Below (wr.alloc (.cells #[.slice ap np cp] 40)).heap.size (wr.alloc (.cells #[.slice ap np cp] 40)) z → wr.heap.size < z.heap.size) := fun z hz => by have h1 := hz.size; simp at h1; omega
      have HSZ : Hid (∀ z, Below (wr.alloc (.cells #[.slice ap np cp] 40)).heap.size (wr.alloc (.cells #[.slice ap np cp] 40)) z → w.heap.size + 3 ≤ z.heap.size) := fun z hz => by have h1 := hz.size; have h2 := CU.out.k2.lt; omega
      clear hcell hbw hp hb0 CC HBY
      go_wp2_with fail
      go_region_law (first
        | (go_simp; go_at_call 20; refine (HCB.out _ (below_drew _)).mono ?_; rintro e w4 ⟨a4, n4, c4, rfl, hO4, hb4⟩; have q1 := (HBX.out w4 (bt7 (below_drew _) hb4)).1; have s4 := HS4.out w4 (bt7 (below_drew _) hb4))
        | (refine step_append_g rfl _ _ _ rfl (w.heap.size + 3) 40 (.agg #[.slice none 0 0]) 1 24 Tryd.underlying23 infoSheetI rfl (by decide) (by decide) (.slice xa xn xc) k V rfl (HBX.out _ (bt7 (bt7 (below_drew _) hb4) (below_new (Below.refl _ _)))).2.2 w4.heap.size [.slice a4 n4 c4] rfl (rw_one (Bk.new w4 _ [_])) rfl (by intro u hu; simp at hu; subst hu; rfl) hk6 (HSZ.out _ (bt7 (bt7 (below_drew _) hb4) (below_new (Below.refl _ _)))) (w.heap.size + 1 + 1) 0 _ (HBX.out _ (bt7 (bt7 (below_drew _) hb4) (below_new (Below.refl _ _)))).1 (HBX.out _ (bt7 (bt7 (below_drew _) hb4) (below_new (Below.refl _ _)))).2.1 HNE.out ?_; intro a5 n5 c5 w5 hO5 hg5 ha5 hc5 hf5))
      all_goals go_wp2
      all_goals exact ⟨⟨k + 1, a5, n5, c5, _, by omega, by go_num, HFIN.out w4 a4 n4 c4 a5 n5 c5 w5 hO4 (bt7 (below_drew _) hb4) hO5 hg5 ha5⟩, by simp [intOf]; omega⟩
    · have hks : k = d.sh.length := by rw [← HNS.out]; omega
      have CD : Hid (CX w wr sa sn sc da dn dc xa xn xc none 0 0 V [] ⟨d.sh, []⟩) := by
        have := CC.out
        rwa [hks, List.take_length] at this
      clear CC hks
      have d1 := CD.out.k0.cell (j := 1) rfl
      go_wp2_with fail
      clear d1
      go_loopw [28] (fun i wr => ∃ (j : Nat) (ya : Option Addr) (yn yc : Nat) (Uu : List (Int × Value)), j ≤ dn ∧ i = .int .i64 j ∧ Hid (CX w wr sa sn sc da dn dc xa xn xc ya yn yc V Uu ⟨d.sh, d.dw.take j⟩)) (fun i _ => dn - (intOf i).toNat)
      case atStart => exact ⟨0, none, 0, 0, [], Nat.zero_le _, rfl, CD.out⟩
      case round =>
        clear CD
        obtain ⟨j, ya, yn, yc, Uu, hj, rfl, CC⟩ := hrel
        by_cases hlt2 : j < dn
        · have hlt' : (j : Int) < (dn : Int) := by omega
          obtain ⟨b, off, rfl, _, hbw, hcell⟩ := (HD.out.below CC.out.bel).at (by omega)
          obtain ⟨ap, np, cp, mt, m0, hp⟩ := hcell j hlt2
          have hkl : j < d.dw.length := by rw [← HND.out]; exact hlt2
          have hnp : np ≤ 1048576 := by rw [hp.len.1]; exact HSM.out.2 j hkl
          have HTK := hid (take_dw hkl)
          generalize (dwAt d.dw j).1 = tt at *
          have hb0 := below_new (o := .cells #[.int .i64 tt, .slice ap np cp] 43) (w := wr) (Below.refl _ _)
          have CU := hid (CC.out.below hb0)
          have HBY := hid hp.2
          have HCB : Hid (∀ z, Below (wr.alloc (.cells #[.int .i64 tt, .slice ap np cp] 43)).heap.size (wr.alloc (.cells #[.int .i64 tt, .slice ap np cp] 43)) z → Calls Tryd.prog 20 #[.slice ap np cp] z fun e w' => ∃ a' n' c', e = .returned (.slice a' n' c') ∧ Ob w' z.heap.size (.slice a' n' c') (dwAt d.dw j).2 ∧ Below z.heap.size z w') := fun z hz => copyB_any ap np cp _ z ((hp.rd hnp).kept (bt7 hb0 hz)) hnp
          have HL : Hid ((d.dw.take j).length = j) := by show _ = _; rw [List.length_take]; omega
          have HBX : Hid (∀ z, Below (wr.alloc (.cells #[.int .i64 tt, .slice ap np cp] 43)).heap.size (wr.alloc (.cells #[.int .i64 tt, .slice ap np cp] 43)) z → z.cell? ⟨w.heap.size + 1 + 1, 1, none⟩ = some (.slice ya yn yc) ∧ z.frozen? ⟨w.heap.size + 1 + 1, 1, none⟩ = false ∧ z.ownsRow (w.heap.size + 3) 43 2 (.slice ya yn yc) j (wcs Uu) ∧ z.cell? ⟨wr.heap.size, 0, none⟩ = some (.int .i64 tt)) := fun z hz => by
            have c := CU.out.below hz
            refine ⟨c.k2.cell (j := 1) rfl, c.k2.free 1, ?_, ((Bk.new wr 43 [.int .i64 tt, .slice ap np cp]).below hz).cell (j := 0) rfl⟩
            have := c.own.hd.row
            rwa [HL.out] at this
          have SS : Hid (w.heap.size + 1 + 1 < wr.heap.size) := CC.out.k2.lt
          have HNE : Hid ((Value.slice ya yn yc).ownBlock ≠ some (w.heap.size + 1 + 1)) := fun e => by have := (World.ownsRow.lt CC.out.own.hd.row _ e).1; omega
          have HFIN : Hid (∀ (w4 : World) (a4 : Option Addr) (n4 c4 : Nat) (a5 : Option Addr) (n5 c5 : Nat) (w5 : World), Ob w4 (wr.alloc (.cells #[.int .i64 tt, .slice ap np cp] 43)).heap.size (.slice a4 n4 c4) (dwAt d.dw j).2 → Below (wr.alloc (.cells #[.int .i64 tt, .slice ap np cp] 43)).heap.size (wr.alloc (.cells #[.int .i64 tt, .slice ap np cp] 43)) w4 → w5.ownsRow (w.heap.size + 3) 43 2 (.slice a5 n5 c5) (j + 1) (wcs Uu ++ [.int .i64 tt, .slice a4 n4 c4]) → (w4.alloc (.cells #[.int .i64 tt, .slice a4 n4 c4] 43)).grownBy w5 (Value.slice ya yn yc).ownBlock → ((Value.slice a5 n5 c5).ownBlock = (Value.slice ya yn yc).ownBlock ∨ (Value.slice a5 n5 c5).ownBlock = some (w4.alloc (.cells #[.int .i64 tt, .slice a4 n4 c4] 43)).heap.size) →
              CX w (w5.setCell ⟨w.heap.size + 1 + 1, 1, none⟩ (.slice a5 n5 c5)) sa sn sc (some ⟨b, off, none⟩) dn dc xa xn xc a5 n5 c5 V (Uu ++ [(tt, .slice a4 n4 c4)]) ⟨d.sh, d.dw.take (j + 1)⟩) := by
            intro w4 a4 n4 c4 a5 n5 c5 w5 hO4 hb4 hO5 hg5 ha5
            rw [HTK.out]
            have hbn := below_new (o := .cells #[.int .i64 tt, .slice a4 n4 c4] 43) (w := w4) (Below.refl _ _)
            exact CU.out.pushW (bt7 hb4 hbn) tt _ _ (own_kept hO4 (only_of_below hbn (fun _ => False)) (fun _ _ h => h)) HBY.out (by rw [HL.out]; exact hO5) hg5 ha5
          have c1 := CC.out.k2.cell (j := 1) rfl
          have s1 := SS.out
          have hk6 : j ≤ 1048576 := by omega
          have HS4 : Hid (∀ z, Below (wr.alloc (.cells #[.int .i64 tt, .slice ap np cp] 43)).heap.size (wr.alloc (.cells #[.int .i64 tt, .slice ap np cp] 43)) z → w.heap.size + 1 + 1 < z.heap.size) := fun z hz => by have h1 := hz.size; have h2 := CU.out.k2.lt; omega
          have HS5 : Hid (∀ z, Below (wr.alloc (.cells #[.int .i64 tt, .slice ap np cp] 43)).heap.size (wr.alloc (.cells #[.int .i64 tt, .slice ap np cp] 43)) z → wr.heap.size < z.heap.size) := fun z hz => by have h1 := hz.size; simp at h1; omega
          have HSZ : Hid (∀ z, Below (wr.alloc (.cells #[.int .i64 tt, .slice ap np cp] 43)).heap.size (wr.alloc (.cells #[.int .i64 tt, .slice ap np cp] 43)) z → w.heap.size + 3 ≤ z.heap.size) := fun z hz => by have h1 := hz.size; have h2 := CU.out.k2.lt; omega
          clear hcell hbw hp hb0 CC HBY
          go_wp2_with fail
          go_region_law (first
            | (go_simp; go_at_call 20; refine (HCB.out _ (below_drew _)).mono ?_; rintro e w4 ⟨a4, n4, c4, rfl, hO4, hb4⟩; have q1 := (HBX.out w4 (bt7 (below_drew _) hb4)).1; have q2 := (HBX.out w4 (bt7 (below_drew _) hb4)).2.2.2; have s4 := HS4.out w4 (bt7 (below_drew _) hb4); have s5 := HS5.out w4 (bt7 (below_drew _) hb4))
            | (refine step_append_g rfl _ _ _ rfl (w.heap.size + 3) 43 (.agg #[.int .i64 0, .slice none 0 0]) 2 32 Tryd.underlying24 infoWriteI rfl (by decide) (by decide) (.slice ya yn yc) j (wcs Uu) rfl (HBX.out _ (bt7 (bt7 (below_drew _) hb4) (below_new (Below.refl _ _)))).2.2.1 w4.heap.size [.int .i64 tt, .slice a4 n4 c4] rfl (rw_two (Bk.new w4 _ [_, _])) rfl (by intro u hu; simp at hu; rcases hu with rfl | rfl <;> rfl) hk6 (HSZ.out _ (bt7 (bt7 (below_drew _) hb4) (below_new (Below.refl _ _)))) (w.heap.size + 1 + 1) 1 _ (HBX.out _ (bt7 (bt7 (below_drew _) hb4) (below_new (Below.refl _ _)))).1 (HBX.out _ (bt7 (bt7 (below_drew _) hb4) (below_new (Below.refl _ _)))).2.1 HNE.out ?_; intro a5 n5 c5 w5 hO5 hg5 ha5 hc5 hf5))
          all_goals go_wp2
          all_goals exact ⟨⟨j + 1, a5, n5, c5, _, by omega, by go_num, HFIN.out w4 a4 n4 c4 a5 n5 c5 w5 hO4 (bt7 (below_drew _) hb4) hO5 hg5 ha5⟩, by simp [intOf]; omega⟩
        · have hjd : j = d.dw.length := by rw [← HND.out]; omega
          have CE : Hid (CX w wr sa sn sc da dn dc xa xn xc ya yn yc V Uu d) := by
            have := CC.out
            rwa [hjd, List.take_length] at this
          clear CC hjd
          have c0 := CE.out.k2.cell (j := 0) rfl
          have c1 := CE.out.k2.cell (j := 1) rfl
          have r0 := CE.out.k1.cell (j := 0) rfl
          have r1 := CE.out.k1.cell (j := 1) rfl
          have f0 := CE.out.k1.free 0
          have f1 := CE.out.k1.free 1
          go_wp2
          try simp only [Exit.inBlock, Exit.then]
          refine bodyPost_ret (v := .agg #[.slice xa xn xc, .slice ya yn yc]) ?_ rfl ?_
          · exact results_dsk rfl _ _ _ rfl (by go_simp) (by go_simp)
          · have O1 : Only (fun y => y = w.heap.size + 1) wr ((wr.setCell ⟨w.heap.size + 1, 0, none⟩ (.slice xa xn xc)).setCell ⟨w.heap.size + 1, 1, none⟩ (.slice ya yn yc)) := (only_set (R := fun y => y = w.heap.size + 1) rfl _).trans (only_set (R := fun y => y = w.heap.size + 1) rfl _)
            exact ⟨_, _, _, _, _, _, _, _, rfl, (CE.out.own.to O1 (fun y e e2 => by have := (CE.out.own.lt e).1; omega)).base (by omega), (CE.out.bel.setCell (p := ⟨w.heap.size + 1, 0, none⟩) (Nat.le_succ _) _).setCell (p := ⟨w.heap.size + 1, 1, none⟩) (Nat.le_succ _) _⟩
end Go.Proofs.YtcpdedpgjaimkaaDoor
/-
  DiskSync of the specification and of the program.
-/
namespace Go.Proofs.YtcpdedpgjaimkaaDoor
open Go.RowKit
set_option linter.unusedVariables false
def syS (ss : List (List Int)) (ds : List DW) : Nat → List (List Int)
  | 0 => ss
  | k + 1 => (syS ss ds k).set (dwAt ds k).1.toNat (dwAt ds k).2
theorem syS_len (ss : List (List Int)) (ds : List DW) (k : Nat) : (syS ss ds k).length = ss.length := by
  induction k with
  | zero => rfl
  | succ k ih => rw [syS, List.length_set]; exact ih
def dsV (d : DK) : DK := if dkOk d = true then ⟨syS d.sh d.dw d.dw.length, []⟩ else emD
theorem tea_all {a b : List Int} (ha : shtOk a = true) (hb : b.length = 512) : teaV a b 512 = b := by
  have h1 : shOk a = true := ha
  have h2 : shOk b = true := (shtOk_iff b).2 (.inr hb)
  rw [teaV, tearV, if_pos ⟨h1, h2⟩, Option.getD_some, trB]
  have e1 := sheet_len h1
  have e2 : sheet b = b := by rw [sheet, if_neg (by omega)]
  rw [e2, List.take_of_length_le (by rw [hb]; decide), List.drop_eq_nil_of_le (by rw [e1]; decide), List.append_nil]
theorem crS_all {d : DK} (hok : dkOk d = true) (hb : (∀ i, byt (shAt d.sh i)) ∧ ∀ i, byt (dwAt d.dw i).2) : ∀ k, k ≤ d.dw.length → crS d.sh d.dw (List.replicate d.dw.length 512) k = syS d.sh d.dw k := by
  have hk := (dkOk_iff d).1 hok
  intro k
  induction k with
  | zero => intro _; rfl
  | succ k ih =>
    intro hkl
    have hw := (wrtOk_iff _ _).1 (hk.2.2.2.2 k (by omega))
    have hi : iAt (List.replicate d.dw.length 512) k = 512 := by simp [iAt, show k < d.dw.length by omega]
    have hf := (crS_facts hok hb (List.replicate d.dw.length 512) k (by omega) (dwAt d.dw k).1.toNat).2 (by omega)
    rw [crS, hi, if_pos (by decide), tea_all hf hw.2.2, ih (by omega), syS]
theorem dsV_eq {d : DK} (hb : (∀ i, byt (shAt d.sh i)) ∧ ∀ i, byt (dwAt d.dw i).2) : dcV d (List.replicate d.dw.length 512) = dsV d := by
  unfold dcV dsV
  split
  · rename_i hok
    rw [crS_all hok hb _ (Nat.le_refl _)]
  · rfl
theorem infoIntD : (Tryd.prog.info? 3).map (fun i => (i.zero, i.size, i.bytes)) = some (some (.int .i64 0), 1, 8) := by kernel_rfl
/-- The boxes of DiskSync: the disk, the result; the numbers so far. -/
structure YX (w v : World) (sa : Option Addr) (sn sc : Nat) (da : Option Addr) (dn dc : Nat) (x : Value) (k : Nat) : Prop where
  bel : Below w.heap.size w v
  k0 : Bk v w.heap.size 26 [.slice sa sn sc, .slice da dn dc]
  k1 : Bk v (w.heap.size + 1) 26 [.slice none 0 0, .slice none 0 0]
  row : v.ownsRow (w.heap.size + 2) 3 1 x k (List.replicate k (.int .i64 512))
set_option maxHeartbeats 8000000 in
set_option maxRecDepth 20000 in
theorem specDiskSync_any (S : Nat → Prop) (sa : Option Addr) (sn sc : Nat) (da : Option Addr) (dn dc : Nat) (d : DK) (w : World) (h : Dk w S sa sn sc da dn dc d) (hsm : smallD d) (h1 : sn ≤ 1048576) (h2 : dn ≤ 1048576) :
    Calls Tryd.prog 28 #[.agg #[.slice sa sn sc, .slice da dn dc]] w fun e w' => DkPost1 (dsV d) w e w' := by
  have HH := hid h
  have HSM := hid hsm
  have HDE := hid (dsV_eq h.bytes')
  have HND := hid h.hd.len.1
  have hdc := h.hd.len.2
  obtain ⟨ti, hti, htz, hts, htb⟩ := info_of infoIntD
  have Y0 : Hid (YX w (((w.alloc (.cells #[.slice sa sn sc, .slice da dn dc] 26)).alloc (.cells #[.slice none 0 0, .slice none 0 0] 26)).alloc (.cells #[] 3)) sa sn sc da dn dc (.slice (some ⟨w.heap.size + 1 + 1, 0, none⟩) 0 0) 0) := by
    refine ⟨below_new (below_new (below_new (Below.refl _ _))), ((Bk.new w 26 [.slice sa sn sc, .slice da dn dc]).alloc _).alloc _, ?_, ?_⟩
    · have := (Bk.new (w.alloc (.cells #[.slice sa sn sc, .slice da dn dc] 26)) 26 [.slice none 0 0, .slice none 0 0]).alloc (.cells #[] 3)
      simpa using this
    · have := Bk.new ((w.alloc (.cells #[.slice sa sn sc, .slice da dn dc] 26)).alloc (.cells #[.slice none 0 0, .slice none 0 0] 26)) 3 []
      have := bk_own (B := w.heap.size + 2) (n := 0) (size := 1) this (by simp) (by omega) (by simp)
      simpa using this
  have d1 := Y0.out.k0.cell (j := 1) rfl
  clear h hsm
  go_enter Tryd.func28, Tryd.ntmps28
  go_wp2_with fail
  clear d1
  go_loopw [3, 8] (fun x i wr => ∃ (k : Nat) (xa : Option Addr) (xn xc : Nat), k ≤ dn ∧ x = .slice xa xn xc ∧ i = .int .i64 k ∧ Hid (YX w wr sa sn sc da dn dc (.slice xa xn xc) k)) (fun _ i _ => dn - (intOf i).toNat)
  case atStart => exact ⟨0, _, _, _, Nat.zero_le _, rfl, rfl, Y0.out⟩
  case round =>
    obtain ⟨k, xa, xn, xc, hk, rfl, rfl, YY⟩ := hrel
    clear Y0
    by_cases hlt : k < dn
    · have hlt' : (k : Int) < (dn : Int) := by omega
      have hb0 := below_new (o := .cells #[.int .i64 512] 3) (w := wr) (Below.refl _ _)
      have HO := hid (own_kept YY.out.row (only_of_below hb0 (fun _ => False)) (fun _ _ h => h))
      have HR := hid (rw_one (Bk.new wr 3 [.int .i64 512]))
      have HB := hid hb0
      have hkm : k + 1 ≤ maxLen := by unfold maxLen; omega
      have hkb : (k + 1) * 8 ≤ 140737488355328 := by omega
      have HZ : Hid (w.heap.size + 2 ≤ (wr.alloc (.cells #[.int .i64 512] 3)).heap.size) := by have h1 := hb0.size; have h2 := YY.out.k1.lt; show _ ≤ _; simp; omega
      clear hb0
      go_wp2_with (at_builtin; refine wpList_append_row_at rfl _ _ _ rfl (w.heap.size + 2) 3 ti (.int .i64 0) 1 8 Tryd.underlying31 hti htz hts htb rfl (by decide) (.slice xa xn xc) k _ rfl HO.out (fun _ => True) _ 1 [.int .i64 512] rfl HR.out rfl (by intro u hu; simp at hu; subst hu; rfl) hkm hkb HZ.out ?_)
      intro v5 w5 hO5 hg5 ha5
      obtain ⟨a5, c5, rfl⟩ := own_shape hO5
      have o : Only (fun y => (Value.slice xa xn xc).ownBlock = some y) wr w5 := (only_of_below HB.out _).trans (only_of_grown hg5 (fun k e => e))
      have hlo : ∀ y, (Value.slice xa xn xc).ownBlock = some y → w.heap.size + 2 ≤ y := fun y e => (World.ownsRow.lt YY.out.row y e).1
      have Y5 : Hid (YX w w5 sa sn sc da dn dc (.slice a5 (k + 1) c5) (k + 1)) := by
        refine ⟨YY.out.bel.trans (o.below YY.out.bel.size (fun y hy e => by have := hlo y e; omega)), YY.out.k0.to o (fun e => by have := hlo _ e; omega), YY.out.k1.to o (fun e => by have := hlo _ e; omega), ?_⟩
        have : List.replicate (k + 1) (Value.int .i64 512) = List.replicate k (.int .i64 512) ++ [.int .i64 512] := by rw [List.replicate_succ']
        rw [this]
        exact hO5
      clear hO5 hg5 ha5 o hlo HO HR HB YY
      go_wp2
      go_roundw
      case rel => exact ⟨k + 1, a5, k + 1, c5, by omega, rfl, by go_num, Y5.out⟩
      case measure => simp [intOf]; omega
    · have hkd : k = d.dw.length := by rw [← HND.out]; omega
      subst hkd
      have HIR : Hid (Ir wr (fun _ => True) (.slice xa xn xc) (List.replicate d.dw.length 512)) := by
        show Rw _ _ _ _ _
        rw [List.length_replicate, List.map_replicate]
        exact rw_own YY.out.row (fun _ _ _ _ => trivial)
      have d0 := YY.out.k0.cell (j := 0) rfl
      have d1 := YY.out.k0.cell (j := 1) rfl
      go_wp2_with fail
      refine (specDiskCrash_any S (fun _ => True) sa sn sc da dn dc d xa xn xc _ _ (HH.out.below YY.out.bel) HSM.out h1 h2 HIR.out).mono ?_
      rw [HDE.out]
      rintro e w2 ⟨za, zn, zc, ya, yn, yc, V, Uu, rfl, hO, hb⟩
      have J1 := hid (YY.out.k1.below hb)
      have HO := hid hO
      have B2 := hid (bt7 YY.out.bel hb)
      have SZ : Hid (w.heap.size + 2 ≤ wr.heap.size) := YY.out.k1.lt
      clear hO hb YY HIR d0 d1
      have r0 := J1.out.cell (j := 0) rfl
      have r1 := J1.out.cell (j := 1) rfl
      have f0 := J1.out.free 0
      have f1 := J1.out.free 1
      go_wp2
      try simp only [Exit.inBlock, Exit.then]
      refine bodyPost_ret (v := .agg #[.slice za zn zc, .slice ya yn yc]) ?_ rfl ?_
      · exact results_dsk rfl _ _ _ rfl (by go_simp) (by go_simp)
      · have O1 : Only (fun y => y = w.heap.size + 1) w2 ((w2.setCell ⟨w.heap.size + 1, 0, none⟩ (.slice za zn zc)).setCell ⟨w.heap.size + 1, 1, none⟩ (.slice ya yn yc)) := (only_set (R := fun y => y = w.heap.size + 1) rfl _).trans (only_set (R := fun y => y = w.heap.size + 1) rfl _)
        have hz := SZ.out
        exact ⟨_, _, _, _, _, _, _, _, rfl, (HO.out.to O1 (fun y e e2 => by have := (HO.out.lt e).1; omega)).base (by omega), (B2.out.setCell (p := ⟨w.heap.size + 1, 0, none⟩) (Nat.le_succ _) _).setCell (p := ⟨w.heap.size + 1, 1, none⟩) (Nat.le_succ _) _⟩
set_option maxHeartbeats 2000000 in
set_option maxRecDepth 100000 in
theorem cloneS_any (S : Nat → Prop) (b off n c : Nat) (V : List Value) (w : World) (h : Rw w S (.slice (some ⟨b, off, none⟩) n c) n V) (hl : V.length = n) (h1 : ∀ u ∈ V, u.oneCell' = true) (hn : n ≤ 1048576) :
    Calls Tryd.prog 12 #[.slice (some ⟨b, off, none⟩) n c] w fun e w' => ∃ a c', e = .returned (.slice a n c') ∧ w'.ownsRow w.heap.size 40 1 (.slice a n c') n V ∧ Below w.heap.size w w' := by
  obtain ⟨ti, hti, htz, hts, htb⟩ := info_of infoSheetI
  have hb0 := below_new (o := .cells #[] 40) (w := w) (Below.refl _ _)
  have HR := hid (h.below hb0)
  have HO : Hid ((w.alloc (.cells #[] 40)).ownsRow w.heap.size 40 1 (.slice (some ⟨w.heap.size, 0, none⟩) 0 0) 0 []) := bk_own (n := 0) (size := 1) (Bk.new w 40 []) (by simp) (by omega) (Nat.le_refl _)
  have HB := hid hb0
  have HZ : Hid (w.heap.size ≤ (w.alloc (.cells #[] 40)).heap.size) := hb0.size
  have hkm : 0 + n ≤ maxLen := by unfold maxLen; omega
  have hkb : (0 + n) * 24 ≤ 140737488355328 := by omega
  have HL : Hid (V.length = n * 1) := by show _ = _; omega
  have H1 := hid h1
  have he : ∀ w : World, (binOp .eql 23 (.slice (some ⟨b, off, none⟩) n c) (.slice none 0 0)).run Tryd.prog w = .ok (.bool false) w := fun _ => rfl
  clear h hl h1 hb0
  go_enter Tryd.func12, Tryd.ntmps12
  go_wp2_with (at_builtin; refine wpList_append_row_at rfl _ _ _ rfl w.heap.size 40 ti (.agg #[.slice none 0 0]) 1 24 Tryd.underlying23 hti htz hts htb rfl (by decide) _ 0 [] rfl HO.out S _ n V rfl HR.out HL.out H1.out hkm hkb HZ.out ?_)
  intro v5 w5 hO5 hg5 ha5
  have O5 : Hid (w5.ownsRow w.heap.size 40 1 v5 n V) := by show World.ownsRow _ _ _ _ _ _ _; simpa using hO5
  have B5 : Hid (Below w.heap.size w w5) := HB.out.trans ((only_of_grown hg5 (R := fun y => y = w.heap.size) (fun k e => by simpa [Value.ownBlock] using e.symm)).below HZ.out (fun y hy e => by omega))
  obtain ⟨a5, c5, rfl⟩ := own_shape O5.out
  clear hO5 hg5 ha5 HO HR HB
  go_wp2
  go_ret
  exact ⟨_, _, rfl, O5.out, B5.out⟩
end Go.Proofs.YtcpdedpgjaimkaaDoor
/-
  DiskSync of the program.
-/
namespace Go.Proofs.YtcpdedpgjaimkaaDoor
open Go.RowKit
set_option linter.unusedVariables false
/-- The boxes of the program's sync and crash: the disk, the result; the row of sheets at hand, whose lists may lie anywhere but in it. -/
structure VX (w v : World) (sa : Option Addr) (sn sc : Nat) (da : Option Addr) (dn dc : Nat) (g cc : Nat) (V : List Value) (ss : List (List Int)) : Prop where
  bel : Below w.heap.size w v
  k0 : Bk v w.heap.size 26 [.slice sa sn sc, .slice da dn dc]
  k1 : Bk v (w.heap.size + 1) 26 [.slice none 0 0, .slice none 0 0]
  row : v.ownsRow (w.heap.size + 2) 40 1 (.slice (some ⟨g, 0, none⟩) sn cc) sn V
  len : V.length = sn
  ssl : ss.length = sn
  byt' : ∀ i, i < sn → By v (fun y => y ≠ g) (uAt V i) (shAt ss i)
theorem VX.below {w v v' : World} {sa : Option Addr} {sn sc : Nat} {da : Option Addr} {dn dc : Nat} {g cc : Nat} {V : List Value} {ss : List (List Int)} (h : VX w v sa sn sc da dn dc g cc V ss) (hb : Below v.heap.size v v') : VX w v' sa sn sc da dn dc g cc V ss :=
  ⟨bt7 h.bel hb, h.k0.below hb, h.k1.below hb, own_kept h.row (only_of_below hb (fun _ => False)) (fun _ _ h => h), h.len, h.ssl, fun i hi => (h.byt' i hi).below hb⟩
theorem VX.put {w v : World} {sa : Option Addr} {sn sc : Nat} {da : Option Addr} {dn dc : Nat} {g cc : Nat} {V : List Value} {ss : List (List Int)} (h : VX w v sa sn sc da dn dc g cc V ss) {k : Nat} {p : Value} {x : List Int} (hk : k < sn) (hp : By v (fun y => y ≠ g) p x) : VX w (v.setCell ⟨g, k, none⟩ p) sa sn sc da dn dc g cc (V.set k p) (ss.set k x) := by
  have hg := World.ownsRow.lt h.row g rfl
  have o : Only (fun y => y = g) v (v.setCell ⟨g, k, none⟩ p) := only_set (R := fun y => y = g) rfl _
  refine ⟨h.bel.setCell (p := ⟨g, k, none⟩) (by show w.heap.size ≤ g; omega) _, h.k0.setOther (by omega) _ _, h.k1.setOther (by omega) _ _, ownD_set h.row k p, by rw [List.length_set]; exact h.len, by rw [List.length_set]; exact h.ssl, fun i hi => ?_⟩
  by_cases e : i = k
  · subst e
    rw [uAt_set (by rw [h.len]; exact hi), shAt_set (by rw [h.ssl]; exact hi)]
    exact hp.to o (fun b hb _ e => hb e)
  · rw [uAt_other e, shAt_other e]
    exact (h.byt' i hi).to o (fun b hb _ e => hb e)
theorem VX.shr {w v : World} {sa : Option Addr} {sn sc : Nat} {da : Option Addr} {dn dc : Nat} {g cc : Nat} {V : List Value} {ss : List (List Int)} (h : VX w v sa sn sc da dn dc g cc V ss) : Shr v (fun _ => True) (.slice (some ⟨g, 0, none⟩) sn cc) ss := by
  refine ⟨V, by rw [h.len, h.ssl], ?_, fun i hi => (h.byt' i (by rw [← h.ssl]; exact hi)).mono (fun _ _ _ => trivial)⟩
  rw [h.ssl]
  exact rw_own h.row (fun _ _ _ _ => trivial)
theorem syS_facts {d : DK} (hok : dkOk d = true) (hb : (∀ i, byt (shAt d.sh i)) ∧ ∀ i, byt (dwAt d.dw i).2) : ∀ k, k ≤ d.dw.length → ∀ i, byt (shAt (syS d.sh d.dw k) i) ∧ (shAt (syS d.sh d.dw k) i).length ≤ 512 := by
  intro k hk i
  rw [← crS_all hok hb k hk]
  have h := crS_facts hok hb (List.replicate d.dw.length 512) k hk i
  refine ⟨h.1, ?_⟩
  by_cases hi : i < d.sh.length
  · have := (shtOk_iff _).1 (h.2 hi); omega
  · simp [shAt, show (crS d.sh d.dw (List.replicate d.dw.length 512) k).length ≤ i by rw [crS_len]; omega]
theorem wrr_nil (w : World) (S : Nat → Prop) : Wrr w S (.slice none 0 0) [] := ⟨[], rfl, rw_nil _ _, fun i hi => by simp at hi⟩
theorem one_slices {w : World} {S : Nat → Prop} {V : List Value} {ss : List (List Int)} (hl : V.length = ss.length) (h : ∀ i, i < ss.length → By w S (uAt V i) (shAt ss i)) : ∀ u ∈ V, u.oneCell' = true := by
  intro u hu
  obtain ⟨i, hi, rfl⟩ := List.mem_iff_getElem.1 hu
  obtain ⟨a, c, e⟩ := (h i (by omega)).1.sliceOf
  have : V[i] = uAt V i := by simp [uAt, hi]
  rw [this, e]
  rfl
theorem VX.start {w w1 w2 : World} {S : Nat → Prop} {b off sn sc : Nat} {da : Option Addr} {dn dc : Nat} {cc g : Nat} {V : List Value} {ss : List (List Int)} (hbel : Below w.heap.size w w1) (k0 : Bk w1 w.heap.size 26 [.slice (some ⟨b, off, none⟩) sn sc, .slice da dn dc]) (k1 : Bk w1 (w.heap.size + 1) 26 [.slice none 0 0, .slice none 0 0])
    (hl : V.length = ss.length) (hs : ss.length = sn) (hby : ∀ i, i < ss.length → By w1 S (uAt V i) (shAt ss i)) (hrow : w2.ownsRow w1.heap.size 40 1 (.slice (some ⟨g, 0, none⟩) sn cc) sn V) (hb : Below w1.heap.size w1 w2) :
    VX w w2 (some ⟨b, off, none⟩) sn sc da dn dc g cc V ss := by
  have hg := (World.ownsRow.lt hrow g rfl).1
  have h1 := k1.lt
  refine ⟨bt7 hbel hb, k0.below hb, k1.below hb, ownD_base hrow (by omega), by omega, hs, fun i hi => ?_⟩
  exact ((hby i (by omega)).mono (R := fun y => y ≠ g) (fun y _ hy => by omega)).below hb
/-- A row of sheets at hand, whose lists may lie anywhere but in it. -/
structure SH (v : World) (Q : Nat → Prop) (B g cc sn : Nat) (V : List Value) (ss : List (List Int)) : Prop where
  row : v.ownsRow B 40 1 (.slice (some ⟨g, 0, none⟩) sn cc) sn V
  len : V.length = sn
  ssl : ss.length = sn
  byt' : ∀ i, i < sn → By v Q (uAt V i) (shAt ss i)
  off : ¬ Q g
theorem SH.below {v v' : World} {Q : Nat → Prop} {B g cc sn : Nat} {V : List Value} {ss : List (List Int)} (h : SH v Q B g cc sn V ss) (hb : Below v.heap.size v v') : SH v' Q B g cc sn V ss :=
  ⟨own_kept h.row (only_of_below hb (fun _ => False)) (fun _ _ h => h), h.len, h.ssl, fun i hi => (h.byt' i hi).below hb, h.off⟩
theorem SH.put {v : World} {Q : Nat → Prop} {B g cc sn : Nat} {V : List Value} {ss : List (List Int)} (h : SH v Q B g cc sn V ss) {k : Nat} {p : Value} {x : List Int} (hk : k < sn) (hp : By v Q p x) : SH (v.setCell ⟨g, k, none⟩ p) Q B g cc sn (V.set k p) (ss.set k x) := by
  have o : Only (fun y => y = g) v (v.setCell ⟨g, k, none⟩ p) := only_set (R := fun y => y = g) rfl _
  refine ⟨ownD_set h.row k p, by rw [List.length_set]; exact h.len, by rw [List.length_set]; exact h.ssl, fun i hi => ?_, h.off⟩
  by_cases e : i = k
  · subst e
    rw [uAt_set (by rw [h.len]; exact hi), shAt_set (by rw [h.ssl]; exact hi)]
    exact hp.to o (fun b hb _ e => h.off (e ▸ hb))
  · rw [uAt_other e, shAt_other e]
    exact (h.byt' i hi).to o (fun b hb _ e => h.off (e ▸ hb))
theorem SH.shr {v : World} {Q : Nat → Prop} {B g cc sn : Nat} {V : List Value} {ss : List (List Int)} (h : SH v Q B g cc sn V ss) : Shr v (fun _ => True) (.slice (some ⟨g, 0, none⟩) sn cc) ss := by
  refine ⟨V, by rw [h.len, h.ssl], ?_, fun i hi => (h.byt' i (by rw [← h.ssl]; exact hi)).mono (fun _ _ _ => trivial)⟩
  rw [h.ssl]
  exact rw_own h.row (fun _ _ _ _ => trivial)
theorem VX.sh {w v : World} {sa : Option Addr} {sn sc : Nat} {da : Option Addr} {dn dc : Nat} {g cc : Nat} {V : List Value} {ss : List (List Int)} (h : VX w v sa sn sc da dn dc g cc V ss) : SH v (fun y => y ≠ g) (w.heap.size + 2) g cc sn V ss := ⟨h.row, h.len, h.ssl, h.byt', fun h => h rfl⟩
theorem VX.turn {w v v' : World} {sa : Option Addr} {sn sc : Nat} {da : Option Addr} {dn dc : Nat} {g cc : Nat} {V V' : List Value} {ss ss' : List (List Int)} (h : VX w v sa sn sc da dn dc g cc V ss) (h' : SH v' (fun y => y ≠ g) (w.heap.size + 2) g cc sn V' ss') (o : Only (fun y => y = g) v v') : VX w v' sa sn sc da dn dc g cc V' ss' := by
  have hg := World.ownsRow.lt h.row g rfl
  exact ⟨h.bel.trans (o.below h.bel.size (fun y hy e => by omega)), h.k0.to o (by omega), h.k1.to o (by omega), h'.row, h'.len, h'.ssl, h'.byt'⟩
theorem syS_zero (ss : List (List Int)) (ds : List DW) : syS ss ds 0 = ss := rfl
/-- The slice value v leads to the writes ds: where the row lies, where the bytes lie. -/
def Wr2 (w : World) (R Q : Nat → Prop) (v : Value) (ds : List DW) : Prop := ∃ U : List (Int × Value), U.length = ds.length ∧ Rw w R v ds.length (wcs U) ∧ ∀ i, i < ds.length → (xAt U i).1 = (dwAt ds i).1 ∧ By w Q (xAt U i).2 (dwAt ds i).2
theorem Wrr.two {w : World} {S : Nat → Prop} {v : Value} {ds : List DW} (h : Wrr w S v ds) : Wr2 w S S v ds := h
theorem Wr2.to {w w' : World} {R Q P : Nat → Prop} {v : Value} {ds : List DW} (h : Wr2 w R Q v ds) (ho : Only P w w') (hR : ∀ b, R b → b < w.heap.size → ¬ P b) (hQ : ∀ b, Q b → b < w.heap.size → ¬ P b) : Wr2 w' R Q v ds := by
  obtain ⟨V, h1, h2, h3⟩ := h
  exact ⟨V, h1, h2.to ho hR, fun i hi => ⟨(h3 i hi).1, (h3 i hi).2.to ho hQ⟩⟩
theorem Wr2.len {w : World} {R Q : Nat → Prop} {a : Option Addr} {n c : Nat} {ds : List DW} (h : Wr2 w R Q (.slice a n c) ds) : n = ds.length ∧ n ≤ c ∧ c ≤ 9223372036854775807 := by
  obtain ⟨V, h1, h2, h3⟩ := h
  exact Rw.len h2
theorem Wr2.at {w : World} {R Q : Nat → Prop} {a : Option Addr} {n c : Nat} {ds : List DW} (h : Wr2 w R Q (.slice a n c) ds) (hp : 0 < n) : ∃ b off, a = some ⟨b, off, none⟩ ∧ R b ∧ b < w.heap.size ∧ ∀ i, i < n → ∃ ap np cp,
    w.cell? ⟨b, off + i * 2, none⟩ = some (.int .i64 (dwAt ds i).1) ∧ w.cell? ⟨b, off + i * 2 + 1, none⟩ = some (.slice ap np cp) ∧ By w Q (.slice ap np cp) (dwAt ds i).2 := by
  obtain ⟨V, h1, h2, h3⟩ := h
  have hn := (Rw.len h2).1
  obtain ⟨b, off, e1, e2, e3, e4⟩ := h2.at hp
  refine ⟨b, off, e1, e2, e3, fun i hi => ?_⟩
  obtain ⟨k0, k1⟩ := h3 i (by omega)
  obtain ⟨c0, c1⟩ := wcs_at V i (by omega)
  have d0 := e4 _ _ c0
  have d1 := e4 _ _ c1
  obtain ⟨ap, cp, g0⟩ := k1.1.sliceOf
  rw [g0] at d1 k1
  rw [k0] at d0
  exact ⟨ap, _, cp, d0, d1, k1⟩
set_option maxHeartbeats 8000000 in
set_option maxRecDepth 20000 in
theorem writeDown_any (Q : Nat → Prop) (B g cc sn : Nat) (V : List Value) (ss : List (List Int)) (da : Option Addr) (dn dc : Nat) (ds : List DW) (w : World) (h : SH w Q B g cc sn V ss) (hd : Wr2 w (fun y => y ≠ g) Q (.slice da dn dc) ds) (hok : ∀ i, i < ds.length → wrtOk sn (dwAt ds i) = true) (hn : dn ≤ 1048576) (hs : sn ≤ 1048576) :
    Calls Tryd.prog 13 #[.slice (some ⟨g, 0, none⟩) sn cc, .slice da dn dc] w fun e w' => e = .returned (.tuple #[]) ∧ Only (fun y => y = g) w w' ∧ ∃ V', SH w' Q B g cc sn V' (syS ss ds ds.length) := by
  have HD := hid hd
  have HOK := hid hok
  have H0 := hid h
  have H0f := hid h.off
  have hcc := (own_at h.row).2.1
  have hcc' := (own_at h.row).2.2.1
  have HND := hid hd.len.1
  have hdc := hd.len.2
  clear h hd hok
  go_enter Tryd.func13, Tryd.ntmps13
  go_wp2_with fail
  go_loopw [8] (fun i wr => ∃ (k : Nat) (V : List Value), k ≤ dn ∧ i = .int .i64 k ∧ Hid (SH wr Q B g cc sn V (syS ss ds k)) ∧ Hid (Only (fun y => y = g) w wr)) (fun i _ => dn - (intOf i).toNat)
  case atStart => exact ⟨0, V, Nat.zero_le _, rfl, H0.out, Only.refl _ _⟩
  case round =>
    clear H0
    obtain ⟨k, V, hk, rfl, VV, OO⟩ := hrel
    by_cases hlt : k < dn
    · have hlt' : (k : Int) < (dn : Int) := by omega
      obtain ⟨b2, off2, rfl, hb2, hbw, hcell⟩ := (HD.out.to OO.out (fun y hy _ e => hy e) (fun y hy _ e => H0f.out (e ▸ hy))).at (by omega)
      obtain ⟨ap, np, cp, mt, m0, hp⟩ := hcell k hlt
      have hkl : k < ds.length := by rw [← HND.out]; exact hlt
      have hwk := (wrtOk_iff _ _).1 (HOK.out k hkl)
      obtain ⟨u, hu⟩ : ∃ u : Nat, (dwAt ds k).1 = (u : Int) := ⟨(dwAt ds k).1.toNat, by omega⟩
      have hus : u < sn := by omega
      have hus' : (u : Int) < (sn : Int) := by omega
      rw [hu] at mt
      have HSY : Hid (syS ss ds (k + 1) = (syS ss ds k).set u (dwAt ds k).2) := by show _ = _; rw [syS, hu]; rfl
      have hb0 := below_new (o := .cells #[.int .i64 (u : Int), .slice ap np cp] 43) (w := wr) (Below.refl _ _)
      have hgg := World.ownsRow.lt VV.out.row g rfl
      have V2 : Hid (SH ((wr.alloc (.cells #[.int .i64 (u : Int), .slice ap np cp] 43)).setCell ⟨g, u, none⟩ (.slice ap np cp)) Q B g cc sn (V.set u (.slice ap np cp)) (syS ss ds (k + 1))) := by
        rw [HSY.out]
        exact (VV.out.below hb0).put hus (hp.below hb0)
      have O2 : Hid (Only (fun y => y = g) w ((wr.alloc (.cells #[.int .i64 (u : Int), .slice ap np cp] 43)).setCell ⟨g, u, none⟩ (.slice ap np cp))) := (OO.out.trans (only_of_below hb0 _)).trans (only_set (R := fun y => y = g) rfl _)
      have V2' : Hid (SH ((wr.setCell ⟨g, u, none⟩ (.slice ap np cp)).alloc (.cells #[.int .i64 (u : Int), .slice ap np cp] 43)) Q B g cc sn (V.set u (.slice ap np cp)) (syS ss ds (k + 1))) := by
        rw [HSY.out]
        exact (VV.out.put hus hp).below (below_new (Below.refl _ _))
      have O2' : Hid (Only (fun y => y = g) w ((wr.setCell ⟨g, u, none⟩ (.slice ap np cp)).alloc (.cells #[.int .i64 (u : Int), .slice ap np cp] 43))) := (OO.out.trans (only_set (R := fun y => y = g) rfl _)).trans (only_of_below (below_new (Below.refl _ _)) _)
      obtain ⟨-, -, -, hr⟩ := own_at VV.out.row
      obtain ⟨g', e', -, -, hf, hcl⟩ := hr (by omega)
      cases e'
      have n0 := hcl u _ (uAt_some (by rw [VV.out.len]; exact hus))
      have f0 := hf u
      generalize uAt V u = o0 at *
      have sg := hgg.2
      clear hcell hbw hp hwk hu hr hf hcl hb0 VV OO HSY hgg hb2
      go_wp2
      go_roundw
      case rel => exact ⟨k + 1, _, by omega, by go_num, (by first | exact V2.out | exact V2'.out), (by first | exact O2.out | exact O2'.out)⟩
      case measure => simp [intOf]; omega
    · have HKD : Hid (k = ds.length) := by show _ = _; rw [← HND.out]; omega
      go_wp2
      go_end0
      exact ⟨rfl, OO.out, V, by rw [← HKD.out]; exact VV.out⟩
set_option maxHeartbeats 8000000 in
set_option maxRecDepth 20000 in
theorem implDiskSync_any (S : Nat → Prop) (sa : Option Addr) (sn sc : Nat) (da : Option Addr) (dn dc : Nat) (d : DK) (w : World) (h : Dk w S sa sn sc da dn dc d) (hsm : smallD d) (h1 : sn ≤ 1048576) (h2 : dn ≤ 1048576) :
    Calls Tryd.prog 5 #[.agg #[.slice sa sn sc, .slice da dn dc]] w fun e w' => DkPost1 (dsV d) w e w' := by
  have HH := hid h
  have HSM := hid hsm
  have HBY := hid h.bytes'
  have hsc := h.hs.len.2
  have hdc := h.hd.len.2
  have HNS := hid h.hs.len.1
  have HND := hid h.hd.len.1
  have HB0 : Hid (Below w.heap.size w ((w.alloc (.cells #[.slice sa sn sc, .slice da dn dc] 26)).alloc (.cells #[.slice none 0 0, .slice none 0 0] 26))) := below_new (below_new (Below.refl _ _))
  have K0 := hid ((Bk.new w 26 [.slice sa sn sc, .slice da dn dc]).alloc (.cells #[.slice none 0 0, .slice none 0 0] 26))
  have K1 : Hid (Bk ((w.alloc (.cells #[.slice sa sn sc, .slice da dn dc] 26)).alloc (.cells #[.slice none 0 0, .slice none 0 0] 26)) (w.heap.size + 1) 26 [.slice none 0 0, .slice none 0 0]) := by
    have := Bk.new (w.alloc (.cells #[.slice sa sn sc, .slice da dn dc] 26)) 26 [.slice none 0 0, .slice none 0 0]
    show Bk _ _ _ _
    simpa using this
  have HOK := hid (implDiskOk_any S sa sn sc da dn dc d _ (h.below HB0.out))
  have HDV : Hid (dsV d = if dkOk d = true then ⟨syS d.sh d.dw d.dw.length, []⟩ else emD) := rfl
  clear h hsm
  go_enter Tryd.func5, Tryd.ntmps5
  go_wp2_with fail
  refine HOK.out.mono ?_
  generalize (w.alloc (.cells #[.slice sa sn sc, .slice da dn dc] 26)).alloc (.cells #[.slice none 0 0, .slice none 0 0] 26) = W0 at *
  rintro e w1 ⟨rfl, hb⟩
  have J0 := hid (K0.out.below hb)
  have J1 := hid (K1.out.below hb)
  have B1 := hid (bt7 HB0.out hb)
  clear hb HB0 K0 K1 HOK
  cases hok : dkOk d with
  | false =>
    have HF : Hid (dsV d = emD) := by show _ = _; rw [HDV.out, hok]; rfl
    have r0 := J1.out.cell (j := 0) rfl
    have r1 := J1.out.cell (j := 1) rfl
    have f0 := J1.out.free 0
    have f1 := J1.out.free 1
    go_wp2
    try simp only [Exit.inBlock, Exit.then]
    refine bodyPost_ret (v := .agg #[.slice none 0 0, .slice none 0 0]) ?_ rfl ?_
    · exact results_dsk rfl _ _ _ rfl (by go_simp) (by go_simp)
    · rw [HF.out]
      exact ⟨_, _, _, _, _, _, _, _, rfl, do_nil _ _, (B1.out.setCell (p := ⟨w.heap.size + 1, 0, none⟩) (Nat.le_succ _) _).setCell (p := ⟨w.heap.size + 1, 1, none⟩) (Nat.le_succ _) _⟩
  | true =>
    have HF : Hid (dsV d = ⟨syS d.sh d.dw d.dw.length, []⟩) := by show _ = _; rw [HDV.out, hok]; rfl
    have HOK := hid hok
    have hsn : 2 ≤ sn ∧ sn ≤ 400 := by have := (dkOk_iff d).1 hok; rw [HNS.out]; exact ⟨this.1, this.2.1⟩
    clear hok HDV
    obtain ⟨V, hVl, hVr, hVb⟩ := HH.out.hs.below B1.out
    rw [← HNS.out] at hVr
    obtain ⟨b, off, rfl, -⟩ := Rw.at hVr (by omega)
    have HCL := hid (cloneS_any S b off sn sc V w1 hVr (by rw [hVl, HNS.out]) (one_slices hVl hVb) h1)
    have HVB := hid hVb
    have HVL := hid hVl
    clear hVl hVr hVb
    have d0 := J0.out.cell (j := 0) rfl
    go_wp2_with fail
    refine HCL.out.mono ?_
    rintro e w2 ⟨ga, cc, rfl, hrow, hb⟩
    have hcc := (own_at hrow).2.1
    have hcc' := (own_at hrow).2.2.1
    obtain ⟨g, rfl, -⟩ := (own_at hrow).2.2.2 (by omega)
    have V0 : Hid (VX w w2 (some ⟨b, off, none⟩) sn sc da dn dc g cc V (syS d.sh d.dw 0)) := VX.start B1.out J0.out J1.out HVL.out HNS.out.symm HVB.out hrow hb
    have d1 := V0.out.k0.cell (j := 1) rfl
    clear hrow hb J0 J1 B1 HCL HVB HVL d0
    go_wp2_with fail
    have HWD : Hid (Wrr w2 (fun y => y ≠ g) (.slice da dn dc) d.dw) := ((HH.out.hd.mono (R := fun y => y < w.heap.size) (fun y _ hy => hy)).below V0.out.bel).mono (fun y hy _ e => by have := World.ownsRow.lt V0.out.row g rfl; omega)
    have HWK : Hid (∀ i, i < d.dw.length → wrtOk sn (dwAt d.dw i) = true) := fun i hi => by rw [HNS.out]; exact ((dkOk_iff d).1 HOK.out).2.2.2.2 i hi
    refine (writeDown_any (fun y => y ≠ g) _ g cc sn V _ da dn dc d.dw w2 V0.out.sh HWD.out.two HWK.out h2 h1).mono ?_
    rintro e wr ⟨rfl, hon, V, hsh⟩
    have VV := hid (V0.out.turn hsh hon)
    rw [syS_zero] at VV
    clear d1 V0 hsh hon HWD HWK
    have HDK : Hid (Dk wr (fun _ => True) (some ⟨g, 0, none⟩) sn cc none 0 0 ⟨syS d.sh d.dw d.dw.length, []⟩) := ⟨VV.out.shr, wrr_nil _ _⟩
    have HSM2 : Hid (smallD ⟨syS d.sh d.dw d.dw.length, []⟩) := ⟨fun i hi => by have := (syS_facts HOK.out HBY.out d.dw.length (Nat.le_refl _) i).2; simp only at this ⊢; omega, fun i hi => by simp at hi⟩
    go_wp2_with fail
    refine (copyDisk_any (fun _ => True) _ _ _ _ _ _ _ _ HDK.out HSM2.out h1 (by omega)).mono ?_
    rintro e w3 ⟨za, zn, zc, ya, yn, yc, V3, U3, rfl, hO, hb⟩
    have J1 := hid (VV.out.k1.below hb)
    have HO := hid hO
    have B2 := hid (bt7 VV.out.bel hb)
    have SZ : Hid (w.heap.size + 2 ≤ wr.heap.size) := VV.out.k1.lt
    clear hO hb VV HDK
    have r0 := J1.out.cell (j := 0) rfl
    have r1 := J1.out.cell (j := 1) rfl
    have f0 := J1.out.free 0
    have f1 := J1.out.free 1
    go_wp2
    try simp only [Exit.inBlock, Exit.then]
    refine bodyPost_ret (v := .agg #[.slice za zn zc, .slice ya yn yc]) ?_ rfl ?_
    · exact results_dsk rfl _ _ _ rfl (by go_simp) (by go_simp)
    · rw [HF.out]
      have O1 : Only (fun y => y = w.heap.size + 1) w3 ((w3.setCell ⟨w.heap.size + 1, 0, none⟩ (.slice za zn zc)).setCell ⟨w.heap.size + 1, 1, none⟩ (.slice ya yn yc)) := (only_set (R := fun y => y = w.heap.size + 1) rfl _).trans (only_set (R := fun y => y = w.heap.size + 1) rfl _)
      have hz := SZ.out
      exact ⟨_, _, _, _, _, _, _, _, rfl, (HO.out.to O1 (fun y e e2 => by have := (HO.out.lt e).1; omega)).base (by omega), (B2.out.setCell (p := ⟨w.heap.size + 1, 0, none⟩) (Nat.le_succ _) _).setCell (p := ⟨w.heap.size + 1, 1, none⟩) (Nat.le_succ _) _⟩
end Go.Proofs.YtcpdedpgjaimkaaDoor
/-
  The program's writer: what its methods fail and add do to it, for every state of the writer.
-/
namespace Go.Proofs.YtcpdedpgjaimkaaDoor
open Go.RowKit

/-- Block g is a writer that gathers at most 'most' bytes: it holds the bytes zs (st = some zs), or an error (st = none). -/
def Wr (w : World) (g most : Nat) (st : Option (List Int)) : Prop :=
  ∃ v ev zs, w.cell? ⟨g, 0, none⟩ = some v ∧ w.cell? ⟨g, 1, none⟩ = some (.int .i64 most) ∧ w.cell? ⟨g, 2, none⟩ = some ev ∧
    w.frozen? ⟨g, 0, none⟩ = false ∧ w.frozen? ⟨g, 2, none⟩ = false ∧ Ob w (g + 1) v zs ∧ zs.length ≤ most ∧ most ≤ 1099511627776 ∧ (∀ z ∈ zs, 0 ≤ z ∧ z ≤ 255) ∧
    ((ev = .nilIface ∧ st = some zs) ∨ ((∃ t x, ev = .iface t x) ∧ st = none))

/-- The variable at block v holds an error. -/
def Err (w : World) (v : Nat) : Prop := ∃ t x, w.cell? ⟨v, 0, none⟩ = some (.iface t x)
theorem Err.below {w w' : World} {v g : Nat} (h : Err w v) (hb : Below g w w') (hv : v < g) : Err w' v := by
  obtain ⟨t, x, hc⟩ := h
  exact ⟨t, x, by rw [hb.cell (p := ⟨v, 0, none⟩) hv]; exact hc⟩

def addSt (most : Nat) : Option (List Int) → List Int → Option (List Int)
  | none, _ => none
  | some zs, ys => if zs.length + ys.length ≤ most then some (zs ++ ys) else none

theorem Ob.drewN {w : World} {B : Nat} {v : Value} {zs : List Int} (h : Ob w B v zs) (q : Nat) : Ob (w.drewN q) B v zs := h
theorem Rd.drewN {w : World} {a : Option Addr} {n c : Nat} {zs : List Int} (h : Rd w a n c zs) (q : Nat) : Rd (w.drewN q) a n c zs := h

set_option maxHeartbeats 400000 in
theorem fail_set (g : Nat) (t : TypeId) (x : Value) (w : World) (h : w.cell? ⟨g, 2, none⟩ = some .nilIface) (hf : w.frozen? ⟨g, 2, none⟩ = false) :
    Calls Tryd.prog 43 #[.pointer (some ⟨g, 0, none⟩), .iface t x] w fun e w' => e = .returned (.tuple #[]) ∧ w' = w.setCell ⟨g, 2, none⟩ (.iface t x) := by
  go_enter Tryd.func43, Tryd.ntmps43
  go_wp2
  go_end0
  exact ⟨rfl, rfl⟩
set_option maxHeartbeats 400000 in
theorem fail_keep (g : Nat) (t : TypeId) (x : Value) (w : World) (y : TypeId) (z : Value) (h : w.cell? ⟨g, 2, none⟩ = some (.iface y z)) :
    Calls Tryd.prog 43 #[.pointer (some ⟨g, 0, none⟩), .iface t x] w fun e w' => e = .returned (.tuple #[]) ∧ w = w' := by
  go_enter Tryd.func43, Tryd.ntmps43
  go_wp2
  go_end0
  exact ⟨rfl, rfl⟩
/-- What is kept of a writer where its error alone is set. -/
theorem wr_failed {w : World} {g most : Nat} {zs : List Int} {v : Value} {t : TypeId} {x : Value} (c0 : w.cell? ⟨g, 0, none⟩ = some v) (c1 : w.cell? ⟨g, 1, none⟩ = some (.int .i64 most)) (c2 : w.cell? ⟨g, 2, none⟩ = some .nilIface)
    (f0 : w.frozen? ⟨g, 0, none⟩ = false) (f2 : w.frozen? ⟨g, 2, none⟩ = false) (ho : Ob w (g + 1) v zs) (hl : zs.length ≤ most) (hm : most ≤ 1099511627776) (hb : ∀ z ∈ zs, 0 ≤ z ∧ z ≤ 255) :
    Wr (w.setCell ⟨g, 2, none⟩ (.iface t x)) g most none := by
  refine ⟨v, .iface t x, zs, ?_, ?_, ?_, ?_, ?_, ownsRow_setCell_below ho (by simp) _, hl, hm, hb, .inr ⟨⟨t, x, rfl⟩, rfl⟩⟩
  · rw [World.cell?_setCell_other (h := by simp)]; exact c0
  · rw [World.cell?_setCell_other (h := by simp)]; exact c1
  · exact World.cell?_setCell_same _ _ _ c2
  · simp [f0]
  · simp [f2]

theorem Wr.drewN {w : World} {g most : Nat} {st : Option (List Int)} (h : Wr w g most st) (q : Nat) : Wr (w.drewN q) g most st := h
theorem Wr.lt {w : World} {g most : Nat} {st : Option (List Int)} (h : Wr w g most st) : g < w.heap.size := by
  obtain ⟨v, ev, zs, c0, _⟩ := h
  exact block_lt c0
/-- A writer keeps in a world that has kept its block and its row. -/
theorem Wr.alloc {w : World} {g most : Nat} {st : Option (List Int)} (h : Wr w g most st) (o : Obj) : Wr (w.alloc o) g most st := by
  have hlt := h.lt
  obtain ⟨v, ev, zs, c0, c1, c2, f0, f2, ho, hr⟩ := h
  exact ⟨v, ev, zs, by rw [World.cell?_alloc_past (hn := hlt)]; exact c0, by rw [World.cell?_alloc_past (hn := hlt)]; exact c1, by rw [World.cell?_alloc_past (hn := hlt)]; exact c2,
    by rw [World.frozen?_alloc_past (hn := hlt)]; exact f0, by rw [World.frozen?_alloc_past (hn := hlt)]; exact f2, ho.alloc o, hr⟩

set_option maxHeartbeats 800000 in
theorem add_any (g most : Nat) (st : Option (List Int)) (a : Option Addr) (n c : Nat) (ys : List Int) (w : World) (h : Wr w g most st) (he : Err w 1) (hs : Rd w a n c ys) (hn : n ≤ 1099511627776) :
    Calls Tryd.prog 42 #[.pointer (some ⟨g, 0, none⟩), .slice a n c] w fun e w' => e = .returned (.tuple #[]) ∧ Below g w w' ∧ Wr w' g most (addSt most st ys) := by
  have HW := hid h
  have HS := hid hs
  have HN : Hid (n = ys.length) := hs.1
  have hyb := at_byte hs.2.2.2.2.1
  have HY := hid hyb
  have hlt := h.lt
  obtain ⟨v, ev, zs, c0, c1, c2, f0, f2, ho, hl, hm, hb, hst⟩ := h
  obtain ⟨t, x, hx⟩ := he
  obtain ⟨va, vc, hv⟩ := ho.shape
  have HO := hid ho
  have HB := hid hb
  have HV := hid hv
  rw [hv] at c0
  generalize hL : zs.length = L at hv hl c0
  have HL := hid hL
  clear ho hb hs hyb hL hv
  by_cases hbig : (most : Int) - (L : Int) < (n : Int)
  · rcases hst with ⟨rfl, rfl⟩ | ⟨⟨y, z, rfl⟩, rfl⟩
    · have HA : Hid (addSt most (some zs) ys = none) := by
        show addSt most (some zs) ys = none
        unfold addSt
        exact if_neg (by rw [HL.out, ← HN.out]; omega)
      go_enter Tryd.func42, Tryd.ntmps42
      go_wp2
      go_quiet (fail)
      go_wp2_with (go_at_call 43; refine (fail_set g t x _ (by simpa using c2) (by simpa using f2)).mono ?_)
      rintro e w1 ⟨rfl, hw1⟩
      have HW1 : Hid (Wr w1 g most none) := by
        show Wr w1 g most none
        rw [hw1]
        exact wr_failed (w := w.drewN nq) (by simpa [HV.out, HL.out] using c0) (by simpa using c1) (by simpa using c2) (by simpa using f0) (by simpa using f2) HO.out (by rw [HL.out]; exact hl) hm HB.out
      have hb1 : Below g w w1 := by rw [hw1]; exact Below.setCell (p := ⟨g, 2, none⟩) (Below.drewN' (Below.refl g w) nq) (Nat.le_refl g) _
      have d2 : w1.cell? ⟨g, 2, none⟩ = some (.iface t x) := by rw [hw1]; exact World.cell?_setCell_same _ _ _ (by simpa using c2)
      clear hw1
      go_wp2
      go_end0
      exact ⟨rfl, hb1, by rw [HA.out]; exact HW1.out⟩
    · go_enter Tryd.func42, Tryd.ntmps42
      go_wp2
      go_quiet (fail)
      go_wp2_with (go_at_call 43; refine (fail_keep g t x _ y z (by simpa using c2)).mono ?_)
      rintro e w1 ⟨rfl, rfl⟩
      go_wp2
      go_end0
      exact ⟨rfl, Below.drewN' (Below.refl _ _) nq, HW.out.drewN nq⟩
  · rcases hst with ⟨rfl, rfl⟩ | ⟨⟨y, z, rfl⟩, rfl⟩
    · have HA : Hid (addSt most (some zs) ys = some (zs ++ ys)) := by
        show addSt most (some zs) ys = some (zs ++ ys)
        unfold addSt
        exact if_pos (by rw [HL.out, ← HN.out]; omega)
      have HO' : Hid (Ob w (g + 1) (.slice va L vc) zs) := by show Ob w (g + 1) (.slice va L vc) zs; rw [← HL.out, ← HV.out]; exact HO.out
      go_enter Tryd.func42, Tryd.ntmps42
      go_wp2
      go_quiet (fail)
      go_wp2_with (at_builtin; refine wpList_append_rd rfl _ _ rfl (g + 1) _ zs rfl (HO'.out.drewN nq) a n c ys rfl (HS.out.drewN nq) ?b ?base ?_)
      case b => rw [HL.out, ← HN.out]; omega
      case base => simp; omega
      intro v2 w2 hown2 hg2
      have hb2 : Below (g + 1) w w2 := Ob.below (HO'.out.drewN nq) (Below.drewN' (Below.refl _ _) nq) (by simp; omega) hg2
      have HO2 := hid hown2
      obtain ⟨a2, k2, hv2⟩ := hown2.shape
      have d0 := (hb2.cell (p := ⟨g, 0, none⟩) (by simp)).trans c0
      have d1 := (hb2.cell (p := ⟨g, 1, none⟩) (by simp)).trans c1
      have d2 := (hb2.cell (p := ⟨g, 2, none⟩) (by simp)).trans c2
      have e0 := (hb2.frozen (p := ⟨g, 0, none⟩) (by simp)).trans f0
      have e2 := (hb2.frozen (p := ⟨g, 2, none⟩) (by simp)).trans f2
      generalize hL2 : (zs ++ ys).length = L2 at hv2
      have HL2 := hid hL2
      have HV2 := hid hv2
      clear hown2 hg2 hL2
      rw [hv2]
      clear hv2
      go_wp2
      go_end0
      refine ⟨rfl, Below.setCell (p := ⟨g, 0, none⟩) (hb2.mono (Nat.le_succ g)) (Nat.le_refl g) _, ?_⟩
      rw [HA.out]
      refine ⟨.slice a2 L2 k2, .nilIface, zs ++ ys, World.cell?_setCell_same _ _ _ d0, ?_, ?_, by simpa using e0, by simpa using e2, ?_, ?_, hm, byte_append HB.out HY.out, .inl ⟨rfl, rfl⟩⟩
      · rw [World.cell?_setCell_other (h := by simp)]; exact d1
      · rw [World.cell?_setCell_other (h := by simp)]; exact d2
      · rw [← HV2.out]; exact ownsRow_setCell_below HO2.out (by simp) _
      · rw [List.length_append, HL.out, ← HN.out]; omega
    · go_enter Tryd.func42, Tryd.ntmps42
      go_wp2
      go_quiet (fail)
      go_wp2
      go_end0
      exact ⟨rfl, Below.drewN' (Below.refl _ _) nq, HW.out.drewN nq⟩

theorem addSt_none (most : Nat) (ys : List Int) : addSt most none ys = none := rfl
theorem addSt_addSt (most : Nat) (st : Option (List Int)) (xs ys : List Int) : addSt most (addSt most st xs) ys = addSt most st (xs ++ ys) := by
  cases st with
  | none => rfl
  | some zs =>
    by_cases h : zs.length + xs.length ≤ most
    · have e : addSt most (some zs) xs = some (zs ++ xs) := by unfold addSt; exact if_pos h
      rw [e]
      unfold addSt
      simp [Nat.add_assoc]
    · have e : addSt most (some zs) xs = none := by unfold addSt; exact if_neg h
      have e2 : addSt most (some zs) (xs ++ ys) = none := by unfold addSt; exact if_neg (by rw [List.length_append]; omega)
      rw [e, e2, addSt_none]
theorem Wr.add_nil {w : World} {g most : Nat} {st : Option (List Int)} (h : Wr w g most st) : addSt most st [] = st := by
  obtain ⟨v, ev, zs, _, _, _, _, _, _, hl, _, _, ⟨_, rfl⟩ | ⟨_, rfl⟩⟩ := h
  · unfold addSt; simp [hl]
  · rfl

/-- What number does to the writer's state. -/
def numSt (most : Nat) (st : Option (List Int)) (n : Int) : Option (List Int) := if 0 ≤ n ∧ n ≤ 1099511627775 then addSt most st (enc n) else none

set_option maxHeartbeats 400000 in
/-- A new writer begins with a copy of the bytes. -/
theorem newWriter_any (most : Nat) (a : Option Addr) (n c : Nat) (ys : List Int) (w : World) (he : Err w 1) (hg : 1 < w.heap.size) (hs : Rd w a n c ys) (hn : n ≤ 1099511627776) (hm : most ≤ 1099511627776) :
    Calls Tryd.prog 33 #[.slice a n c, .int .i64 most] w fun e w' => e = .returned (.pointer (some ⟨w.heap.size, 0, none⟩)) ∧ Below w.heap.size w w' ∧ Wr w' w.heap.size most (addSt most (some []) ys) := by
  have HE := hid he
  have HS := hid hs
  have HG := hid hg
  clear he hs hg
  go_enter Tryd.func33, Tryd.ntmps33
  have hw0 : Wr (w.alloc (.cells #[.slice none 0 0, .int .i64 most, .nilIface] 79)) w.heap.size most (some []) := by
    refine ⟨.slice none 0 0, .nilIface, [], ?_, ?_, ?_, World.frozen?_alloc_at (hn := rfl) .., World.frozen?_alloc_at (hn := rfl) .., World.ownsRow_nil _ _ _ _, by simp, hm, by simp, .inl ⟨rfl, rfl⟩⟩
    · rw [World.cell?_alloc_at (hn := rfl)]; rfl
    · rw [World.cell?_alloc_at (hn := rfl)]; rfl
    · rw [World.cell?_alloc_at (hn := rfl)]; rfl
  have hb0 : Below w.heap.size w (w.alloc (.cells #[.slice none 0 0, .int .i64 most, .nilIface] 79)) := (Below.refl _ _).alloc (Nat.le_refl _) _
  have HW0 := hid hw0
  have HB0 := hid hb0
  clear hw0 hb0
  go_wp2_with (go_at_call 42; refine (add_any w.heap.size most (some []) a n c ys _ HW0.out (HE.out.below HB0.out HG.out) (HS.out.kept HB0.out) hn).mono ?_; rintro e w1 ⟨rfl, hb1, hw1⟩)
  go_ret
  exact ⟨rfl, HB0.out.trans hb1, hw1⟩

set_option maxHeartbeats 400000 in
theorem told_none (g most : Nat) (w : World) (h : Wr w g most none) :
    Calls Tryd.prog 35 #[.pointer (some ⟨g, 0, none⟩)] w fun e w' => e = .returned (.tuple #[.slice none 0 0, .bool false]) ∧ w = w' := by
  obtain ⟨v, ev, zs, c0, c1, c2, f0, f2, ho, hl, hm, hb, ⟨_, h⟩ | ⟨⟨t, x, rfl⟩, _⟩⟩ := h
  · cases h
  · clear ho hb
    go_enter Tryd.func35, Tryd.ntmps35
    go_wp2
    go_ret2
    exact ⟨rfl, rfl⟩
set_option maxHeartbeats 400000 in
theorem told_some (g most : Nat) (out : List Int) (w : World) (h : Wr w g most (some out)) :
    Calls Tryd.prog 35 #[.pointer (some ⟨g, 0, none⟩)] w fun e w' => ∃ v, e = .returned (.tuple #[v, .bool true]) ∧ Ob w (g + 1) v out ∧ w = w' := by
  obtain ⟨v, ev, zs, c0, c1, c2, f0, f2, ho, hl, hm, hb, ⟨rfl, h⟩ | ⟨⟨t, x, rfl⟩, h⟩⟩ := h
  · cases h
    obtain ⟨va, vc, hv⟩ := ho.shape
    have HO := hid ho
    have HV := hid hv
    rw [hv] at c0
    clear ho hb hv
    go_enter Tryd.func35, Tryd.ntmps35
    go_wp2
    go_ret2
    exact ⟨_, rfl, by have := HO.out; rw [HV.out] at this; exact this, rfl⟩
  · cases h
end Go.Proofs.YtcpdedpgjaimkaaDoor
/-
  What the model's PutVar answers, for every slice of bytes and every number.
-/
namespace Go.Proofs.YtcpdedpgjaimkaaDoor
open Go.RowKit

set_option maxHeartbeats 400000 in
theorem specNum_any (n : Int) (w : World) (b : Bool) (hb : b = decide (0 ≤ n ∧ n ≤ 1099511627775)) :
    Calls Tryd.prog 55 #[.int .i64 n] w fun e w' => e = .returned (.bool b) ∧ w = w' := by
  have HB : Hid (b = decide (0 ≤ n ∧ n ≤ 1099511627775)) := hb
  clear hb
  by_cases h0 : 0 ≤ n
  · by_cases h1 : n ≤ 1099511627775
    · go_enter Tryd.func55, Tryd.ntmps55
      go_wp2
      go_ret
      exact ⟨by rw [HB.out]; simp [h0, h1], rfl⟩
    · go_enter Tryd.func55, Tryd.ntmps55
      go_wp2
      go_ret
      exact ⟨by rw [HB.out]; simp [h1], rfl⟩
  · go_enter Tryd.func55, Tryd.ntmps55
    go_wp2
    go_ret
    exact ⟨by rw [HB.out, decide_eq_false (by omega)]; rfl, rfl⟩

/-- What a put leaves: nil and false, or a row of the call's own and true. -/
def Put (w : World) (r : Option (List Int)) (e : Ending) (w' : World) : Prop :=
  Below w.heap.size w w' ∧ ((r = none ∧ e = .returned (.tuple #[.slice none 0 0, .bool false])) ∨ ∃ v zs, r = some zs ∧ e = .returned (.tuple #[v, .bool true]) ∧ Ob w' w.heap.size v zs)

set_option maxHeartbeats 800000 in
theorem specPutVar_any (a : Option Addr) (n c : Nat) (zs : List Int) (m : Int) (w : World) (h : Rd w a n c zs) (hlen : n ≤ 1099511627776) :
    Calls Tryd.prog 46 #[.slice a n c, .int .i64 m] w fun e w' => Put w (pv zs m) e w' := by
  have HN : Hid (n = zs.length) := h.1
  by_cases hok : 0 ≤ m ∧ m ≤ 1099511627775
  · obtain ⟨h0, h1⟩ := hok
    go_enter Tryd.func46, Tryd.ntmps46
    go_wp2_with (first
      | (go_at_call 55; refine (specNum_any m _ true (by simp [h0, h1])).mono ?_; rintro e w' ⟨rfl, rfl⟩)
      | (at_builtin; refine wpList_append_rd rfl _ _ rfl w.heap.size _ [] rfl (ob_new w w.heap.size (Nat.le_refl _)) a n c zs rfl ?src ?b ?base ?_))
    case src => exact h.kept ((Below.refl _ _).alloc (Nat.le_refl _) _)
    case b => rw [← HN.out]; simp; omega
    case base => simp
    intro v1 w1 hown1 hg1
    have hb1 : Below w.heap.size w w1 := Ob.below (ob_new w w.heap.size (Nat.le_refl _)) ((Below.refl _ _).alloc (Nat.le_refl _) _) (by simp) hg1
    have hown1' : Ob w1 w.heap.size v1 zs := by simpa using hown1
    clear hown1 hg1
    go_wp2
    go_loopw [6, 1] (fun v i wr => ∃ (f : Nat) (q : Int) (ds : List Int), i = .int .i64 q ∧ 0 ≤ q ∧ q ≤ 1099511627775 ∧ q < bnd f ∧ f ≤ 6 ∧ ds.length + f ≤ 6 ∧ ds ++ encF f q = enc m ∧ (∀ z ∈ ds, 0 ≤ z ∧ z ≤ 255) ∧ Ob wr w.heap.size v (zs ++ ds) ∧ Below w.heap.size w wr) (fun _ i _ => (intOf i).toNat)
    case atStart => exact ⟨6, m, [], rfl, h0, h1, by simp [bnd]; omega, by omega, by simp, rfl, by simp, by simpa using hown1', hb1⟩
    case round =>
      obtain ⟨f, q, ds, rfl, hq0, hq1, hqb, hf6, hdl, hds, hdb, hown, hbel⟩ := hrel
      have HD : Hid (ds ++ encF f q = enc m) := hds
      have HB : Hid (∀ z ∈ ds, 0 ≤ z ∧ z ≤ 255) := hdb
      have HQ : Hid (q < bnd f) := hqb
      have HO : Hid (Ob wr w.heap.size u6 (zs ++ ds)) := hown
      clear hds hdb hqb hown hb1 hown1'
      by_cases hge : 128 ≤ q
      · obtain ⟨f', hf'⟩ : ∃ f', f = f' + 1 := by
          cases f with
          | zero => have := HQ.out; simp [bnd] at this; omega
          | succ f => exact ⟨f, rfl⟩
        subst hf'
        have HD2 : Hid (ds ++ [128 + q % 128] ++ encF f' (q / 128) = enc m) := by
          show ds ++ [128 + q % 128] ++ encF f' (q / 128) = enc m
          rw [← HD.out, encF_big f' q hge]; simp
        have HQ2 : Hid (q / 128 < bnd f') := bnd_down f' q HQ.out
        go_wp2_with (at_builtin; refine wpList_append_rd rfl _ _ rfl w.heap.size _ (zs ++ ds) rfl (HO.out.alloc _) _ _ _ [128 + q % 128] rfl ?src ?b ?base ?_)
        case src => exact rd_one wr (128 + q % 128) (by omega) (by omega)
        case b => have := HN.out; simp; omega
        case base => have := hbel.size; simp; omega
        intro v2 w2 hown2 hg2
        have hb2 : Below w.heap.size w w2 := Ob.below (HO.out.alloc _) (hbel.alloc hbel.size _) (by have := hbel.size; simp; omega) hg2
        have HO2 : Hid (Ob w2 w.heap.size v2 (zs ++ (ds ++ [128 + q % 128]))) := hown2
        clear hown2 hg2
        go_wp2
        go_roundw
        case rel => exact ⟨f', q / 128, ds ++ [128 + q % 128], rfl, by omega, by omega, HQ2.out, by omega, by simp; omega, HD2.out, byte_append HB.out (by intro z hz; simp at hz; omega), HO2.out, hb2⟩
        case measure => simp [intOf]; omega
      · have HE : Hid (ds ++ [q] = enc m) := by
          show ds ++ [q] = enc m
          rw [← HD.out, encF_small f q (by omega)]
        go_wp2_with (at_builtin; refine wpList_append_rd rfl _ _ rfl w.heap.size _ (zs ++ ds) rfl (HO.out.alloc _) _ _ _ [q] rfl ?src ?b ?base ?_)
        case src => exact rd_one wr q (by omega) (by omega)
        case b => have := HN.out; simp; omega
        case base => have := hbel.size; simp; omega
        intro v2 w2 hown2 hg2
        have hb2 : Below w.heap.size w w2 := Ob.below (HO.out.alloc _) (hbel.alloc hbel.size _) (by have := hbel.size; simp; omega) hg2
        have hown3 : Ob w2 w.heap.size v2 (zs ++ enc m) := by
          rw [← HE.out]; exact hown2
        have HO2 : Hid (Ob w2 w.heap.size v2 (zs ++ enc m)) := hown3
        obtain ⟨a2, c2, hv2⟩ := hown3.shape
        have hl2 : (zs ++ enc m).length ≤ 1099511627783 := by
          have := (enc_len m).2
          have := HN.out
          simp; omega
        generalize hL : (zs ++ enc m).length = L at hv2 hl2
        have HL : Hid ((zs ++ enc m).length = L) := hL
        clear hown2 hg2 hown3 hL
        rw [hv2]
        by_cases hbig : 4096 < L
        · go_wp2
          go_ret2
          exact ⟨hb2, .inl ⟨pv_long _ _ (by rw [HL.out]; exact hbig), rfl⟩⟩
        · go_wp2
          go_ret2
          exact ⟨hb2, .inr ⟨_, _, pv_ok _ _ h0 h1 (by rw [HL.out]; omega), rfl, by rw [← hv2]; exact HO2.out⟩⟩
  · have HB : Hid (pv zs m = none) := pv_bad zs m (by omega)
    go_enter Tryd.func46, Tryd.ntmps46
    go_wp2_with (go_at_call 55; refine (specNum_any m _ false (by rw [decide_eq_false hok])).mono ?_; rintro e w' ⟨rfl, rfl⟩)
    go_ret2
    exact ⟨Below.refl _ _, .inl ⟨HB.out, rfl⟩⟩
end Go.Proofs.YtcpdedpgjaimkaaDoor
/-
  What the program's PutVar answers, for every slice of bytes and every number: the same as the model's.
-/
namespace Go.Proofs.YtcpdedpgjaimkaaDoor
open Go.RowKit

theorem addSt_start (most : Nat) (zs : List Int) : addSt most (some []) zs = if zs.length ≤ most then some zs else none := by
  unfold addSt; simp
theorem addSt_two (most : Nat) (xs ys : List Int) : addSt most (addSt most (some []) xs) ys = if (xs ++ ys).length ≤ most then some (xs ++ ys) else none := by
  rw [addSt_addSt, addSt_start]
theorem Ob.mono {w : World} {B B' : Nat} {v : Value} {zs : List Int} (h : Ob w B v zs) (hB : B' ≤ B) : Ob w B' v zs := by
  obtain ⟨h1, h2⟩ := h
  refine ⟨h1, ?_⟩
  rcases h2 with h | ⟨g, cap, cur, e, hbg, hr⟩
  · exact .inl h
  · exact .inr ⟨g, cap, cur, e, Nat.le_trans hB hbg, hr⟩
/-- What told tells, as a put. -/
theorem told_put (w w1 : World) (most : Nat) (st : Option (List Int)) (h : Wr w1 w.heap.size most st) (hb : Below w.heap.size w w1) :
    Calls Tryd.prog 35 #[.pointer (some ⟨w.heap.size, 0, none⟩)] w1 fun e w' => ∃ v b, e = .returned (.tuple #[v, .bool b]) ∧ (∃ a n c, v = .slice a n c) ∧ Put w st (.returned (.tuple #[v, .bool b])) w' := by
  cases st with
  | none =>
    refine (told_none w.heap.size most w1 h).mono ?_
    rintro e w' ⟨rfl, rfl⟩
    exact ⟨_, _, rfl, ⟨_, _, _, rfl⟩, hb, .inl ⟨rfl, rfl⟩⟩
  | some out =>
    refine (told_some w.heap.size most out w1 h).mono ?_
    rintro e w' ⟨v, rfl, ho, rfl⟩
    obtain ⟨a, c, hv⟩ := ho.shape
    exact ⟨_, _, rfl, ⟨_, _, _, hv⟩, hb, .inr ⟨v, out, rfl, rfl, ho.mono (Nat.le_succ _)⟩⟩
end Go.Proofs.YtcpdedpgjaimkaaDoor
/-
  What both Fills answer, for every slice of bytes and every size.
-/
namespace Go.Proofs.YtcpdedpgjaimkaaDoor
open Go.RowKit

/-- What Fill answers. -/
def fl (zs : List Int) (m : Int) : Option (List Int) := if (zs.length : Int) ≤ m ∧ m ≤ 4096 then some (zs ++ List.replicate (m - zs.length).toNat 0) else none
theorem fl_bad (zs : List Int) (m : Int) (h : m < zs.length ∨ 4096 < m) : fl zs m = none := by unfold fl; exact if_neg (by omega)
theorem fl_ok (zs : List Int) (k : Nat) (h : zs.length + k ≤ 4096) : fl zs ((zs.length : Int) + (k : Int)) = some (zs ++ List.replicate k 0) := by
  unfold fl
  rw [if_pos (by omega)]
  congr 3
  omega

set_option maxHeartbeats 800000 in
theorem specFill_any (a : Option Addr) (n c : Nat) (zs : List Int) (m : Int) (w : World) (h : Rd w a n c zs) (hlen : n ≤ 1099511627776) :
    Calls Tryd.prog 48 #[.slice a n c, .int .i64 m] w fun e w' => Put w (fl zs m) e w' := by
  have HN : Hid (n = zs.length) := h.1
  have HR := hid h
  clear h
  by_cases h0 : m < 0
  · have HF : Hid (fl zs m = none) := fl_bad zs m (by omega)
    go_enter Tryd.func48, Tryd.ntmps48
    go_wp2
    go_ret2
    exact ⟨Below.refl _ _, .inl ⟨HF.out, rfl⟩⟩
  · by_cases h1 : 4096 < m
    · have HF : Hid (fl zs m = none) := fl_bad zs m (by omega)
      go_enter Tryd.func48, Tryd.ntmps48
      go_wp2
      go_ret2
      exact ⟨Below.refl _ _, .inl ⟨HF.out, rfl⟩⟩
    · by_cases h2 : m < (n : Int)
      · have HF : Hid (fl zs m = none) := fl_bad zs m (by rw [← HN.out]; exact .inl h2)
        go_enter Tryd.func48, Tryd.ntmps48
        go_wp2
        go_ret2
        exact ⟨Below.refl _ _, .inl ⟨HF.out, rfl⟩⟩
      · obtain ⟨k, hk⟩ : ∃ k : Nat, m - (n : Int) = (k : Int) := ⟨(m - (n : Int)).toNat, by omega⟩
        have HF : Hid (fl zs m = some (zs ++ List.replicate k 0)) := by
          show fl zs m = some (zs ++ List.replicate k 0)
          have := fl_ok zs k (by rw [← HN.out]; omega)
          rw [← HN.out] at this
          rw [← this]; congr 1; omega
        have HK := hid hk
        have hkb : k ≤ 4096 := by omega
        clear hk
        go_enter Tryd.func48, Tryd.ntmps48
        go_wp2_with (at_builtin; refine wpList_append_rd rfl _ _ rfl w.heap.size _ [] rfl (ob_new w w.heap.size (Nat.le_refl _)) a n c zs rfl ?src ?b ?base ?_)
        case src => exact HR.out.kept ((Below.refl _ _).alloc (Nat.le_refl _) _)
        case b => rw [← HN.out]; omega
        intro v1 w1 hown1 hg1
        have hb1 : Below w.heap.size w w1 := Ob.below (ob_new w w.heap.size (Nat.le_refl _)) ((Below.refl _ _).alloc (Nat.le_refl _) _) (by simp) hg1
        have HO : Hid (Ob w1 w.heap.size v1 zs) := by show Ob w1 w.heap.size v1 zs; simpa using hown1
        clear hown1 hg1
        go_wp2_with (at_builtin; refine wpList_append_zeros rfl _ _ rfl w.heap.size _ zs rfl HO.out k (congrArg (Value.int .i64) HK.out) ?b2 ?base2 ?_)
        case b2 => rw [← HN.out]; omega
        case base2 => exact hb1.size
        intro v2 w2 hown2 hg2
        have hb2 : Below w.heap.size w w2 := Ob.below HO.out hb1 hb1.size hg2
        have HO2 := hid hown2
        clear hown2 hg2
        go_wp2
        go_ret2
        exact ⟨hb2, .inr ⟨v2, _, HF.out, rfl, HO2.out⟩⟩
/-- What fill does to the writer's state. -/
def fillSt (most : Nat) : Option (List Int) → Int → Option (List Int)
  | none, _ => none
  | some zs, m => if (zs.length : Int) ≤ m ∧ m ≤ most then some (zs ++ List.replicate (m - zs.length).toNat 0) else none

theorem rd_zero (w : World) (k : Nat) (hk : k ≤ 1048576) : Rd (w.alloc (.cells (madeCells #[.int .u8 0] k) 5)) (some ⟨w.heap.size, 0, none⟩) k k (List.replicate k 0) := by
  refine ⟨by simp, Nat.le_refl _, by omega, by omega, fun i => ?_, fun _ => ⟨w.heap.size, 0, rfl, by simp, fun i hi => ?_⟩⟩
  · by_cases hi : i < k
    · simp [hi]
    · rw [List.getElem?_eq_none (by simp; omega)]; simp
  · rw [World.cell?_alloc_at (hn := rfl)]
    simp [madeCells, hi, Nat.mod_one]

set_option maxHeartbeats 800000 in
theorem fill_any (g most : Nat) (st : Option (List Int)) (m : Int) (w : World) (h : Wr w g most st) (hm4 : most ≤ 1048576) (he : Err w 1) (he2 : Err w 0) (hg : 1 < g) :
    Calls Tryd.prog 34 #[.pointer (some ⟨g, 0, none⟩), .int .i64 m] w fun e w' => e = .returned (.tuple #[]) ∧ Below g w w' ∧ Wr w' g most (fillSt most st m) := by
  have HW := hid h
  have HE := hid he
  have hlt := h.lt
  obtain ⟨v, ev, zs, c0, c1, c2, f0, f2, ho, hl, hm, hb, hst⟩ := h
  obtain ⟨t, x, hx⟩ := he2
  obtain ⟨va, vc, hv⟩ := ho.shape
  have HO := hid ho
  have HB := hid hb
  have HV := hid hv
  rw [hv] at c0
  generalize hL : zs.length = L at hv hl c0
  have HL := hid hL
  clear ho hb hL hv he
  by_cases hbad : m < (L : Int) ∨ (most : Int) < m
  · rcases hst with ⟨rfl, rfl⟩ | ⟨⟨y, z, rfl⟩, rfl⟩
    · have HA : Hid (fillSt most (some zs) m = none) := by
        show fillSt most (some zs) m = none
        unfold fillSt
        exact if_neg (by rw [HL.out]; omega)
      rcases (by omega : m < (L : Int) ∨ (¬ m < (L : Int) ∧ (most : Int) < m)) with hb1 | ⟨hb1, hb3⟩
      all_goals
        clear hbad
        go_enter Tryd.func34, Tryd.ntmps34
        go_wp2_with (go_at_call 43; refine (fail_set g t x _ c2 f2).mono ?_; rintro e w1 ⟨rfl, hw1⟩)
        go_end0
        refine ⟨rfl, Below.setCell (p := ⟨g, 2, none⟩) (Below.refl g w) (Nat.le_refl g) _, ?_⟩
        rw [HA.out]
        exact wr_failed (by rw [c0, HV.out, HL.out]) c1 c2 f0 f2 HO.out (by rw [HL.out]; exact hl) hm HB.out
    · rcases (by omega : m < (L : Int) ∨ (¬ m < (L : Int) ∧ (most : Int) < m)) with hb1 | ⟨hb1, hb3⟩
      all_goals
        clear hbad
        go_enter Tryd.func34, Tryd.ntmps34
        go_wp2_with (go_at_call 43; refine (fail_keep g t x _ y z c2).mono ?_; rintro e w1 ⟨rfl, rfl⟩)
        go_end0
        exact ⟨rfl, Below.refl _ _, HW.out⟩
  · have hb1 : ¬ m < (L : Int) := by omega
    have hb2 : ¬ (most : Int) < m := by omega
    clear hbad
    rcases hst with ⟨rfl, rfl⟩ | ⟨⟨y, z, rfl⟩, rfl⟩
    · obtain ⟨k, hk⟩ : ∃ k : Nat, m - (L : Int) = (k : Int) := ⟨(m - (L : Int)).toNat, by omega⟩
      have hkb : k ≤ 1048576 := by omega
      have HK := hid hk
      clear hk
      have HA : Hid (fillSt most (some zs) m = addSt most (some zs) (List.replicate k 0)) := by
        show fillSt most (some zs) m = addSt most (some zs) (List.replicate k 0)
        have := HK.out
        have e1 : fillSt most (some zs) m = if (zs.length : Int) ≤ m ∧ m ≤ most then some (zs ++ List.replicate (m - zs.length).toNat 0) else none := rfl
        have e2 : addSt most (some zs) (List.replicate k 0) = if zs.length + (List.replicate k (0 : Int)).length ≤ most then some (zs ++ List.replicate k 0) else none := rfl
        rw [e1, e2, HL.out, this, if_pos (by omega), if_pos (by simp; omega)]
        simp
      have hmk : ∀ w, (Instr.makeSlice 22 (.int .i64 (m - (L : Int))) (.int .i64 (m - (L : Int)))).run Tryd.prog w = .ok (.slice (some ⟨w.heap.size, 0, none⟩) k k) (w.alloc (.cells (madeCells #[.int .u8 0] k) 5)) := fun w => by
        rw [HK.out]
        exact run_make_row' (P := Tryd.prog) 22 5 (.int .u8 0) 1 Tryd.underlying22 infoU8 rfl .i64 .i64 k (by omega) (by omega) w
      have HB0 := hid (show Below g w (w.alloc (.cells (madeCells #[.int .u8 0] k) 5)) from (Below.refl _ _).alloc (Nat.le_of_lt hlt) _)
      go_enter Tryd.func34, Tryd.ntmps34
      go_wp2_with (go_at_call 42; refine (add_any g most (some zs) _ k k (List.replicate k 0) _ (HW.out.alloc _) (HE.out.below HB0.out hg) (rd_zero w k hkb) (by omega)).mono ?_; rintro e w1 ⟨rfl, hb, hw⟩)
      go_end0
      exact ⟨rfl, HB0.out.trans hb, by rw [HA.out]; exact hw⟩
    · go_enter Tryd.func34, Tryd.ntmps34
      go_wp2
      go_end0
      exact ⟨rfl, Below.refl _ _, HW.out⟩
theorem fillSt_fl (zs : List Int) (m : Int) : fillSt 4096 (addSt 4096 (some []) zs) m = fl zs m := by
  rw [addSt_start]
  by_cases h : zs.length ≤ 4096
  · rw [if_pos h]; rfl
  · rw [if_neg h, fl_bad zs m (by omega)]; rfl

set_option maxHeartbeats 400000 in
theorem implFill_any (a : Option Addr) (n c : Nat) (zs : List Int) (m : Int) (w : World) (h : Rd w a n c zs) (hlen : n ≤ 1099511627776)
    (he : Err w 1) (he2 : Err w 0) (hg : 1 < w.heap.size) (hg2 : 0 < w.heap.size) :
    Calls Tryd.prog 26 #[.slice a n c, .int .i64 m] w fun e w' => Put w (fl zs m) e w' := by
  have HR := hid h
  have HE := hid he
  have HE2 := hid he2
  have HG := hid hg
  have HG2 := hid hg2
  have HP := hid (fillSt_fl zs m)
  clear h he he2 hg hg2
  go_enter Tryd.func26, Tryd.ntmps26
  go_wp2_with fail
  refine (newWriter_any 4096 a n c zs w HE.out HG.out HR.out hlen (by omega)).mono ?_
  rintro e w1 ⟨rfl, hb1, hw1⟩
  have HB1 := hid hb1
  have HW1 := hid hw1
  clear hb1 hw1
  go_wp2_with fail
  refine (fill_any w.heap.size 4096 _ m w1 HW1.out (by omega) (HE.out.below HB1.out HG.out) (HE2.out.below HB1.out HG2.out) HG.out).mono ?_
  rintro e w2 ⟨rfl, hb2, hw2⟩
  have HB2 := hid (HB1.out.trans hb2)
  have HW2 := hid hw2
  clear hb2 hw2
  go_wp2_with fail
  refine (told_put w w2 4096 _ HW2.out HB2.out).mono ?_
  rintro e w3 ⟨v, b, rfl, ⟨a3, n3, c3, hv⟩, hput⟩
  rw [HP.out] at hput
  have HQ := hid hput
  clear hput
  rw [hv] at HQ
  rw [hv]
  go_wp2
  go_ret2
  exact HQ.out
end Go.Proofs.YtcpdedpgjaimkaaDoor
/-
  What a row's list of errors gives: the variable's cell holds an error.
-/
namespace Go.Proofs.YtcpdedpgjaimkaaDoor
open Go.RowKit Go.ChangeShapes

theorem laid_err {P : Program} {n nm : String} {d : DataW Unit} {r : List (String × DataW Unit)} {W : World} {g : Nat} {ti : TypeId} {ms : Array (String × TypeId)}
    (h : laidMet P ((n, .iface nm d) :: r) W) (hg : P.globalNamed n = some g) (ht : (P.globals[g]?).map (·.type) = some ti) (hi : P.underlying ti = some (.interface ms)) : Err W g := by
  obtain ⟨ps, ⟨g0, t0, cs0, f0, p0, q0, hg0, ht0, hv0, hd0, _, e0⟩, _, hrows⟩ := h
  obtain rfl := Option.some.inj (hg.symm.trans hg0)
  obtain rfl := Option.some.inj (ht.symm.trans ht0)
  obtain ⟨f1, u, v, hcs, hn, h1⟩ := iface_of_trod hi hd0
  have hc : cs0 = #[.iface u v] := by
    cases cs0
    simp_all
  subst hc
  exact ⟨u, v, by simpa using World.var?_cell hg0 hv0 0⟩
theorem Err.lt {w : World} {g : Nat} (h : Err w g) : g < w.heap.size := by
  obtain ⟨t, x, hc⟩ := h
  exact block_lt hc
end Go.Proofs.YtcpdedpgjaimkaaDoor
/-
  Tear of the program.
-/
namespace Go.Proofs.YtcpdedpgjaimkaaDoor
open Go.RowKit
theorem shOk_iff (zs : List Int) : shOk zs = true ↔ zs.length = 0 ∨ zs.length = 512 := by simp only [shOk, Bool.or_eq_true, decide_eq_true_eq]
def shV (zs : List Int) : Option (List Int) := if shOk zs = true then some (sheet zs) else none
set_option maxHeartbeats 1000000 in
theorem sheetOk_any (a : Option Addr) (n c : Nat) (zs : List Int) (w : World) (h : n = zs.length) (hn : n ≤ 9223372036854775807) :
    Calls Tryd.prog 16 #[.slice a n c] w fun e w' => e = .returned (.bool (shOk zs)) ∧ w' = w := by
  by_cases h0 : n = 0
  · have HV : Hid (shOk zs = true) := (shOk_iff zs).2 (by omega)
    subst h0
    clear h
    go_enter Tryd.func16, Tryd.ntmps16
    go_wp2
    go_ret
    exact ⟨by rw [HV.out]; rfl, rfl⟩
  · have h0' : ((n : Int) == 0) = false := by simp; omega
    have h0'' : ¬ (n : Int) = 0 := by omega
    by_cases h5 : n = 512
    · have HV : Hid (shOk zs = true) := (shOk_iff zs).2 (by omega)
      subst h5
      clear h
      go_enter Tryd.func16, Tryd.ntmps16
      go_wp2
      go_ret
      exact ⟨by rw [HV.out]; rfl, rfl⟩
    · have h5' : ((n : Int) == 512) = false := by simp; omega
      have h5'' : ¬ (n : Int) = 512 := by omega
      have HV : Hid (shOk zs = false) := by
        show _ = false
        rw [Bool.eq_false_iff]
        intro e
        have := (shOk_iff zs).1 e
        omega
      clear h
      go_enter Tryd.func16, Tryd.ntmps16
      go_wp2
      go_ret
      exact ⟨by rw [HV.out]; rfl, rfl⟩
set_option maxHeartbeats 2000000 in
theorem sheetBytes_any (a : Option Addr) (n c : Nat) (zs : List Int) (w : World) (h : Rd w a n c zs) (he : Err w 1) (he2 : Err w 0) :
    Calls Tryd.prog 21 #[.slice a n c] w fun e w' => Put w (shV zs) e w' := by
  have hzl : n = zs.length := h.1
  have HC := hid (sheetOk_any a n c zs w hzl (by have := h.2.1; have := h.2.2.1; omega))
  by_cases hok : n = 0 ∨ n = 512
  · have HV : Hid (fl zs 512 = shV zs) := by
      show _ = _
      rw [shV, if_pos ((shOk_iff zs).2 (by omega)), sheet, fl, if_pos (by omega)]
      rcases hok with e | e
      · rw [if_pos (by omega), List.eq_nil_of_length_eq_zero (by omega : zs.length = 0)]
        rfl
      · rw [if_neg (by omega), ← hzl, e]
        simp
    have HT : Hid (shOk zs = true) := (shOk_iff zs).2 (by omega)
    have HR := hid h
    have HE := hid he
    have HE2 := hid he2
    have hn5 : n ≤ 1099511627776 := by omega
    clear h he he2 hok hzl
    go_enter Tryd.func21, Tryd.ntmps21
    go_wp2_with fail
    refine HC.out.mono ?_
    rintro e w0 ⟨rfl, rfl⟩
    rw [HT.out]
    go_wp2_with fail
    refine (implFill_any a _ c zs 512 _ HR.out (by omega) HE.out HE2.out HE.out.lt HE2.out.lt).mono ?_
    intro e w1 hput
    rw [HV.out] at hput
    have HP := hid hput
    rcases hput.2 with ⟨_, rfl⟩ | ⟨v, out, _, rfl, ho⟩
    · clear hput
      go_wp2
      go_ret2
      exact HP.out
    · obtain ⟨a', c', rfl⟩ := ho.shape
      clear hput ho
      go_wp2
      go_ret2
      exact HP.out
  · have HN : Hid (shV zs = none) := by
      show _ = _
      rw [shV, if_neg]
      rw [shOk_iff]
      omega
    have HT : Hid (shOk zs = false) := by
      show _ = false
      rw [Bool.eq_false_iff]
      intro e
      have := (shOk_iff zs).1 e
      omega
    clear h he he2 hok hzl
    go_enter Tryd.func21, Tryd.ntmps21
    go_wp2_with fail
    refine HC.out.mono ?_
    rintro e w0 ⟨rfl, rfl⟩
    rw [HT.out]
    go_wp2
    go_ret2
    exact ⟨Below.refl _ _, .inl ⟨HN.out, rfl⟩⟩
theorem Ob.row {w : World} {B g n c : Nat} {xs : List Int} (h : Ob w B (.slice (some ⟨g, 0, none⟩) n c) xs) : ∃ cur : List Value, w.heap[g]? = some (.cells cur.toArray 5 (0, 0)) ∧ B ≤ g ∧ n = xs.length ∧ xs.length ≤ cur.length ∧
    ∀ (ys : List Int) (w' : World), ys.length ≤ xs.length → w'.heap[g]? = some (.cells (splice cur 0 (ys.map (Value.int .u8))).toArray 5 (0, 0)) → Ob w' B (.slice (some ⟨g, 0, none⟩) n c) (ys ++ xs.drop ys.length) := by
  obtain ⟨k1, k2⟩ := h
  rcases k2 with ⟨k2, _⟩ | ⟨g', cap, cur, e, k3, k4, k5, k6, k7, k8⟩
  · cases k2
  · have e2 : g' = g ∧ n = xs.length ∧ c = cap := by cases e; exact ⟨rfl, rfl, rfl⟩
    obtain ⟨rfl, rfl, rfl⟩ := e2
    rw [Nat.mul_one] at k7 k8
    have hcl : cur.toList.length = c := by simpa using k7
    refine ⟨cur.toList, by simpa using k4, k3, rfl, by omega, fun ys w' hl hg => ?_⟩
    have hlen : (ys ++ xs.drop ys.length).length = xs.length := by simp; omega
    refine ⟨by rw [List.length_map, Nat.mul_one], .inr ⟨g', c, (splice cur.toList 0 (ys.map (Value.int .u8))).toArray, by rw [hlen], k3, hg, by rw [hlen]; exact k5, k6, ?_, ?_⟩⟩
    · rw [Nat.mul_one, List.size_toArray, length_splice _ _ _ (by simp; omega)]
      exact hcl
    · rw [Nat.mul_one, hlen, splice]
      have e3 : (cur.toList.drop ys.length).take (xs.length - ys.length) = (xs.drop ys.length).map (Value.int .u8) := by
        rw [List.map_drop, ← k8, List.drop_take]
      simp only [List.take_zero, List.nil_append, Nat.zero_add, List.length_map, List.map_append]
      rw [List.take_append, List.length_map, List.take_of_length_le (by simp; omega), e3]
theorem sizeU8 : (Tryd.prog.info? 5).map (·.size) = some 1 := by kernel_rfl
set_option maxHeartbeats 4000000 in
set_option maxRecDepth 20000 in
theorem implTear_any (a : Option Addr) (n c : Nat) (xs : List Int) (b : Option Addr) (m d : Nat) (ys : List Int) (t : Int) (w : World) (hx : Rd w a n c xs) (hy : Rd w b m d ys) (he : Err w 1) (he2 : Err w 0) :
    Calls Tryd.prog 18 #[.slice a n c, .slice b m d, .int .i64 t] w fun e w' => TePost (tearV xs ys t) w e w' := by
  have HX := hid hx
  have HY := hid hy
  have HE := hid he
  have HE2 := hid he2
  have HBX := hid (sheet_byte (at_byte hx.2.2.2.2.1))
  have HBY := hid (sheet_byte (at_byte hy.2.2.2.2.1))
  clear hx hy he he2
  go_enter Tryd.func18, Tryd.ntmps18
  go_wp2_with fail
  refine (sheetBytes_any a n c xs _ HX.out HE.out HE2.out).mono ?_
  intro e w1 hp1
  have B1 := hid hp1.1
  rcases hp1.2 with ⟨hn1, rfl⟩ | ⟨v1, o1, hs1, rfl, ho1⟩
  · have HN : Hid (tearV xs ys t = none) := by
      show _ = _
      rw [tearV, if_neg]
      rintro ⟨h1, _⟩
      rw [shV, if_pos h1] at hn1
      cases hn1
    clear hp1 hn1
    go_wp2_with fail
    refine (sheetBytes_any b m d ys _ (HY.out.kept B1.out) (HE.out.below B1.out HE.out.lt) (HE2.out.below B1.out HE2.out.lt)).mono ?_
    intro e w2 hp2
    have B2 := hid (B1.out.trans (hp2.1.mono B1.out.size))
    rcases hp2.2 with ⟨_, rfl⟩ | ⟨v2, o2, _, rfl, ho2⟩
    · clear hp2
      go_wp2
      go_ret
      exact ⟨B2.out, .inl ⟨HN.out, rfl⟩⟩
    · obtain ⟨a', c', rfl⟩ := ho2.shape
      clear hp2 ho2
      go_wp2
      go_ret
      exact ⟨B2.out, .inl ⟨HN.out, rfl⟩⟩
  · have h1 : shOk xs = true ∧ o1 = sheet xs := by
      unfold shV at hs1
      split at hs1
      · rename_i h; cases hs1; exact ⟨h, rfl⟩
      · cases hs1
    obtain ⟨hk1, rfl⟩ := h1
    obtain ⟨a1, c1, rfl⟩ := ho1.shape
    have HL1 := hid (sheet_len hk1)
    rw [HL1.out] at ho1 ⊢
    obtain ⟨g1, rfl, hB1, -⟩ := ho1.at (by omega)
    have HK1 := hid hk1
    have O1 := hid ho1
    have HG1 := hid hB1
    have HLT : Hid (g1 < w1.heap.size) := (World.ownsRow.lt ho1 g1 rfl).2
    clear hp1 hs1 ho1 hk1 hB1
    go_wp2_with fail
    refine (sheetBytes_any b m d ys _ (HY.out.kept B1.out) (HE.out.below B1.out HE.out.lt) (HE2.out.below B1.out HE2.out.lt)).mono ?_
    intro e w2 hp2
    have B2 := hid (B1.out.trans (hp2.1.mono B1.out.size))
    have O2 := hid (O1.out.keepT hp2.1)
    rcases hp2.2 with ⟨hn2, rfl⟩ | ⟨v2, o2, hs2, rfl, ho2⟩
    · have HN : Hid (tearV xs ys t = none) := by
        show _ = _
        rw [tearV, if_neg]
        rintro ⟨_, h2⟩
        rw [shV, if_pos h2] at hn2
        cases hn2
      clear hp2 hn2
      go_wp2
      go_ret
      exact ⟨B2.out, .inl ⟨HN.out, rfl⟩⟩
    · have h2 : shOk ys = true ∧ o2 = sheet ys := by
        unfold shV at hs2
        split at hs2
        · rename_i h; cases hs2; exact ⟨h, rfl⟩
        · cases hs2
      obtain ⟨hk2, rfl⟩ := h2
      obtain ⟨a2, c2, rfl⟩ := ho2.shape
      have HL2 := hid (sheet_len hk2)
      obtain ⟨a', c', e2, hR2, -⟩ := ho2.rd (byte_at HBY.out) (by rw [HL2.out]; omega)
      cases e2
      rw [HL2.out] at hR2 ⊢
      obtain ⟨g2, off2, rfl, hlt2, hcell2⟩ := hR2.2.2.2.2.2 (by omega)
      have hc2 := hR2.2.1
      have hc2m := hR2.2.2.1
      have R2 := hid hR2
      have HN : Hid (tearV xs ys t = some (trB (sheet xs) (sheet ys) t)) := by show _ = _; rw [tearV, if_pos ⟨HK1.out, hk2⟩]
      have HL1' := HL1.out
      have HL2' := HL2.out
      obtain ⟨cur, hcur, hBg, hnl, hxl, hback⟩ := O2.out.row
      have HC := hid hcur
      have HBK := hid hback
      clear hp2 hs2 ho2 hk2 hcell2 hlt2 hcur hback O1 O2 hnl hBg
      have main : ∀ k : Nat, k ≤ 512 → trB (sheet xs) (sheet ys) t = (sheet ys).take k ++ (sheet xs).drop k →
          (∀ w', Below w.heap.size w w' → w'.heap[g1]? = some (.cells (splice cur 0 (((sheet ys).take k).map (Value.int .u8))).toArray 5 (0, 0)) → TePost (tearV xs ys t) w (.returned (.slice (some ⟨g1, 0, none⟩) 512 c1)) w') := by
        intro k hk ht w' hb hg
        refine ⟨hb, .inr ⟨_, _, by rw [HN.out, ht], rfl, ?_⟩⟩
        have := HBK.out ((sheet ys).take k) w' (by rw [List.length_take]; omega) hg
        rwa [List.length_take, Nat.min_eq_left (by omega)] at this
      have HM := hid main
      have HSRC : Hid (∀ k, k ≤ 512 → ∀ (j : Nat) (v : Value), (((sheet ys).take k).map (Value.int .u8))[j]? = some v → w2.cell? ((⟨g2, off2, none⟩ : Addr).add j) = some v) := by
        intro k hk j v hv
        have hj : j < k := by
          have := (List.getElem?_eq_some_iff.1 hv).1
          simp at this
          omega
        obtain ⟨g', off', e, _, hc⟩ := R2.out.2.2.2.2.2 (by omega)
        cases e
        have hc' := hc j (by omega)
        rw [Addr.add_lit, hc']
        rw [List.getElem?_map, List.getElem?_take_of_lt hj] at hv
        obtain ⟨z, hz, rfl⟩ := Option.map_eq_some_iff.1 hv
        rw [hz]
        rfl
      have HLK : Hid (∀ k, k ≤ 512 → (((sheet ys).take k).map (Value.int .u8)).length = k) := by
        intro k hk
        rw [List.length_map, List.length_take]
        omega
      have HO1 : Hid (∀ k, ∀ v ∈ ((sheet ys).take k).map (Value.int .u8), v.oneCell' = true) := by
        intro k v hv
        obtain ⟨z, _, rfl⟩ := List.mem_map.1 hv
        rfl
      have HXL : Hid (512 ≤ cur.length) := by show _ ≤ _; omega
      clear main
      by_cases t0 : t < 0
      · have HT : Hid (trB (sheet xs) (sheet ys) t = (sheet ys).take 0 ++ (sheet xs).drop 0) := by show _ = _; rw [trB, show t.toNat = 0 by omega]
        have t0' : (0 : Int) > t := t0
        clear HL1' HL2'
        generalize hXS : ((sheet ys).take 0).map (Value.int .u8) = X at *
        have HXS := hid hXS
        clear hXS
        go_wp2_with (refine wpList_copy_splice rfl (.tmp 31) (.tmp 34) 22 22 rfl 5 Tryd.underlying22 sizeU8 _ _ _ _ _ _ rfl rfl g1 0 cur 5 HC.out X ?hn ?hpos ?hfit ?h1 w.heap.size w B2.out HG1.out ?_)
        case hn => rw [← HXS.out, HLK.out 0 (by omega)]; rfl
        case hpos => intro hp; rw [← HXS.out, HLK.out 0 (by omega)] at hp; omega
        case hfit => rw [← HXS.out, HLK.out 0 (by omega)]; omega
        case h1 => rw [← HXS.out]; exact HO1.out 0
        intro w3 hg3 hb3
        rw [← HXS.out] at hg3
        have HQ := hid (HM.out 0 (by omega) HT.out w3 hb3 hg3.out)
        clear hg3 hb3
        go_wp2
        go_ret
        exact HQ.out
      · by_cases t1 : t ≤ 512
        · obtain ⟨k, rfl⟩ := Int.eq_ofNat_of_zero_le (show 0 ≤ t by omega)
          have hk : k ≤ 512 := by omega
          have HT : Hid (trB (sheet xs) (sheet ys) (k : Int) = (sheet ys).take k ++ (sheet xs).drop k) := by show _ = _; rw [trB, show (k : Int).toNat = k by omega]
          have t0' : ¬ (0 : Int) > (k : Int) := by omega
          have t1' : ¬ (512 : Int) < (k : Int) := by omega
          have t2' : (k : Int) ≤ (c2 : Int) := by omega
          clear HL1' HL2'
          generalize hXS : ((sheet ys).take k).map (Value.int .u8) = X at *
          have HXS := hid hXS
          clear hXS
          go_wp2_with (refine wpList_copy_splice rfl (.tmp 31) (.tmp 34) 22 22 rfl 5 Tryd.underlying22 sizeU8 _ _ _ _ _ _ rfl rfl g1 0 cur 5 HC.out X ?hn ?hpos ?hfit ?h1 w.heap.size w B2.out HG1.out ?_)
          case hn => rw [← HXS.out, HLK.out k hk]; exact (Nat.min_eq_left hk).symm
          case hpos => intro _ j v hv; have := HSRC.out k hk j v (by rw [HXS.out]; exact hv); simpa [Addr.add_lit] using this
          case hfit => rw [← HXS.out, HLK.out k hk]; have := HXL.out; omega
          case h1 => rw [← HXS.out]; exact HO1.out k
          intro w3 hg3 hb3
          rw [← HXS.out] at hg3
          have HQ := hid (HM.out k hk HT.out w3 hb3 hg3.out)
          clear hg3 hb3
          go_wp2
          go_ret
          exact HQ.out
        · have HT : Hid (trB (sheet xs) (sheet ys) t = (sheet ys).take 512 ++ (sheet xs).drop 512) := by
            show _ = _
            rw [trB, List.take_of_length_le (by omega), List.drop_eq_nil_of_le (by omega), List.take_of_length_le (by omega), List.drop_eq_nil_of_le (by omega)]
          have t0' : ¬ (0 : Int) > t := by omega
          have t1' : (512 : Int) < t := by omega
          have t2' : (512 : Int) ≤ (c2 : Int) := by omega
          clear HL1' HL2'
          generalize hXS : ((sheet ys).take 512).map (Value.int .u8) = X at *
          have HXS := hid hXS
          clear hXS
          go_wp2_with (refine wpList_copy_splice rfl (.tmp 31) (.tmp 34) 22 22 rfl 5 Tryd.underlying22 sizeU8 _ _ _ _ _ _ rfl rfl g1 0 cur 5 HC.out X ?hn ?hpos ?hfit ?h1 w.heap.size w B2.out HG1.out ?_)
          case hn => rw [← HXS.out, HLK.out 512 (by omega)]; rfl
          case hpos => intro _ j v hv; have := HSRC.out 512 (by omega) j v (by rw [HXS.out]; exact hv); simpa [Addr.add_lit] using this
          case hfit => rw [← HXS.out, HLK.out 512 (by omega)]; have := HXL.out; omega
          case h1 => rw [← HXS.out]; exact HO1.out 512
          intro w3 hg3 hb3
          rw [← HXS.out] at hg3
          have HQ := hid (HM.out 512 (by omega) HT.out w3 hb3 hg3.out)
          clear hg3 hb3
          go_wp2
          go_ret
          exact HQ.out
end Go.Proofs.YtcpdedpgjaimkaaDoor
/-
  DiskCrash of the program.
-/
namespace Go.Proofs.YtcpdedpgjaimkaaDoor
open Go.RowKit
set_option linter.unusedVariables false
theorem crS_le {d : DK} (hok : dkOk d = true) (hb : (∀ i, byt (shAt d.sh i)) ∧ ∀ i, byt (dwAt d.dw i).2) (keep : List Int) (i : Nat) : (shAt (crS d.sh d.dw keep d.dw.length) i).length ≤ 512 := by
  by_cases hi : i < d.sh.length
  · have := (shtOk_iff _).1 ((crS_facts hok hb keep d.dw.length (Nat.le_refl _) i).2 hi)
    omega
  · simp [shAt, show (crS d.sh d.dw keep d.dw.length).length ≤ i by rw [crS_len]; omega]
theorem implTear_at (a : Option Addr) (n c : Nat) (xs : List Int) (b : Option Addr) (m d : Nat) (ys : List Int) (t : Int) (w : World) (hx : Rd w a n c xs) (hy : Rd w b m d ys) (he : Err w 1) (he2 : Err w 0) :
    Calls Tryd.prog 18 #[.slice a n c, .slice b m d, .int .i64 t] w fun e w' => ∃ a' n' c', e = .returned (.slice a' n' c') ∧ Ob w' w.heap.size (.slice a' n' c') (teaV xs ys t) ∧ Below w.heap.size w w' := by
  refine (implTear_any a n c xs b m d ys t w hx hy he he2).mono ?_
  rintro e w' ⟨hb, hor⟩
  rcases hor with ⟨ho, rfl⟩ | ⟨v, zs, ho, rfl, hO⟩
  · exact ⟨none, 0, 0, rfl, by rw [teaV, ho]; exact World.ownsRow_nil _ _ _ _, hb⟩
  · obtain ⟨a', c', rfl⟩ := hO.shape
    exact ⟨a', _, c', rfl, by rw [teaV, ho]; exact hO, hb⟩
set_option maxHeartbeats 8000000 in
set_option maxRecDepth 20000 in
theorem implDiskCrash_any (S S2 : Nat → Prop) (sa : Option Addr) (sn sc : Nat) (da : Option Addr) (dn dc : Nat) (d : DK) (ka : Option Addr) (kn kc : Nat) (keep : List Int) (w : World) (h : Dk w S sa sn sc da dn dc d) (hsm : smallD d) (h1 : sn ≤ 1048576) (h2 : dn ≤ 1048576) (hk : Ir w S2 (.slice ka kn kc) keep) (he : Err w 1) (he2 : Err w 0) :
    Calls Tryd.prog 8 #[.agg #[.slice sa sn sc, .slice da dn dc], .slice ka kn kc] w fun e w' => DkPost1 (dcV d keep) w e w' := by
  have HH := hid h
  have HSM := hid hsm
  have HBY := hid h.bytes'
  have HKE := hid hk
  have HE := hid he
  have HE2 := hid he2
  obtain ⟨hkl0, hkc, hkc'⟩ := Rw.len hk
  have HKL := hid hkl0
  have hsc := h.hs.len.2
  have hdc := h.hd.len.2
  have HNS := hid h.hs.len.1
  have HND := hid h.hd.len.1
  have HB0 : Hid (Below w.heap.size w ((w.alloc (.cells #[.slice sa sn sc, .slice da dn dc] 26)).alloc (.cells #[.slice none 0 0, .slice none 0 0] 26))) := below_new (below_new (Below.refl _ _))
  have K0 := hid ((Bk.new w 26 [.slice sa sn sc, .slice da dn dc]).alloc (.cells #[.slice none 0 0, .slice none 0 0] 26))
  have K1 : Hid (Bk ((w.alloc (.cells #[.slice sa sn sc, .slice da dn dc] 26)).alloc (.cells #[.slice none 0 0, .slice none 0 0] 26)) (w.heap.size + 1) 26 [.slice none 0 0, .slice none 0 0]) := by
    have := Bk.new (w.alloc (.cells #[.slice sa sn sc, .slice da dn dc] 26)) 26 [.slice none 0 0, .slice none 0 0]
    show Bk _ _ _ _
    simpa using this
  have HOK := hid (implDiskOk_any S sa sn sc da dn dc d _ (h.below HB0.out))
  have HDV : Hid (dcV d keep = if dkOk d = true then ⟨crS d.sh d.dw keep d.dw.length, []⟩ else emD) := rfl
  clear h hsm hk he he2 hkl0
  go_enter Tryd.func8, Tryd.ntmps8
  go_wp2_with fail
  refine HOK.out.mono ?_
  generalize (w.alloc (.cells #[.slice sa sn sc, .slice da dn dc] 26)).alloc (.cells #[.slice none 0 0, .slice none 0 0] 26) = W0 at *
  rintro e w1 ⟨rfl, hb⟩
  have J0 := hid (K0.out.below hb)
  have J1 := hid (K1.out.below hb)
  have B1 := hid (bt7 HB0.out hb)
  clear hb HB0 K0 K1 HOK
  cases hok : dkOk d with
  | false =>
    have HF : Hid (dcV d keep = emD) := by show _ = _; rw [HDV.out, hok]; rfl
    have r0 := J1.out.cell (j := 0) rfl
    have r1 := J1.out.cell (j := 1) rfl
    have f0 := J1.out.free 0
    have f1 := J1.out.free 1
    go_wp2
    try simp only [Exit.inBlock, Exit.then]
    refine bodyPost_ret (v := .agg #[.slice none 0 0, .slice none 0 0]) ?_ rfl ?_
    · exact results_dsk rfl _ _ _ rfl (by go_simp) (by go_simp)
    · rw [HF.out]
      exact ⟨_, _, _, _, _, _, _, _, rfl, do_nil _ _, (B1.out.setCell (p := ⟨w.heap.size + 1, 0, none⟩) (Nat.le_succ _) _).setCell (p := ⟨w.heap.size + 1, 1, none⟩) (Nat.le_succ _) _⟩
  | true =>
    have HF : Hid (dcV d keep = ⟨crS d.sh d.dw keep d.dw.length, []⟩) := by show _ = _; rw [HDV.out, hok]; rfl
    have HOK := hid hok
    have hsn : 2 ≤ sn ∧ sn ≤ 400 := by have := (dkOk_iff d).1 hok; rw [HNS.out]; exact ⟨this.1, this.2.1⟩
    clear hok HDV
    obtain ⟨V, hVl, hVr, hVb⟩ := HH.out.hs.below B1.out
    rw [← HNS.out] at hVr
    obtain ⟨b, off, rfl, -⟩ := Rw.at hVr (by omega)
    have HCL := hid (cloneS_any S b off sn sc V w1 hVr (by rw [hVl, HNS.out]) (one_slices hVl hVb) h1)
    have HVB := hid hVb
    have HVL := hid hVl
    clear hVl hVr hVb
    have d0 := J0.out.cell (j := 0) rfl
    go_wp2_with fail
    refine HCL.out.mono ?_
    rintro e w2 ⟨ga, cc, rfl, hrow, hb⟩
    have hcc := (own_at hrow).2.1
    have hcc' := (own_at hrow).2.2.1
    obtain ⟨g, rfl, -⟩ := (own_at hrow).2.2.2 (by omega)
    have V0 : Hid (VX w w2 (some ⟨b, off, none⟩) sn sc da dn dc g cc V (crS d.sh d.dw keep 0)) := VX.start B1.out J0.out J1.out HVL.out HNS.out.symm HVB.out hrow hb
    have d1 := V0.out.k0.cell (j := 1) rfl
    clear hrow hb J0 J1 B1 HCL HVB HVL d0
    go_wp2_with fail
    clear d1
    go_loopw [18] (fun i wr => ∃ (k : Nat) (V : List Value), k ≤ dn ∧ i = .int .i64 k ∧ Hid (VX w wr (some ⟨b, off, none⟩) sn sc da dn dc g cc V (crS d.sh d.dw keep k))) (fun i _ => dn - (intOf i).toNat)
    case atStart => exact ⟨0, V, Nat.zero_le _, rfl, V0.out⟩
    case round =>
      clear V0
      obtain ⟨k, V, hk, rfl, VV⟩ := hrel
      by_cases hlt : k < dn
      · have hlt' : (k : Int) < (dn : Int) := by omega
        obtain ⟨b2, off2, rfl, _, hbw, hcell⟩ := (HH.out.hd.below VV.out.bel).at (by omega)
        obtain ⟨ap, np, cp, mt, m0, hp⟩ := hcell k hlt
        have hkl : k < d.dw.length := by rw [← HND.out]; exact hlt
        have hwk := (wrtOk_iff _ _).1 (((dkOk_iff d).1 HOK.out).2.2.2.2 k hkl)
        obtain ⟨u, hu⟩ : ∃ u : Nat, (dwAt d.dw k).1 = (u : Int) := ⟨(dwAt d.dw k).1.toNat, by omega⟩
        have hus : u < sn := by rw [HNS.out]; omega
        have hus' : (u : Int) < (sn : Int) := by omega
        rw [hu] at mt
        have hnp : np ≤ 1048576 := by have := hp.len.1; have := hwk.2.2; omega
        have HPR := hid (hp.rd hnp)
        have HCR : Hid (crS d.sh d.dw keep (k + 1) = if 0 < iAt keep k then (crS d.sh d.dw keep k).set u (teaV (shAt (crS d.sh d.dw keep k) u) (dwAt d.dw k).2 (iAt keep k)) else crS d.sh d.dw keep k) := by
          show _ = _
          rw [crS, hu]
          rfl
        have hb0 := below_new (o := .cells #[.int .i64 (u : Int), .slice ap np cp] 43) (w := wr) (Below.refl _ _)
        have VU := hid (VV.out.below hb0)
        have hgg := World.ownsRow.lt VV.out.row g rfl
        have HFA := hid (crS_facts HOK.out HBY.out keep k (by omega) u)
        have HB2 := hid (HBY.out.2 k)
        clear hcell hbw hp hwk hu
        by_cases hkk : k < kn
        · have hkk' : (k : Int) < (kn : Int) := by omega
          obtain ⟨kb, koff, rfl, _, hkb, hkcell⟩ := Ir.at HKE.out (by omega)
          have n0 := (World.cell?_of_block (w := w) (a := ⟨kb, koff + k, none⟩) (VV.out.bel.block kb hkb)).trans (hkcell k hkk)
          have hkg : ¬ kb = g := by omega
          have hkg2 : ¬ g = kb := by omega
          have hkw : kb < wr.heap.size := by have := VV.out.bel.size; omega
          clear hkcell
          generalize iAt keep k = q at *
          by_cases hq : 0 < q
          · have HCR2 : Hid (crS d.sh d.dw keep (k + 1) = (crS d.sh d.dw keep k).set u (teaV (shAt (crS d.sh d.dw keep k) u) (dwAt d.dw k).2 q)) := by show _ = _; rw [HCR.out, if_pos hq]
            have hby := VV.out.byt' u hus
            obtain ⟨a3, c3, e3⟩ := hby.1.sliceOf
            have hvl : u < V.length := by rw [VV.out.len]; exact hus
            have hl3 : (shAt (crS d.sh d.dw keep k) u).length ≤ 512 := by have := (shtOk_iff _).1 (HFA.out.2 (by rw [← HNS.out]; exact hus)); omega
            rw [e3] at hby
            have HRS : Hid (Rd wr a3 (shAt (crS d.sh d.dw keep k) u).length c3 (shAt (crS d.sh d.dw keep k) u)) := hby.rd (by omega)
            have HBX : Hid (∀ z, Below (wr.alloc (.cells #[.int .i64 (u : Int), .slice ap np cp] 43)).heap.size (wr.alloc (.cells #[.int .i64 (u : Int), .slice ap np cp] 43)) z → z.cell? ⟨g, u, none⟩ = some (.slice a3 (shAt (crS d.sh d.dw keep k) u).length c3) ∧ z.frozen? ⟨g, u, none⟩ = false) := fun z hz => by
              have c := VU.out.below hz
              obtain ⟨-, -, -, hr⟩ := own_at c.row
              obtain ⟨g', e', -, -, hf, hcell⟩ := hr (by omega)
              cases e'
              refine ⟨?_, hf u⟩
              have := hcell u _ (uAt_some hvl)
              rwa [e3] at this
            have HTE : Hid (∀ z, Below (wr.alloc (.cells #[.int .i64 (u : Int), .slice ap np cp] 43)).heap.size (wr.alloc (.cells #[.int .i64 (u : Int), .slice ap np cp] 43)) z → Calls Tryd.prog 18 #[.slice a3 (shAt (crS d.sh d.dw keep k) u).length c3, .slice ap np cp, .int .i64 q] z fun e w' => ∃ a' n' c', e = .returned (.slice a' n' c') ∧ Ob w' z.heap.size (.slice a' n' c') (teaV (shAt (crS d.sh d.dw keep k) u) (dwAt d.dw k).2 q) ∧ Below z.heap.size z w') := fun z hz =>
              implTear_at _ _ _ _ _ _ _ _ q z (HRS.out.kept (bt7 hb0 hz)) (HPR.out.kept (bt7 hb0 hz)) (HE.out.below (bt7 (bt7 VV.out.bel hb0) hz) HE.out.lt) (HE2.out.below (bt7 (bt7 VV.out.bel hb0) hz) HE2.out.lt)
            have HFIN : Hid (∀ (w4 : World) (a4 : Option Addr) (n4 c4 : Nat), Ob w4 (wr.alloc (.cells #[.int .i64 (u : Int), .slice ap np cp] 43)).heap.size (.slice a4 n4 c4) (teaV (shAt (crS d.sh d.dw keep k) u) (dwAt d.dw k).2 q) → Below (wr.alloc (.cells #[.int .i64 (u : Int), .slice ap np cp] 43)).heap.size (wr.alloc (.cells #[.int .i64 (u : Int), .slice ap np cp] 43)) w4 → VX w (w4.setCell ⟨g, u, none⟩ (.slice a4 n4 c4)) (some ⟨b, off, none⟩) sn sc (some ⟨b2, off2, none⟩) dn dc g cc (V.set u (.slice a4 n4 c4)) (crS d.sh d.dw keep (k + 1))) := fun w4 a4 n4 c4 hO4 hb4 => by
              rw [HCR2.out]
              exact (VU.out.below hb4).put hus (by_ob hO4 (tea_facts HFA.out.1 HB2.out q).1 (fun y _ hy _ => by have h1 := hb0.size; omega))
            have HS3 : Hid (∀ z, Below (wr.alloc (.cells #[.int .i64 (u : Int), .slice ap np cp] 43)).heap.size (wr.alloc (.cells #[.int .i64 (u : Int), .slice ap np cp] 43)) z → z.cell? ⟨wr.heap.size, 0, none⟩ = some (.int .i64 (u : Int)) ∧ z.cell? ⟨wr.heap.size, 1, none⟩ = some (.slice ap np cp) ∧ z.cell? ⟨kb, koff + k, none⟩ = some (.int .i64 q)) := fun z hz => ⟨((Bk.new wr 43 [.int .i64 (u : Int), .slice ap np cp]).below hz).cell (j := 0) rfl, ((Bk.new wr 43 [.int .i64 (u : Int), .slice ap np cp]).below hz).cell (j := 1) rfl, (World.cell?_of_block (w := wr) (a := ⟨kb, koff + k, none⟩) ((bt7 hb0 hz).block kb hkw)).trans n0⟩
            have HS0 := hid (HS3.out _ (below_drew (wr.alloc (.cells #[.int .i64 (u : Int), .slice ap np cp] 43))))
            have gg1 : wr.cell? ⟨g, u, none⟩ = some (.slice a3 (shAt (crS d.sh d.dw keep k) u).length c3) := by
              obtain ⟨-, -, -, hr⟩ := own_at VV.out.row
              obtain ⟨g', e', -, -, hf, hcell⟩ := hr (by omega)
              cases e'
              have := hcell u _ (uAt_some hvl)
              rwa [e3] at this
            have gg0 := (HBX.out _ (Below.refl _ _)).1
            have s2 := hgg.2
            have g3 : ¬ g = wr.heap.size := by omega
            have g4 : ¬ wr.heap.size = g := by omega
            clear hby e3 HRS HCR HCR2 VV hb0 HFA HB2 HPR hvl hl3 hgg VU
            generalize (shAt (crS d.sh d.dw keep k) u).length = L3 at *
            go_wp2_with fail
            refine wp_region_noPanic ?_
            refine wp_region_held_drew (S := (fun v => v.cell? ⟨wr.heap.size, 0, none⟩ = some (.int .i64 (u : Int)) ∧ v.cell? ⟨wr.heap.size, 1, none⟩ = some (.slice ap np cp) ∧ v.cell? ⟨kb, koff + k, none⟩ = some (.int .i64 q))) (by kernel_rfl) HS0.out (fun hHeld => ?_)
            simp only [List.size_toArray, List.length_cons, List.length_nil, Array.replicate_succ, Array.replicate_zero, Nat.reduceAdd, List.push_toArray, List.nil_append, List.cons_append]
            refine wpAnyH_take (i := 0) (v := (.slice (some ⟨g, 0, none⟩) sn cc)) rfl (by kernel_rfl) (by kernel_rfl) (by kernel_rfl) (fun _ _ _ h => h) (Or.inl ⟨by rfl, ?_⟩) (by assumption) ?_
            · intro w hSw
              (try dsimp only at hSw)
              go_simp
            try simp only [List.getElem_toArray]
            try simp only [List.getElem_cons_succ]
            try simp only [List.getElem_cons_zero]
            try simp only [Act.put]
            try simp only [List.setIfInBounds_toArray]
            try simp only [List.set_cons_succ]
            try simp only [List.set_cons_zero]
            refine wpAnyH_take (i := 1) (v := (.pointer (some ⟨wr.heap.size, 0, none⟩))) rfl (by kernel_rfl) (by kernel_rfl) (by kernel_rfl) (fun _ _ _ h => h) (Or.inl ⟨by rfl, ?_⟩) (by assumption) ?_
            · intro w hSw
              (try dsimp only at hSw)
              go_simp
            try simp only [List.getElem_toArray]
            try simp only [List.getElem_cons_succ]
            try simp only [List.getElem_cons_zero]
            try simp only [Act.put]
            try simp only [List.setIfInBounds_toArray]
            try simp only [List.set_cons_succ]
            try simp only [List.set_cons_zero]
            refine wpAnyH_take (i := 2) (v := (.int .i64 (u : Int))) rfl (by kernel_rfl) (by kernel_rfl) (by kernel_rfl) (fun _ _ _ h => h) (Or.inl ⟨by rfl, ?_⟩) (by assumption) ?_
            · intro w hSw
              (try dsimp only at hSw)
              go_simp
            try simp only [List.getElem_toArray]
            try simp only [List.getElem_cons_succ]
            try simp only [List.getElem_cons_zero]
            try simp only [Act.put]
            try simp only [List.setIfInBounds_toArray]
            try simp only [List.set_cons_succ]
            try simp only [List.set_cons_zero]
            refine wpAnyH_take (i := 3) (v := (.slice (some ⟨g, 0, none⟩) sn cc)) rfl (by kernel_rfl) (by kernel_rfl) (by kernel_rfl) (fun _ _ _ h => h) (Or.inl ⟨by rfl, ?_⟩) (by assumption) ?_
            · intro w hSw
              (try dsimp only at hSw)
              go_simp
            try simp only [List.getElem_toArray]
            try simp only [List.getElem_cons_succ]
            try simp only [List.getElem_cons_zero]
            try simp only [Act.put]
            try simp only [List.setIfInBounds_toArray]
            try simp only [List.set_cons_succ]
            try simp only [List.set_cons_zero]
            refine wpAnyH_take (i := 4) (v := (.pointer (some ⟨wr.heap.size, 0, none⟩))) rfl (by kernel_rfl) (by kernel_rfl) (by kernel_rfl) (fun _ _ _ h => h) (Or.inl ⟨by rfl, ?_⟩) (by assumption) ?_
            · intro w hSw
              (try dsimp only at hSw)
              go_simp
            try simp only [List.getElem_toArray]
            try simp only [List.getElem_cons_succ]
            try simp only [List.getElem_cons_zero]
            try simp only [Act.put]
            try simp only [List.setIfInBounds_toArray]
            try simp only [List.set_cons_succ]
            try simp only [List.set_cons_zero]
            refine wpAnyH_take (i := 5) (v := (.int .i64 (u : Int))) rfl (by kernel_rfl) (by kernel_rfl) (by kernel_rfl) (fun _ _ _ h => h) (Or.inl ⟨by rfl, ?_⟩) (by assumption) ?_
            · intro w hSw
              (try dsimp only at hSw)
              go_simp
            try simp only [List.getElem_toArray]
            try simp only [List.getElem_cons_succ]
            try simp only [List.getElem_cons_zero]
            try simp only [Act.put]
            try simp only [List.setIfInBounds_toArray]
            try simp only [List.set_cons_succ]
            try simp only [List.set_cons_zero]
            refine wpAnyH_take (i := 6) (v := (.pointer (some ⟨g, u, none⟩))) rfl (by kernel_rfl) (by kernel_rfl) (by kernel_rfl) (fun _ _ _ h => h) (Or.inl ⟨by rfl, ?_⟩) (by assumption) ?_
            · intro w hSw
              (try dsimp only at hSw)
              go_simp
            try simp only [List.getElem_toArray]
            try simp only [List.getElem_cons_succ]
            try simp only [List.getElem_cons_zero]
            try simp only [Act.put]
            try simp only [List.setIfInBounds_toArray]
            try simp only [List.set_cons_succ]
            try simp only [List.set_cons_zero]
            refine wpAnyH_take (i := 7) (v := (.pointer (some ⟨g, u, none⟩))) rfl (by kernel_rfl) (by kernel_rfl) (by kernel_rfl) (fun _ _ _ h => h) (Or.inl ⟨by rfl, ?_⟩) (by assumption) ?_
            · intro w hSw
              (try dsimp only at hSw)
              go_simp
            try simp only [List.getElem_toArray]
            try simp only [List.getElem_cons_succ]
            try simp only [List.getElem_cons_zero]
            try simp only [Act.put]
            try simp only [List.setIfInBounds_toArray]
            try simp only [List.set_cons_succ]
            try simp only [List.set_cons_zero]
            refine wpAnyH_take (i := 9) (v := (.pointer (some ⟨wr.heap.size, 1, none⟩))) rfl (by kernel_rfl) (by kernel_rfl) (by kernel_rfl) (fun _ _ _ h => h) (Or.inl ⟨by rfl, ?_⟩) (by assumption) ?_
            · intro w hSw
              (try dsimp only at hSw)
              go_simp
            try simp only [List.getElem_toArray]
            try simp only [List.getElem_cons_succ]
            try simp only [List.getElem_cons_zero]
            try simp only [Act.put]
            try simp only [List.setIfInBounds_toArray]
            try simp only [List.set_cons_succ]
            try simp only [List.set_cons_zero]
            refine wpAnyH_take (i := 10) (v := (.slice ap np cp)) rfl (by kernel_rfl) (by kernel_rfl) (by kernel_rfl) (fun _ _ _ h => h) (Or.inl ⟨by rfl, ?_⟩) (by assumption) ?_
            · intro w hSw
              (try dsimp only at hSw)
              go_simp
            try simp only [List.getElem_toArray]
            try simp only [List.getElem_cons_succ]
            try simp only [List.getElem_cons_zero]
            try simp only [Act.put]
            try simp only [List.setIfInBounds_toArray]
            try simp only [List.set_cons_succ]
            try simp only [List.set_cons_zero]
            refine wpAnyH_take (i := 11) (v := (.slice (some ⟨kb, koff, none⟩) kn kc)) rfl (by kernel_rfl) (by kernel_rfl) (by kernel_rfl) (fun _ _ _ h => h) (Or.inl ⟨by rfl, ?_⟩) (by assumption) ?_
            · intro w hSw
              (try dsimp only at hSw)
              go_simp
            try simp only [List.getElem_toArray]
            try simp only [List.getElem_cons_succ]
            try simp only [List.getElem_cons_zero]
            try simp only [Act.put]
            try simp only [List.setIfInBounds_toArray]
            try simp only [List.set_cons_succ]
            try simp only [List.set_cons_zero]
            refine wpAnyH_take (i := 12) (v := (.int .i64 (k : Int))) rfl (by kernel_rfl) (by kernel_rfl) (by kernel_rfl) (fun _ _ _ h => h) (Or.inl ⟨by rfl, ?_⟩) (by assumption) ?_
            · intro w hSw
              (try dsimp only at hSw)
              go_simp
            try simp only [List.getElem_toArray]
            try simp only [List.getElem_cons_succ]
            try simp only [List.getElem_cons_zero]
            try simp only [Act.put]
            try simp only [List.setIfInBounds_toArray]
            try simp only [List.set_cons_succ]
            try simp only [List.set_cons_zero]
            refine wpAnyH_take (i := 13) (v := (.pointer (some ⟨kb, koff + k, none⟩))) rfl (by kernel_rfl) (by kernel_rfl) (by kernel_rfl) (fun _ _ _ h => h) (Or.inl ⟨by rfl, ?_⟩) (by assumption) ?_
            · intro w hSw
              (try dsimp only at hSw)
              go_simp
            try simp only [List.getElem_toArray]
            try simp only [List.getElem_cons_succ]
            try simp only [List.getElem_cons_zero]
            try simp only [Act.put]
            try simp only [List.setIfInBounds_toArray]
            try simp only [List.set_cons_succ]
            try simp only [List.set_cons_zero]
            refine wpAnyH_take (i := 14) (v := (.int .i64 q)) rfl (by kernel_rfl) (by kernel_rfl) (by kernel_rfl) (fun _ _ _ h => h) (Or.inl ⟨by rfl, ?_⟩) (by assumption) ?_
            · intro w hSw
              (try dsimp only at hSw)
              go_simp
            try simp only [List.getElem_toArray]
            try simp only [List.getElem_cons_succ]
            try simp only [List.getElem_cons_zero]
            try simp only [Act.put]
            try simp only [List.setIfInBounds_toArray]
            try simp only [List.set_cons_succ]
            try simp only [List.set_cons_zero]
            refine wpAnyH_ready (rs := [8]) (by kernel_rfl) (by simp) ?_
            refine AllReadyH.cons rfl (fun K1 hK => ?_) AllReadyH.nil
            go_simp
            try go_wp2_with fail
            refine hK.out _ _ ?_ (fun hHeld => ?_)
            · assumption
            clear hK K1
            try simp only [List.getElem_toArray]
            try simp only [List.getElem_cons_succ]
            try simp only [List.getElem_cons_zero]
            try simp only [Act.put]
            try simp only [List.setIfInBounds_toArray]
            try simp only [List.set_cons_succ]
            try simp only [List.set_cons_zero]
            refine wpAnyH_ready (rs := [15]) (by kernel_rfl) (by simp) ?_
            refine AllReadyH.cons rfl (fun K1 hK => ?_) AllReadyH.nil
            go_simp
            refine (HTE.out _ (below_drew _)).mono ?_
            rintro e w4 ⟨a4, n4, c4, rfl, hO4, hb4⟩
            have q3 := (HBX.out w4 (bt7 (below_drew _) hb4)).1
            have q4 := (HBX.out w4 (bt7 (below_drew _) hb4)).2
            go_wp2_with fail
            refine hK.out _ _ ?_ (fun hHeld => ?_)
            · exact HS3.out _ (bt7 (below_drew _) hb4)
            clear hK K1
            try simp only [List.getElem_toArray]
            try simp only [List.getElem_cons_succ]
            try simp only [List.getElem_cons_zero]
            try simp only [Act.put]
            try simp only [List.setIfInBounds_toArray]
            try simp only [List.set_cons_succ]
            try simp only [List.set_cons_zero]
            refine wpAnyH_take (i := 16) (v := (.pointer (some ⟨g, u, none⟩))) rfl (by kernel_rfl) (by kernel_rfl) (by kernel_rfl) (fun _ _ _ h => h) (Or.inl ⟨by rfl, ?_⟩) (by assumption) ?_
            · intro w hSw
              (try dsimp only at hSw)
              go_simp
            try simp only [List.getElem_toArray]
            try simp only [List.getElem_cons_succ]
            try simp only [List.getElem_cons_zero]
            try simp only [Act.put]
            try simp only [List.setIfInBounds_toArray]
            try simp only [List.set_cons_succ]
            try simp only [List.set_cons_zero]
            refine wpAnyH_take (i := 17) (v := (.pointer (some ⟨g, u, none⟩))) rfl (by kernel_rfl) (by kernel_rfl) (by kernel_rfl) (fun _ _ _ h => h) (Or.inl ⟨by rfl, ?_⟩) (by assumption) ?_
            · intro w hSw
              (try dsimp only at hSw)
              go_simp
            try simp only [List.getElem_toArray]
            try simp only [List.getElem_cons_succ]
            try simp only [List.getElem_cons_zero]
            try simp only [Act.put]
            try simp only [List.setIfInBounds_toArray]
            try simp only [List.set_cons_succ]
            try simp only [List.set_cons_zero]
            refine wpAnyH_ready (rs := [18]) (by kernel_rfl) (by simp) ?_
            refine AllReadyH.cons rfl (fun K1 hK => ?_) AllReadyH.nil
            go_simp
            try go_wp2_with fail
            refine hK.out _ _ ?_ (fun hHeld => ?_)
            · refine ⟨?_, ?_, ?_⟩ <;> go_simp
            clear hK K1
            try simp only [List.getElem_toArray]
            try simp only [List.getElem_cons_succ]
            try simp only [List.getElem_cons_zero]
            try simp only [Act.put]
            try simp only [List.setIfInBounds_toArray]
            try simp only [List.set_cons_succ]
            try simp only [List.set_cons_zero]
            refine wpAnyH_done (by kernel_rfl) ?_ _
            refine NoPanic.normal ?_
            go_wp2
            exact ⟨⟨k + 1, V.set u (.slice a4 n4 c4), by omega, by go_num, HFIN.out w4 a4 n4 c4 hO4 (bt7 (below_drew _) hb4)⟩, by simp [intOf]; omega⟩
          · have HCR2 : Hid (VX w (wr.alloc (.cells #[.int .i64 (u : Int), .slice ap np cp] 43)) (some ⟨b, off, none⟩) sn sc (some ⟨b2, off2, none⟩) dn dc g cc V (crS d.sh d.dw keep (k + 1))) := by rw [HCR.out, if_neg hq]; exact VU.out
            clear HCR VV VU hb0 HFA HB2 HPR
            go_wp2
            go_roundw
            case rel => exact ⟨k + 1, V, by omega, by go_num, HCR2.out⟩
            case measure => simp [intOf]; omega
        · have hkk' : ¬ (k : Int) < (kn : Int) := by omega
          have HCR2 : Hid (VX w (wr.alloc (.cells #[.int .i64 (u : Int), .slice ap np cp] 43)) (some ⟨b, off, none⟩) sn sc (some ⟨b2, off2, none⟩) dn dc g cc V (crS d.sh d.dw keep (k + 1))) := by
            rw [HCR.out, if_neg (by rw [show iAt keep k = 0 by simp [iAt, show keep.length ≤ k by rw [← HKL.out]; omega]]; omega)]
            exact VU.out
          clear HCR VV VU hb0 HFA HB2 HPR
          go_wp2
          go_roundw
          case rel => exact ⟨k + 1, V, by omega, by go_num, HCR2.out⟩
          case measure => simp [intOf]; omega
      · have hkd : k = d.dw.length := by rw [← HND.out]; omega
        subst hkd
        have HDK : Hid (Dk wr (fun _ => True) (some ⟨g, 0, none⟩) sn cc none 0 0 ⟨crS d.sh d.dw keep d.dw.length, []⟩) := ⟨VV.out.shr, wrr_nil _ _⟩
        have HSM2 : Hid (smallD ⟨crS d.sh d.dw keep d.dw.length, []⟩) := ⟨fun i hi => by have := crS_le HOK.out HBY.out keep i; simp only at this ⊢; omega, fun i hi => by simp at hi⟩
        go_wp2_with fail
        refine (copyDisk_any (fun _ => True) _ _ _ _ _ _ _ _ HDK.out HSM2.out h1 (by omega)).mono ?_
        rintro e w3 ⟨za, zn, zc, ya, yn, yc, V3, U3, rfl, hO, hb⟩
        have J1 := hid (VV.out.k1.below hb)
        have HO := hid hO
        have B2 := hid (bt7 VV.out.bel hb)
        have SZ : Hid (w.heap.size + 2 ≤ wr.heap.size) := VV.out.k1.lt
        clear hO hb VV HDK
        have r0 := J1.out.cell (j := 0) rfl
        have r1 := J1.out.cell (j := 1) rfl
        have f0 := J1.out.free 0
        have f1 := J1.out.free 1
        go_wp2
        try simp only [Exit.inBlock, Exit.then]
        refine bodyPost_ret (v := .agg #[.slice za zn zc, .slice ya yn yc]) ?_ rfl ?_
        · exact results_dsk rfl _ _ _ rfl (by go_simp) (by go_simp)
        · rw [HF.out]
          have O1 : Only (fun y => y = w.heap.size + 1) w3 ((w3.setCell ⟨w.heap.size + 1, 0, none⟩ (.slice za zn zc)).setCell ⟨w.heap.size + 1, 1, none⟩ (.slice ya yn yc)) := (only_set (R := fun y => y = w.heap.size + 1) rfl _).trans (only_set (R := fun y => y = w.heap.size + 1) rfl _)
          have hz := SZ.out
          exact ⟨_, _, _, _, _, _, _, _, rfl, (HO.out.to O1 (fun y e e2 => by have := (HO.out.lt e).1; omega)).base (by omega), (B2.out.setCell (p := ⟨w.heap.size + 1, 0, none⟩) (Nat.le_succ _) _).setCell (p := ⟨w.heap.size + 1, 1, none⟩) (Nat.le_succ _) _⟩
end Go.Proofs.YtcpdedpgjaimkaaDoor
/-
  The writes of a disk walked from behind: the program's iterator.
-/
namespace Go.Proofs.YtcpdedpgjaimkaaDoor
open Go.RowKit Go.Shelf
set_option linter.unusedVariables false
attribute [local go_sem] Oper.semAt_some
/-- Where the writes lie: T their places, A N C their bytes' slices. -/
def Lsw (n₀ : Nat) (W : World) (a : Option Addr) (n : Nat) (T : Nat → Int) (A : Nat → Option Addr) (N C : Nat → Nat) : Prop :=
  0 < n → ∃ b off, a = some ⟨b, off, none⟩ ∧ b < n₀ ∧ ∀ i, i < n → W.cell? ⟨b, off + i * 2, none⟩ = some (.int .i64 (T i)) ∧ W.cell? ⟨b, off + i * 2 + 1, none⟩ = some (.slice (A i) (N i) (C i))
theorem Lsw.below {n₀ : Nat} {W W' : World} {a : Option Addr} {n : Nat} {T : Nat → Int} {A : Nat → Option Addr} {N C : Nat → Nat} (h : Lsw n₀ W a n T A N C) (hb : Below n₀ W W') : Lsw n₀ W' a n T A N C := by
  intro hp
  obtain ⟨b, off, rfl, hbn, hc⟩ := h hp
  exact ⟨b, off, rfl, hbn, fun i hi => ⟨(hb.cell (p := ⟨b, off + i * 2, none⟩) hbn).trans (hc i hi).1, (hb.cell (p := ⟨b, off + i * 2 + 1, none⟩) hbn).trans (hc i hi).2⟩⟩
/-- The numbers n - 1, n - 2, .. : k of them. -/
def dnTo (n k : Nat) : List Nat := (List.range k).map fun j => n - 1 - j
theorem dnTo_succ (n k : Nat) : dnTo n (k + 1) = dnTo n k ++ [n - 1 - k] := by simp [dnTo, List.range_succ]
theorem dnTo_length (n k : Nat) : (dnTo n k).length = k := by simp [dnTo]
theorem dnTo_pre (n : Nat) {k m : Nat} (h : k ≤ m) : dnTo n k <+: dnTo n m := by
  obtain ⟨j, rfl⟩ : ∃ j, m = k + j := ⟨m - k, by omega⟩
  clear h
  induction j with
  | zero => exact List.prefix_refl _
  | succ j ih => rw [← Nat.add_assoc, dnTo_succ]; exact ih.trans (List.prefix_append _ _)
set_option maxRecDepth 100000 in
set_option maxHeartbeats 4000000 in
theorem behind1_in (F : Fence) (m : Nat) (h6 : F.fn 25) (hro : F.round = none) (hm : 1 ≤ m) (l Bn n₀ : Nat) (a : Option Addr) (n c : Nat) (T : Nat → Int) (A : Nat → Option Addr) (N C : Nat → Nat) (J Jx : List Nat → World → Prop)
    (hY : ∀ pre x W, J pre W → pre.length < n → YieldAt F (m - 1) Tryd.prog l #[.agg #[.int .i64 (T x), .slice (A x) (N x) (C x)]] W fun e W' =>
      (e = .returned (.bool true) ∧ J (pre ++ [x]) W' ∧ Below n₀ W W') ∨ (e = .returned (.bool false) ∧ Jx (pre ++ [x]) W'))
    (W : World) (hB0 : Bn < n₀) (hBn : W.cell? ⟨Bn, 0, none⟩ = some (.slice a n c)) (hL : Lsw n₀ W a n T A N C) (hn : n ≤ c) (hc : c ≤ 9223372036854775807) (h0 : J [] W) :
    CallsIn F m Tryd.prog 25 #[.func (.yield l) #[] #[], .pointer (some ⟨Bn, 0, none⟩)] W fun e W' => (∃ v, e = .returned v) ∧
      ((∃ ys, ys = dnTo n n ∧ J ys W') ∨ (∃ pre, pre <+: dnTo n n ∧ Jx pre W')) := by
  refine callsIn_of_wp Tryd.func25 rfl h6 ?_ hro
  simp only [Tryd.ntmps25, List.size_toArray, List.length_cons, List.length_nil, Nat.reduceAdd, Nat.reduceSub, Array.replicate_succ, Array.replicate_zero, List.push_toArray, List.append_toArray, List.nil_append, List.cons_append]
  gi_wp2
  gi_loopw [3] (fun p wr => ∃ k : Nat, k ≤ n ∧ p = .int .i64 ((k : Int) - 1) ∧ Hid (J (dnTo n (n - k)) wr) ∧ wr.cell? ⟨Bn, 0, none⟩ = some (.slice a n c) ∧ Hid (Lsw n₀ wr a n T A N C)) (fun p _ => (intOf p + 1).toNat)
  case atStart => exact ⟨n, Nat.le_refl _, by go_num, by rw [Nat.sub_self]; exact h0, hBn, hL⟩
  case round =>
    obtain ⟨k, hk, rfl, HJ, hcB, HL⟩ := hrel
    cases k with
    | zero =>
      have HJ' : Hid (J (dnTo n n) wr) := HJ.out
      have hneg : ¬ (0 : Int) ≤ ((0 : Nat) : Int) - 1 := by omega
      gi_wp2
      go_end0
      exact ⟨⟨_, rfl⟩, .inl HJ'.out⟩
    | succ j =>
      obtain ⟨b, off, rfl, hbn, hcell⟩ := HL.out (by omega)
      obtain ⟨m0, m1⟩ := hcell j (by omega)
      have hj : (((j + 1 : Nat) : Int) - 1) = (j : Int) := by omega
      rw [hj]
      have hjn : (j : Int) < (n : Int) := by omega
      have HP : Hid (dnTo n (n - j) = dnTo n (n - (j + 1)) ++ [j]) := by
        show _ = _
        rw [show n - j = n - (j + 1) + 1 by omega, dnTo_succ, show n - 1 - (n - (j + 1)) = j by omega]
      obtain ⟨fn, tmps, assign, body, hy, hR⟩ := hY _ j wr HJ.out (by rw [dnTo_length]; omega)
      clear hcell
      gi_wp2
      refine hR.mono ?_
      rintro e W3 (⟨rfl, hJ3, hk3⟩ | ⟨rfl, hJx3⟩)
      · have hq3 : W3.cell? ⟨Bn, 0, none⟩ = some (.slice (some ⟨b, off, none⟩) n c) := (hk3.cell (p := ⟨Bn, 0, none⟩) hB0).trans hcB
        have HL3 := hid (HL.out.below hk3)
        have HJ3 : Hid (J (dnTo n (n - j)) W3) := by rw [HP.out]; exact hJ3
        clear hJ3 hk3 m0 m1 hcB HL
        gi_wp2
        go_roundw
        case rel => exact ⟨j, by omega, by go_num, HJ3.out, hq3, HL3.out⟩
        case measure => simp [intOf]
      · have HX : Hid (Jx (dnTo n (n - j)) W3) := by rw [HP.out]; exact hJx3
        gi_wp2
        refine bodyPost_ret (results_none rfl _ _ _) rfl ?_
        exact ⟨⟨_, rfl⟩, .inr ⟨_, dnTo_pre n (by omega), HX.out⟩⟩
theorem behind_stops (F : Fence) (m : Nat) (h6 : F.fn 25) (hro : F.round = none) (hm : 1 ≤ m) (Bn n₀ : Nat) (a : Option Addr) (n c : Nat) (T : Nat → Int) (A : Nat → Option Addr) (N C : Nat → Nat) (w : World) (hB0 : Bn < n₀) (hn₀ : n₀ ≤ w.heap.size)
    (hBn : w.cell? ⟨Bn, 0, none⟩ = some (.slice a n c)) (hL : Lsw n₀ w a n T A N C) (hn : n ≤ c) (hc : c ≤ 9223372036854775807) :
    SeqStopsK F m Tryd.prog 25 #[.pointer (some ⟨Bn, 0, none⟩)] (fun x : Nat => #[Value.agg #[.int .i64 (T x), .slice (A x) (N x) (C x)]]) (Below n₀) (fun ys => ys = dnTo n n) (fun pre => pre <+: dnTo n n) n w := fun l J Jx W hW _ _ hY h0 =>
  behind1_in F m h6 hro hm l Bn n₀ a n c T A N C J Jx hY W hB0 ((hW.cell (p := ⟨Bn, 0, none⟩) (by show Bn < _; omega)).trans hBn) (hL.below (hW.mono hn₀)) hn hc h0
set_option maxHeartbeats 1000000 in
theorem behind_in (F : Fence) (m : Nat) (h5 : F.fn 19) (hro : F.round = none) (a : Option Addr) (n c : Nat) (w : World) :
    CallsIn F m Tryd.prog 19 #[.slice a n c] w fun e w' => e = .returned (.func (.func 25) #[] #[.pointer (some ⟨w.heap.size, 0, none⟩)]) ∧ w' = w.alloc (.cells #[.slice a n c] 24) := by
  refine callsIn_of_wp Tryd.func19 rfl h5 ?_ hro
  simp only [Tryd.ntmps19, List.size_toArray, List.length_cons, List.length_nil, Nat.reduceAdd, Nat.reduceSub, Array.replicate_succ, Array.replicate_zero, List.push_toArray, List.append_toArray, List.nil_append, List.cons_append]
  gi_wp2
  go_ret
  exact ⟨rfl, rfl⟩
end Go.Proofs.YtcpdedpgjaimkaaDoor
/-
  DiskRead of the specification and of the program.
-/
namespace Go.Proofs.YtcpdedpgjaimkaaDoor
open Go.RowKit Go.Shelf
set_option linter.unusedVariables false
theorem bt6 {u v w : World} (h : Below u.heap.size u v) (k : Below v.heap.size v w) : Below u.heap.size u w := h.trans (k.mono h.size)
set_option maxHeartbeats 1000000 in
theorem copyBytes_any (a : Option Addr) (n c : Nat) (zs : List Int) (w : World) (h : Rd w a n c zs) (hn : n ≤ 1048576) :
    Calls Tryd.prog 20 #[.slice a n c] w fun e w' => ∃ v, e = .returned v ∧ Ob w' w.heap.size v zs ∧ Below w.heap.size w w' := by
  have HR := hid h
  have hzl : n = zs.length := h.1
  have HO : Hid (Ob w w.heap.size (.slice none 0 0) []) := World.ownsRow_nil _ _ _ _
  have hzb : ([] : List Int).length + zs.length ≤ 70368744177664 := by rw [← hzl]; simp; omega
  clear h hzl
  go_enter Tryd.func20, Tryd.ntmps20
  go_wp2_with (at_builtin; refine wpList_append_rd rfl _ _ rfl w.heap.size _ [] rfl HO.out a n c zs rfl HR.out hzb (Nat.le_refl _) ?_)
  intro v3 w3 hO3 hg3
  have O3 : Hid (Ob w3 w.heap.size v3 zs) := by show Ob _ _ _ _; simpa using hO3
  have B3 : Hid (Below w.heap.size w w3) := (only_of_grown hg3 (R := fun _ => False) (fun k e => by cases e)).below (Nat.le_refl _) (fun _ _ h => h)
  obtain ⟨a3, c3, rfl⟩ := hO3.shape
  clear hO3 hg3 HO HR
  go_wp2
  go_ret
  exact ⟨_, rfl, O3.out, B3.out⟩
/-- The last write to a sheet. -/
def lastW (ds : List DW) (t : Int) : Nat → Option (List Int)
  | 0 => none
  | k + 1 => if (dwAt ds k).1 = t then some (dwAt ds k).2 else lastW ds t k
/-- What is read of a disk. -/
def rdV (d : DK) (t : Int) : Option (List Int) :=
  if dkOk d = true ∧ 0 ≤ t ∧ t < (d.sh.length : Int) then some ((lastW d.dw t d.dw.length).getD (sheet (shAt d.sh t.toNat))) else none
def RdPost (o : Option (List Int)) (w : World) (e : Ending) (w' : World) : Prop := ∃ a n c, e = .returned (.tuple #[.slice a n c, .bool o.isSome]) ∧ Ob w' w.heap.size (.slice a n c) (o.getD []) ∧ Below w.heap.size w w'
theorem shOk_sht (l : List Int) : shOk l = shtOk l := rfl
end Go.Proofs.YtcpdedpgjaimkaaDoor
/-
  DiskRead of the program.
-/
namespace Go.Proofs.YtcpdedpgjaimkaaDoor
open Go.RowKit Go.Shelf
set_option linter.unusedVariables false
attribute [local go_sem] Oper.semAt_some
theorem results_rb {fn : Func} {p u : Tmp} (h : fn.results = #[.cell p 22, .cell u 4]) (tmps : Array Value) (w : World) (g g' : Nat) {x y : Value} (hp : tmps.getD p undef = .pointer (some ⟨g, 0, none⟩)) (hu : tmps.getD u undef = .pointer (some ⟨g', 0, none⟩))
    (c0 : w.cell? ⟨g, 0, none⟩ = some x) (c1 : w.cell? ⟨g', 0, none⟩ = some y) : (results fn tmps).run Tryd.prog w = .ok (.tuple #[x, y]) w := by
  have hp' : tmps[p]?.getD undef = .pointer (some ⟨g, 0, none⟩) := by simpa using hp
  have hu' : tmps[u]?.getD undef = .pointer (some ⟨g', 0, none⟩) := by simpa using hu
  have l0 : (loadVar 22 ⟨g, 0, none⟩).run Tryd.prog w = .ok x w := by go_simp
  have l1 : (loadVar 4 ⟨g', 0, none⟩).run Tryd.prog w = .ok y w := by go_simp
  simp [results, h, hp', hu', asAddr, l0, l1, Result.andThen]
theorem bk_keeps {X Y : World} {row : Option Nat} {g : Nat} {T : TypeId} {xs : List Value} (h : Bk X g T xs) (hg : X.grownBy Y row) (hr : ∀ r, row = some r → ∃ o : Obj, X.heap[r]? = some o ∧ o.isCells = false) : Bk Y g T xs :=
  (hg.block g h.lt (fun e => by obtain ⟨o, ho, hc⟩ := hr g e.symm; rw [show X.heap[g]? = _ from h] at ho; cases ho; cases hc)).trans h
theorem ob_keeps {X Y : World} {row : Option Nat} {B : Nat} {v : Value} {zs : List Int} (h : Ob X B v zs) (hg : X.grownBy Y row) (hr : ∀ r, row = some r → ∃ o : Obj, X.heap[r]? = some o ∧ o.isCells = false) : Ob Y B v zs := by
  have hlt := World.ownsRow.lt h
  refine ⟨h.1, h.2.imp id ?_⟩
  rintro ⟨g, cap, cur, rfl, k3, k4, k5⟩
  exact ⟨g, cap, cur, rfl, k3, (hg.block g (hlt g rfl).2 (fun e => by obtain ⟨o, ho, hc⟩ := hr g e.symm; rw [k4] at ho; cases ho; cases hc)).trans k4, k5⟩
theorem lastW_skip (ds : List DW) (t : Int) (n : Nat) : ∀ k, k ≤ n → (∀ i ∈ dnTo n k, (dwAt ds i).1 ≠ t) → lastW ds t n = lastW ds t (n - k) := by
  intro k
  induction k with
  | zero => intro _ _; rfl
  | succ k ih =>
    intro hk h
    rw [ih (by omega) (fun i hi => h i (by rw [dnTo_succ]; exact List.mem_append.2 (.inl hi)))]
    have hj := h (n - 1 - k) (by rw [dnTo_succ]; simp)
    rw [show n - k = (n - (k + 1)) + 1 by omega, lastW, if_neg (by rw [show n - (k + 1) = n - 1 - k by omega]; exact hj)]
theorem dnTo_prefix {n : Nat} {pre : List Nat} {j : Nat} (h : pre ++ [j] <+: dnTo n n) : pre.length < n ∧ pre = dnTo n pre.length ∧ j = n - 1 - pre.length := by
  have hl := h.length_le
  rw [dnTo_length] at hl
  simp at hl
  have h1 := List.prefix_iff_eq_take.1 h
  have h2 := List.prefix_iff_eq_take.1 (dnTo_pre n (show pre.length + 1 ≤ n by omega))
  rw [dnTo_length] at h2
  simp only [List.length_append, List.length_cons, List.length_nil, Nat.zero_add] at h1
  rw [← h2, dnTo_succ] at h1
  have h3 := List.append_inj' h1 rfl
  exact ⟨by omega, h3.1, by simpa using h3.2⟩
theorem wrr_fun {w : World} {S : Nat → Prop} {a : Option Addr} {n c : Nat} {ds : List DW} (h : Wrr w S (.slice a n c) ds) : ∃ (A : Nat → Option Addr) (N C : Nat → Nat), (∀ i, By w S (.slice (A i) (N i) (C i)) (dwAt ds i).2) ∧ Lsw w.heap.size w a n (fun i => (dwAt ds i).1) A N C := by
  have hn := h.len.1
  have ex : ∀ i, ∃ p : Option Addr × Nat × Nat, By w S (.slice p.1 p.2.1 p.2.2) (dwAt ds i).2 ∧ ∀ b off, i < n → a = some ⟨b, off, none⟩ → w.cell? ⟨b, off + i * 2, none⟩ = some (.int .i64 (dwAt ds i).1) ∧ w.cell? ⟨b, off + i * 2 + 1, none⟩ = some (.slice p.1 p.2.1 p.2.2) := by
    intro i
    by_cases hi : i < n
    · obtain ⟨b, off, rfl, _, _, hc⟩ := h.at (by omega)
      obtain ⟨ap, np, cp, c0, c1, hb⟩ := hc i hi
      exact ⟨(ap, np, cp), hb, fun b' off' _ e => by cases e; exact ⟨c0, c1⟩⟩
    · have : dwAt ds i = (0, []) := by simp [dwAt, show ds.length ≤ i by omega]
      rw [this]
      exact ⟨(none, 0, 0), ⟨rw_nil _ _, fun j => by simp⟩, fun b off h => absurd h hi⟩
  obtain ⟨f, hf⟩ := Classical.axiomOfChoice ex
  refine ⟨fun i => (f i).1, fun i => (f i).2.1, fun i => (f i).2.2, fun i => (hf i).1, fun hp => ?_⟩
  obtain ⟨b, off, rfl, _, hb, _⟩ := h.at hp
  exact ⟨b, off, rfl, hb, fun i hi => (hf i).2 b off hi rfl⟩
theorem Lsw.mono {n₀ n₁ : Nat} {W : World} {a : Option Addr} {n : Nat} {T : Nat → Int} {A : Nat → Option Addr} {N C : Nat → Nat} (h : Lsw n₀ W a n T A N C) (hb : n₀ ≤ n₁) : Lsw n₁ W a n T A N C := by
  intro hp
  obtain ⟨b, off, rfl, hbn, hc⟩ := h hp
  exact ⟨b, off, rfl, by omega, hc⟩
theorem keepsFrom_below {B : Nat} {W W' : World} (h : Below W.heap.size W W') : KeepsFrom B W W' := ⟨h.size, fun k o _ hk _ => (h.block k (Array.getElem?_eq_some_iff.1 hk).1).trans hk⟩
/-- The boxes of DiskRead: the disk, the place, the two results. -/
structure Rx (w v : World) (sa : Option Addr) (sn sc : Nat) (da : Option Addr) (dn dc : Nat) (t : Int) : Prop where
  k0 : Bk v w.heap.size 26 [.slice sa sn sc, .slice da dn dc]
  k1 : Bk v (w.heap.size + 1) 3 [.int .i64 t]
  k2 : Bk v (w.heap.size + 1 + 1) 22 [.slice none 0 0]
  k3 : Bk v (w.heap.size + 1 + 1 + 1) 4 [.bool false]
theorem Rx.below {w v v' : World} {sa : Option Addr} {sn sc : Nat} {da : Option Addr} {dn dc : Nat} {t : Int} (h : Rx w v sa sn sc da dn dc t) (hb : Below v.heap.size v v') : Rx w v' sa sn sc da dn dc t := ⟨h.k0.below hb, h.k1.below hb, h.k2.below hb, h.k3.below hb⟩
set_option maxHeartbeats 8000000 in
set_option maxRecDepth 100000 in
theorem implDiskRead_any (S : Nat → Prop) (sa : Option Addr) (sn sc : Nat) (da : Option Addr) (dn dc : Nat) (d : DK) (t : Int) (w : World) (h : Dk w S sa sn sc da dn dc d) (hsm : smallD d) (he : Err w 1) (he2 : Err w 0) :
    Calls Tryd.prog 9 #[.agg #[.slice sa sn sc, .slice da dn dc], .int .i64 t] w fun e w' => RdPost (rdV d t) w e w' := by
  refine (callsIn_wide (n := 9)).1 ?_
  refine callsIn_of_wp_marks Tryd.func9 rfl trivial ?_ rfl
  simp only [Tryd.ntmps9, List.size_toArray, List.length_cons, List.length_nil, Nat.reduceAdd, Nat.reduceSub, Array.replicate_succ, Array.replicate_zero, List.push_toArray, List.append_toArray, List.nil_append, List.cons_append]
  have HH := hid h
  have HSM := hid hsm
  have HE := hid he
  have HE2 := hid he2
  have hsc := h.hs.len.2
  have hdc := h.hd.len.2
  have HNS := hid h.hs.len.1
  have HND := hid h.hd.len.1
  have HV : Hid (rdV d t = if dkOk d = true ∧ 0 ≤ t ∧ t < (d.sh.length : Int) then some ((lastW d.dw t d.dw.length).getD (sheet (shAt d.sh t.toNat))) else none) := rfl
  have HN : Hid (¬ (dkOk d = true ∧ 0 ≤ t ∧ t < (d.sh.length : Int)) → rdV d t = none) := fun hh => by rw [HV.out, if_neg hh]
  have X0 : Hid (Rx w ((((w.alloc (.cells #[.slice sa sn sc, .slice da dn dc] 26)).alloc (.cells #[.int .i64 t] 3)).alloc (.cells #[.slice none 0 0] 22)).alloc (.cells #[.bool false] 4)) sa sn sc da dn dc t) := by
    refine ⟨(((Bk.new w 26 [.slice sa sn sc, .slice da dn dc]).alloc _).alloc _).alloc _, ?_, ?_, ?_⟩
    · have := ((Bk.new (w.alloc (.cells #[.slice sa sn sc, .slice da dn dc] 26)) 3 [.int .i64 t]).alloc (.cells #[.slice none 0 0] 22)).alloc (.cells #[.bool false] 4)
      simpa using this
    · have := (Bk.new ((w.alloc (.cells #[.slice sa sn sc, .slice da dn dc] 26)).alloc (.cells #[.int .i64 t] 3)) 22 [.slice none 0 0]).alloc (.cells #[.bool false] 4)
      simpa using this
    · have := Bk.new (((w.alloc (.cells #[.slice sa sn sc, .slice da dn dc] 26)).alloc (.cells #[.int .i64 t] 3)).alloc (.cells #[.slice none 0 0] 22)) 4 [.bool false]
      simpa using this
  have B0 : Hid (Below w.heap.size w ((((w.alloc (.cells #[.slice sa sn sc, .slice da dn dc] 26)).alloc (.cells #[.int .i64 t] 3)).alloc (.cells #[.slice none 0 0] 22)).alloc (.cells #[.bool false] 4))) := below_new (below_new (below_new (below_new (Below.refl _ _))))
  have HK := hid (implDiskOk_any S sa sn sc da dn dc d _ (h.below B0.out))
  clear h hsm he he2
  gi_wp2_with fail
  refine ⟨trivial, (callsIn_wide.2 HK.out).mono ?_⟩
  generalize (((w.alloc (.cells #[.slice sa sn sc, .slice da dn dc] 26)).alloc (.cells #[.int .i64 t] 3)).alloc (.cells #[.slice none 0 0] 22)).alloc (.cells #[.bool false] 4) = U at *
  rintro e w1 ⟨rfl, hb⟩
  have X1 := hid (X0.out.below hb)
  have B1 := hid (bt6 B0.out hb)
  clear hb HK X0 B0
  have HEND : Hid (∀ v : World, v = (w1.setCell ⟨w.heap.size + 1 + 1, 0, none⟩ (.slice none 0 0)).setCell ⟨w.heap.size + 1 + 1 + 1, 0, none⟩ (.bool false) → Below w.heap.size w v) := fun v e => by
    rw [e]
    exact (B1.out.setCell (p := ⟨w.heap.size + 1 + 1, 0, none⟩) (by show w.heap.size ≤ w.heap.size + 1 + 1; omega) _).setCell (p := ⟨w.heap.size + 1 + 1 + 1, 0, none⟩) (by show w.heap.size ≤ w.heap.size + 1 + 1 + 1; omega) _
  have c2 := X1.out.k2.cell (j := 0) rfl
  have f2 := X1.out.k2.free 0
  have c3 := X1.out.k3.cell (j := 0) rfl
  have f3 := X1.out.k3.free 0
  have c1 := X1.out.k1.cell (j := 0) rfl
  have d0 := X1.out.k0.cell (j := 0) rfl
  have d1 := X1.out.k0.cell (j := 1) rfl
  cases hok : dkOk d with
  | false =>
    have HF := hid (HN.out (by rw [hok]; simp))
    gi_wp2
    refine ⟨.tuple #[.slice none 0 0, .bool false], results_rb rfl _ _ _ _ rfl rfl (by go_simp) (by go_simp), ?_⟩
    rw [HF.out]
    exact ⟨_, _, _, rfl, World.ownsRow_nil _ _ _ _, HEND.out _ rfl⟩
  | true =>
    have HOK := hid hok
    clear hok
    by_cases t0 : t < 0
    · have HF := hid (HN.out (by omega))
      gi_wp2
      refine ⟨.tuple #[.slice none 0 0, .bool false], results_rb rfl _ _ _ _ rfl rfl (by go_simp) (by go_simp), ?_⟩
      rw [HF.out]
      exact ⟨_, _, _, rfl, World.ownsRow_nil _ _ _ _, HEND.out _ rfl⟩
    · by_cases t1 : (sn : Int) ≤ t
      · have HF := hid (HN.out (by rw [← HNS.out]; omega))
        gi_wp2
        refine ⟨.tuple #[.slice none 0 0, .bool false], results_rb rfl _ _ _ _ rfl rfl (by go_simp) (by go_simp), ?_⟩
        rw [HF.out]
        exact ⟨_, _, _, rfl, World.ownsRow_nil _ _ _ _, HEND.out _ rfl⟩
      · have HV2 : Hid (rdV d t = some ((lastW d.dw t d.dw.length).getD (sheet (shAt d.sh t.toNat)))) := by
          show _ = _
          rw [HV.out, if_pos ⟨HOK.out, by omega, by rw [← HNS.out]; omega⟩]
        clear HV HN HEND
        gi_wp2_with fail
        refine ⟨trivial, (behind_in Fence.wide _ trivial rfl _ _ _ _).mono ?_⟩
        rintro e w2 ⟨rfl, rfl⟩
        gi_wp2_with fail
        obtain ⟨A, N, C, hBY, hLS⟩ := wrr_fun HH.out.hd
        have hb2 := below_new (o := .cells #[.slice da dn dc] 24) (w := w1) (Below.refl _ _)
        have X2 := hid (X1.out.below hb2)
        have B2 := hid (bt6 B1.out hb2)
        have KB := hid (Bk.new w1 24 [.slice da dn dc])
        have S1 : Hid (w.heap.size + 4 ≤ w1.heap.size) := X1.out.k3.lt
        have S2 : Hid ((w1.alloc (.cells #[.slice da dn dc] 24)).heap.size = w1.heap.size + 1) := by show _ = _; simp
        clear hb2 X1 B1 c1 c2 c3 d0 d1 f2 f3
        generalize w1.alloc (.cells #[.slice da dn dc] 24) = W0 at *
        generalize w1.heap.size = b1 at *
        have s1 := S1.out
        have s2 := S2.out
        refine wpIn_rangeFunc_ownH rfl (by omega) (gf := 25) (lb := #[.pointer (some ⟨b1, 0, none⟩)]) rfl trivial (enters_of Tryd.func25 (by kernel_rfl) rfl)
          (behind_stops Fence.wide (9 - 1) trivial rfl (by omega) b1 W0.heap.size da dn dc (fun i => (dwAt d.dw i).1) A N C W0 (by omega) (Nat.le_refl _) (KB.out.cell (j := 0) rfl) ((hLS.below B2.out).mono (by omega)) hdc.1 hdc.2) belowK_t (belowK_b (Nat.le_refl _)) (Below.refl _ _) (fun _ => rfl)
          (fun pre W => (∀ j ∈ pre, (dwAt d.dw j).1 ≠ t) ∧ Below W0.heap.size W0 W)
          (fun c pre W => c = .ret ∧ (∃ j pre' a n c', pre = pre' ++ [j] ∧ (dwAt d.dw j).1 = t ∧ (∀ i ∈ pre', (dwAt d.dw i).1 ≠ t) ∧ Bk W (w.heap.size + 1 + 1) 22 [.slice a n c'] ∧ Bk W (w.heap.size + 1 + 1 + 1) 4 [.bool true] ∧ Ob W w.heap.size (.slice a n c') (dwAt d.dw j).2) ∧ Below w.heap.size w W)
          (OwnFrom.and (ownFrom_pure _ _) (ownFrom_below (Nat.le_refl _) (Nat.le_refl _)))
          (fun c s X Y row hs hg hr => by
            obtain ⟨e, ⟨j, pre', a, n, c', e1, e2, e3, k2, k3, hO⟩, hB⟩ := hs
            exact ⟨e, ⟨j, pre', a, n, c', e1, e2, e3, bk_keeps k2 hg (fun r e => (hr r e).2), bk_keeps k3 hg (fun r e => (hr r e).2), ob_keeps hO hg (fun r e => (hr r e).2)⟩, ownFrom_below (β := Unit) (Nat.le_refl _) (B := W0.heap.size) (by omega) () X Y row hB hg hr⟩)
          ⟨fun j hj => (by cases hj), Below.refl _ _⟩
          (fun x a' W => ∃ Bx, W0.heap.size ≤ Bx ∧ Bk W Bx 43 [.int .i64 (dwAt d.dw x).1, .slice (A x) (N x) (C x)] ∧ a' = { tmps := #[.agg #[.slice sa sn sc, .slice da dn dc], .int .i64 t, .pointer (some ⟨w.heap.size, 0, none⟩), .pointer (some ⟨w.heap.size + 1, 0, none⟩), .pointer (some ⟨w.heap.size + 1 + 1, 0, none⟩), .pointer (some ⟨w.heap.size + 1 + 1 + 1, 0, none⟩), .pointer (some ⟨Bx, 0, none⟩), .agg #[.slice sa sn sc, .slice da dn dc], .bool true, .bool false, .bool false, .int .i64 t, .bool (decide (t < 0)), .bool (decide (t < 0)), .bool (decide (t < 0)), .int .i64 t, .pointer (some ⟨w.heap.size, 0, none⟩), .slice sa sn sc, .int .i64 (sn : Int), .bool (decide ((sn : Int) ≤ t)), .bool (decide (t < 0) || decide ((sn : Int) ≤ t)), .pointer (some ⟨w.heap.size, 1, none⟩), .slice da dn dc, .func (.func 25) #[] #[.pointer (some ⟨b1, 0, none⟩)], .agg #[.int .i64 (dwAt d.dw x).1, .slice (A x) (N x) (C x)], undef, undef, undef, undef, undef, undef, undef, undef, undef, undef, undef, undef, undef, undef, undef, undef], defers := [] })
          (fun x a' _ X Y row hs hg hr => by obtain ⟨Bx, h1, h2, h3⟩ := hs; exact ⟨Bx, h1, bk_keeps h2 hg (fun r e => (hr r e).2), h3⟩)
          ?assign ?body ?done ?stop
        case assign =>
          rintro l pre x W K ⟨hne, hBW⟩ hK
          gi_wp2
          exact hK _ _ ((KeepsOthers.alloc _ _).from _) ((Below.refl _ W).alloc hBW.size _) ⟨hne, hBW.alloc hBW.size _⟩ ⟨W.heap.size, hBW.size, Bk.new W _ [_, _], rfl⟩
        case body =>
          rintro l pre x a' W hl ⟨r, hr⟩ ⟨hne, hBW⟩ ⟨Bx, hBx, kX, rfl⟩ hlt
          have e0 := kX.cell (j := 0) rfl
          have e1 := kX.cell (j := 1) rfl
          have XW := hid (X2.out.below hBW)
          have e2 := XW.out.k1.cell (j := 0) rfl
          have HW := hid hBW
          have HX := hid hBx
          have HNE := hid hne
          have BW := hid (bt6 B2.out hBW)
          clear hBW hBx hne hr
          generalize htt : (dwAt d.dw x).1 = tt at *
          have HTT := hid htt
          clear htt
          by_cases e : tt = t
          · subst e
            have hx1 : (dwAt d.dw x).2.length ≤ 1048576 := by
              by_cases hi : x < d.dw.length
              · exact HSM.out.2 x hi
              · simp [dwAt, show d.dw.length ≤ x by omega]
            have HRD := hid (((hBY x).below BW.out).rd (by rw [(hBY x).len.1]; exact hx1))
            have hxN : N x ≤ 1048576 := by rw [(hBY x).len.1]; exact hx1
            gi_wp2_with fail
            refine ⟨trivial, (CallsIn.inRound l (callsIn_wide.2 (copyBytes_any _ _ _ _ _ HRD.out hxN))).mono ?_⟩
            rintro e W3 ⟨v, rfl, hO, hb⟩
            obtain ⟨a3, c3, rfl⟩ := hO.shape
            have X3 := hid (XW.out.below hb)
            have c2 := X3.out.k2.cell (j := 0) rfl
            have f2 := X3.out.k2.free 0
            have c3' := X3.out.k3.cell (j := 0) rfl
            have f3 := X3.out.k3.free 0
            have HO := hid hO
            have HB := hid hb
            clear hO hb e0 e1 e2
            generalize hl3 : (dwAt d.dw x).2.length = L3 at *
            have HL3 := hid hl3
            clear hl3
            gi_wp2
            have hKF := ((keepsFrom_below (B := W0.heap.size) HB.out).trans ((KeepsOthers.setCell W3 ⟨w.heap.size + 1 + 1, 0, none⟩ (.slice a3 L3 c3)).from _)).trans ((KeepsOthers.setCell (W3.setCell ⟨w.heap.size + 1 + 1, 0, none⟩ (.slice a3 L3 c3)) ⟨w.heap.size + 1 + 1 + 1, 0, none⟩ (.bool true)).from _)
            have hBl := HW.out.size
            refine ⟨hKF, rfl, ⟨x, pre, a3, L3, c3, rfl, HTT.out, HNE.out, (X3.out.k2.set 0 _).setOther (by omega) 0 _, (X3.out.k3.setOther (by omega) 0 _).set 0 _, ?_⟩, ?_⟩
            · have O1 : Only (fun y => y < W.heap.size) W3 ((W3.setCell ⟨w.heap.size + 1 + 1, 0, none⟩ (.slice a3 L3 c3)).setCell ⟨w.heap.size + 1 + 1 + 1, 0, none⟩ (.bool true)) := (only_set (R := fun y => y < W.heap.size) (by show w.heap.size + 1 + 1 < _; omega) _).trans (only_set (R := fun y => y < W.heap.size) (by show w.heap.size + 1 + 1 + 1 < _; omega) _)
              exact ownD_base (own_kept HO.out O1 (fun y e e2 => by have := (World.ownsRow.lt HO.out y e).1; omega)) (by omega)
            · exact ((bt6 BW.out HB.out).setCell (p := ⟨w.heap.size + 1 + 1, 0, none⟩) (by show w.heap.size ≤ w.heap.size + 1 + 1; omega) _).setCell (p := ⟨w.heap.size + 1 + 1 + 1, 0, none⟩) (by show w.heap.size ≤ w.heap.size + 1 + 1 + 1; omega) _
          · have e' : (tt == t) = false := by simp [e]
            gi_wp2
            refine ⟨KeepsFrom.refl _ _, Below.refl _ _, fun j hj => ?_, HW.out⟩
            rcases List.mem_append.1 hj with hj | hj
            · exact HNE.out j hj
            · simp at hj
              subst hj
              rw [HTT.out]
              exact e
        case done =>
          rintro D ys W hD rfl ⟨hne, hBW⟩ hK
          have BW := hid (bt6 B2.out hBW)
          have XW := hid (X2.out.below hBW)
          have HW := hid hBW
          have HDD := hid hD
          have HKK := hid hK
          have HLW : Hid (lastW d.dw t d.dw.length = none) := by
            show _ = _
            rw [← HND.out, lastW_skip d.dw t dn dn (Nat.le_refl _) hne, Nat.sub_self]
            rfl
          clear hBW hne hD hK
          obtain ⟨u, hu⟩ : ∃ u : Nat, t = (u : Int) := ⟨t.toNat, by omega⟩
          subst hu
          obtain ⟨b, off, rfl, _, hbw, hcell⟩ := (HH.out.hs.below BW.out).at (by omega)
          obtain ⟨ap, np, cp, m0, hp⟩ := hcell u (by omega)
          have hul : u < d.sh.length := by rw [← HNS.out]; omega
          have hnp : np ≤ 1048576 := by rw [hp.len.1]; exact HSM.out.1 u hul
          have HC := hid (sheetBytes_any ap np cp (shAt d.sh u) W (hp.rd hnp) (HE.out.below BW.out HE.out.lt) (HE2.out.below BW.out HE2.out.lt))
          have HSV : Hid (shV (shAt d.sh u) = some (sheet (shAt d.sh u))) := by
            show _ = _
            rw [shV, if_pos]
            rw [shOk_sht]
            exact ((dkOk_iff d).1 HOK.out).2.2.2.1 u hul
          have HV3 : Hid (rdV d (u : Int) = some (sheet (shAt d.sh u))) := by
            show _ = _
            rw [HV2.out, HLW.out]
            simp
          have hu2 : (u : Int) < (sn : Int) := by omega
          have c1 := XW.out.k1.cell (j := 0) rfl
          have d0 := XW.out.k0.cell (j := 0) rfl
          clear hcell hbw hp
          gi_wp2_with fail
          refine ⟨trivial, (callsIn_wide.2 HC.out).mono ?_⟩
          intro e W3 hput
          rw [HSV.out] at hput
          rcases hput.2 with ⟨h, _⟩ | ⟨v, out, ho, rfl, hO⟩
          · cases h
          · cases ho
            obtain ⟨a3, c3, rfl⟩ := hO.shape
            have hb := hput.1
            have X3 := hid (XW.out.below hb)
            have c2 := X3.out.k2.cell (j := 0) rfl
            have f2 := X3.out.k2.free 0
            have c3' := X3.out.k3.cell (j := 0) rfl
            have f3 := X3.out.k3.free 0
            have HO := hid hO
            have HB := hid hb
            have hK3 : W3.heap[D]? = some (.deferred (some [])) := (hb.block D (Array.getElem?_eq_some_iff.1 HKK.out).1).trans HKK.out
            have HK3 := hid hK3
            clear hO hb hput c1 d0 m0 hK3
            generalize hl3 : (sheet (shAt d.sh u)).length = L3 at *
            gi_wp2
            have hK4 := (KeepsOthers.setCell W3 ⟨w.heap.size + 1 + 1, 0, none⟩ (.slice a3 L3 c3)).same D _ HK3.out rfl
            have hK5 := (KeepsOthers.setCell (W3.setCell ⟨w.heap.size + 1 + 1, 0, none⟩ (.slice a3 L3 c3)) ⟨w.heap.size + 1 + 1 + 1, 0, none⟩ (.bool true)).same D _ hK4 rfl
            refine ⟨by simp, .inl ⟨_, _, rfl, run_takeDeferred hK5, ?_⟩⟩
            have hBl := HW.out.size
            have hDl := HDD.out
            have kk2 := bk_keeps ((X3.out.k2.set 0 (.slice a3 L3 c3)).setOther (b := w.heap.size + 1 + 1 + 1) (by omega) 0 (.bool true)) (grownBy_putObj' _ D (.deferred none)) (fun r e => by cases e; exact ⟨_, hK5, rfl⟩)
            have kk3 := bk_keeps ((X3.out.k3.setOther (b := w.heap.size + 1 + 1) (by omega) 0 (.slice a3 L3 c3)).set 0 (.bool true)) (grownBy_putObj' _ D (.deferred none)) (fun r e => by cases e; exact ⟨_, hK5, rfl⟩)
            refine ⟨.tuple #[.slice a3 L3 c3, .bool true], results_rb rfl _ _ _ _ rfl rfl (kk2.cell (j := 0) rfl) (kk3.cell (j := 0) rfl), ?_⟩
            rw [HV3.out]
            refine ⟨_, _, _, rfl, ?_, ?_⟩
            · have O1 : Only (fun y => y < W.heap.size) W3 ((W3.setCell ⟨w.heap.size + 1 + 1, 0, none⟩ (.slice a3 L3 c3)).setCell ⟨w.heap.size + 1 + 1 + 1, 0, none⟩ (.bool true)) := (only_set (R := fun y => y < W.heap.size) (by show w.heap.size + 1 + 1 < _; omega) _).trans (only_set (R := fun y => y < W.heap.size) (by show w.heap.size + 1 + 1 + 1 < _; omega) _)
              exact ob_keeps (ownD_base (own_kept HO.out O1 (fun y e e2 => by have := (World.ownsRow.lt HO.out y e).1; omega)) (by omega)) (grownBy_putObj' _ D (.deferred none)) (fun r e => by cases e; exact ⟨_, hK5, rfl⟩)
            · exact ((((bt6 BW.out HB.out).setCell (p := ⟨w.heap.size + 1 + 1, 0, none⟩) (by show w.heap.size ≤ w.heap.size + 1 + 1; omega) _).setCell (p := ⟨w.heap.size + 1 + 1 + 1, 0, none⟩) (by show w.heap.size ≤ w.heap.size + 1 + 1 + 1; omega) _)).trans (belowK_b (w := w) (Nat.le_refl _) _ D _ _ (by omega) hK5 rfl rfl)
        case stop =>
          rintro D c pre W hD hpre ⟨rfl, ⟨j, pre', a, n, c', rfl, hT, hne, k2, k3, hO⟩, hB⟩ hK
          obtain ⟨p1, p2, p3⟩ := dnTo_prefix hpre
          have HV3 : Hid (rdV d t = some (dwAt d.dw j).2) := by
            show _ = _
            rw [p2] at hne
            rw [HV2.out, ← HND.out, lastW_skip d.dw t dn _ (by omega) hne, show dn - pre'.length = (dn - 1 - pre'.length) + 1 by omega, lastW, ← p3, if_pos hT]
            rfl
          have HK2 := hid k2
          have HK3 := hid k3
          have HO := hid hO
          have HB := hid hB
          have HKK := hid hK
          have HDD := hid hD
          clear k2 k3 hO hB hK hD hne hpre p1 p2 p3
          gi_wp2
          have hDl := HDD.out
          refine ⟨by simp, .inl ⟨_, _, rfl, run_takeDeferred HKK.out, ?_⟩⟩
          have kk2 := bk_keeps HK2.out (grownBy_putObj' _ D (.deferred none)) (fun r e => by cases e; exact ⟨_, HKK.out, rfl⟩)
          have kk3 := bk_keeps HK3.out (grownBy_putObj' _ D (.deferred none)) (fun r e => by cases e; exact ⟨_, HKK.out, rfl⟩)
          refine ⟨.tuple #[.slice a n c', .bool true], results_rb rfl _ _ _ _ rfl rfl (kk2.cell (j := 0) rfl) (kk3.cell (j := 0) rfl), ?_⟩
          rw [HV3.out]
          exact ⟨_, _, _, rfl, ob_keeps HO.out (grownBy_putObj' _ D (.deferred none)) (fun r e => by cases e; exact ⟨_, HKK.out, rfl⟩), HB.out.trans (belowK_b (w := w) (Nat.le_refl _) W D _ _ (by omega) HKK.out rfl rfl)⟩
end Go.Proofs.YtcpdedpgjaimkaaDoor
/-
  The law FnExactDiskOk answers true at every disk; what the laws over disks keep at hand.
-/
namespace Go.Proofs.YtcpdedpgjaimkaaDoor
open Go.RowKit
set_option linter.unusedVariables false
theorem bt5 {u v w : World} (h : Below u.heap.size u v) (k : Below v.heap.size v w) : Below u.heap.size u w := h.trans (k.mono h.size)
end Go.Proofs.YtcpdedpgjaimkaaDoor
/-
  The law FnExactDiskNew answers true at every number.
-/
namespace Go.Proofs.YtcpdedpgjaimkaaDoor
open Go.RowKit
set_option linter.unusedVariables false
theorem offS_nil (n k : Nat) : offS (List.replicate n []) k = 0 := by
  induction k with
  | zero => rfl
  | succ k ih =>
    rw [offS, ih]
    by_cases e : k < n
    · simp [shAt, e]
    · simp [shAt, e]
theorem dn_small (n : Int) : smallD ((dnV n).getD emD) ∧ dkTot ((dnV n).getD emD) ≤ 4194304 := by
  unfold dnV
  split
  · refine ⟨⟨fun i hi => ?_, fun i hi => by simp at hi⟩, ?_⟩
    · have hi' : i < n.toNat := by simpa using hi
      simp [shAt, hi']
    · simp only [Option.getD_some, dkTot, offS_nil, List.length_nil, offW]; omega
  · exact ⟨⟨fun i hi => by simp [emD] at hi, fun i hi => by simp [emD] at hi⟩, by simp [emD, dkTot, offS, offW]⟩
/-- An answered disk in its box. -/
structure DB (v : World) (b B : Nat) (sa : Option Addr) (sn sc : Nat) (da : Option Addr) (dn dc : Nat) (V : List Value) (U : List (Int × Value)) (d : DK) : Prop where
  box : Bk v b 26 [.slice sa sn sc, .slice da dn dc]
  own : DO v B (.slice sa sn sc) V (.slice da dn dc) U d
  sep : ∀ y, dbl (.slice sa sn sc) V (.slice da dn dc) U y → y < b
theorem DB.below {v v' : World} {b B : Nat} {sa : Option Addr} {sn sc : Nat} {da : Option Addr} {dn dc : Nat} {V : List Value} {U : List (Int × Value)} {d : DK} (h : DB v b B sa sn sc da dn dc V U d) (hb : Below v.heap.size v v') : DB v' b B sa sn sc da dn dc V U d := ⟨h.box.below hb, h.own.below hb, h.sep⟩
theorem DB.to {v v' : World} {R : Nat → Prop} {b B : Nat} {sa : Option Addr} {sn sc : Nat} {da : Option Addr} {dn dc : Nat} {V : List Value} {U : List (Int × Value)} {d : DK} (h : DB v b B sa sn sc da dn dc V U d) (ho : Only R v v') (hb : ¬ R b) (hR : ∀ y, dbl (.slice sa sn sc) V (.slice da dn dc) U y → ¬ R y) : DB v' b B sa sn sc da dn dc V U d := ⟨h.box.to ho hb, h.own.to ho hR, h.sep⟩
theorem DB.new {v : World} {B : Nat} {sa : Option Addr} {sn sc : Nat} {da : Option Addr} {dn dc : Nat} {V : List Value} {U : List (Int × Value)} {d : DK} (h : DO v B (.slice sa sn sc) V (.slice da dn dc) U d) : DB (v.alloc (.cells #[.slice sa sn sc, .slice da dn dc] 26)) v.heap.size B sa sn sc da dn dc V U d := ⟨Bk.new v _ [_, _], h.below (below_new (Below.refl _ _)), fun y hy => (h.lt hy).2⟩
theorem DB.cells {v : World} {b B : Nat} {sa : Option Addr} {sn sc : Nat} {da : Option Addr} {dn dc : Nat} {V : List Value} {U : List (Int × Value)} {d : DK} (h : DB v b B sa sn sc da dn dc V U d) : v.cell? ⟨b, 0, none⟩ = some (.slice sa sn sc) ∧ v.cell? ⟨b, 1, none⟩ = some (.slice da dn dc) := ⟨h.box.cell (j := 0) rfl, h.box.cell (j := 1) rfl⟩
theorem DB.dk {v : World} {b B : Nat} {sa : Option Addr} {sn sc : Nat} {da : Option Addr} {dn dc : Nat} {V : List Value} {U : List (Int × Value)} {d : DK} (h : DB v b B sa sn sc da dn dc V U d) : Dk v (fun _ => True) sa sn sc da dn dc d := h.own.dk (fun _ _ => trivial)
/-- A marked disk in its box. -/
structure DQ5 (v : World) (b : Nat) (sa : Option Addr) (sn sc : Nat) (da : Option Addr) (dn dc : Nat) (V : List Value) (U : List (Int × Value)) (d : DK) (k : Nat) : Prop where
  box : Bk v b 26 [.slice sa sn sc, .slice da dn dc]
  own : DM v (.slice sa sn sc) V (.slice da dn dc) U d k
theorem DQ5.below {v v' : World} {b : Nat} {sa : Option Addr} {sn sc : Nat} {da : Option Addr} {dn dc : Nat} {V : List Value} {U : List (Int × Value)} {d : DK} {k : Nat} (h : DQ5 v b sa sn sc da dn dc V U d k) (hb : Below v.heap.size v v') : DQ5 v' b sa sn sc da dn dc V U d k := ⟨h.box.below hb, h.own.below hb⟩
theorem DQ5.cells {v : World} {b : Nat} {sa : Option Addr} {sn sc : Nat} {da : Option Addr} {dn dc : Nat} {V : List Value} {U : List (Int × Value)} {d : DK} {k : Nat} (h : DQ5 v b sa sn sc da dn dc V U d k) : v.cell? ⟨b, 0, none⟩ = some (.slice sa sn sc) ∧ v.cell? ⟨b, 1, none⟩ = some (.slice da dn dc) := ⟨h.box.cell (j := 0) rfl, h.box.cell (j := 1) rfl⟩
end Go.Proofs.YtcpdedpgjaimkaaDoor
/-
  'string(b)' of a slice of bytes that is read.
-/
namespace Go.Proofs.YtcpdedpgjaimkaaDoor
open Go.RowKit

/-- The string of these bytes. -/
def strOf (zs : List Int) : ByteArray := ⟨(zs.map fun z => UInt8.ofNat z.toNat).toArray⟩
theorem foldl_push (zs : List Int) : ∀ s : ByteArray, zs.foldl (fun r n => r.push (UInt8.ofNat n.toNat)) s = ⟨(s.data.toList ++ zs.map fun z => UInt8.ofNat z.toNat).toArray⟩ := by
  induction zs with
  | nil => intro s; simp
  | cons z zs ih =>
    intro s
    rw [List.foldl_cons, ih]
    simp [ByteArray.push]
theorem strOf_foldl (zs : List Int) : zs.foldl (fun r n => r.push (UInt8.ofNat n.toNat)) ByteArray.empty = strOf zs := by
  rw [foldl_push]
  simp only [strOf]
  rfl

/-- 'string(b)'. -/
theorem run_str {w : World} {a : Option Addr} {n c : Nat} {zs : List Int} (h : Rd w a n c zs) : (convert 22 9 (.slice a n c)).run Tryd.prog w = .ok (.string (strOf zs)) w := by
  rw [run_convert_bytes_string w _ _ _ a n c Tryd.underlying22 Tryd.underlying5 Tryd.underlying9]
  obtain ⟨h1, h2, h3, h30, h4, h5⟩ := h
  cases a with
  | none =>
    have hm : n = 0 := by
      rcases Nat.eq_zero_or_pos n with h | h
      · exact h
      · obtain ⟨b, off, e, _⟩ := h5 h
        cases e
    have hz : zs = [] := List.eq_nil_of_length_eq_zero (by omega)
    subst hz
    rfl
  | some x =>
    rw [run_bytesToString w x n c zs, strOf_foldl]
    have hl := run_firstCells_some (P := Tryd.prog) w 1 n x n c (zs.map (Value.int .u8)) (by simp [h1]) (by
        intro j u hu
        have hj : j < zs.length := by
          have := (List.getElem?_eq_some_iff.1 hu).1
          simpa using this
        obtain ⟨b, off, e, _, hc⟩ := h5 (by omega)
        cases e
        have := hc j (by omega)
        rw [Addr.add_lit, this]
        simp [hj] at hu
        simp [hj, hu])
    simpa [Builtin.firstCells] using hl
end Go.Proofs.YtcpdedpgjaimkaaDoor
/-
  The law FnSync answers true, whatever disk the draw leaves (the draw's contract is a premise here: DrawDiskSync is still to be done).
-/
namespace Go.Proofs.YtcpdedpgjaimkaaDoor
open Go.RowKit
set_option linter.unusedVariables false
theorem syS_at {ss : List (List Int)} {ds : List DW} (j : Nat) (hj : j < ss.length) : ∀ k, k ≤ ds.length → (∀ i, i < ds.length → 0 ≤ (dwAt ds i).1) → shAt (syS ss ds k) j = (lastW ds (j : Int) k).getD (shAt ss j)
  | 0, _, _ => rfl
  | k + 1, hk, hp => by
    have ih := syS_at j hj k (by omega) hp
    have h0 := hp k (by omega)
    rw [syS, lastW]
    by_cases e : (dwAt ds k).1 = (j : Int)
    · rw [if_pos e, e]
      show shAt ((syS ss ds k).set j (dwAt ds k).2) j = _
      rw [shAt_set (by rw [syS_len]; exact hj)]
      rfl
    · rw [if_neg e, shAt_other (by omega), ih]
theorem lastW_len {d : DK} (hok : dkOk d = true) (t : Int) : ∀ k, k ≤ d.dw.length → ∀ x, lastW d.dw t k = some x → x.length = 512
  | 0, _, x, h => by cases h
  | k + 1, hk, x, h => by
    rw [lastW] at h
    split at h
    · cases h
      exact ((wrtOk_iff _ _).1 (((dkOk_iff d).1 hok).2.2.2.2 k (by omega))).2.2
    · exact lastW_len hok t k (by omega) x h
theorem dsV_facts {d : DK} (hok : dkOk d = true) (hb : (∀ i, byt (shAt d.sh i)) ∧ ∀ i, byt (dwAt d.dw i).2) : dkOk (dsV d) = true ∧ (dsV d).dw = [] ∧ (dsV d).sh.length = d.sh.length ∧ ∀ j, j < d.sh.length → rdV (dsV d) (j : Int) = rdV d (j : Int) ∧ (rdV d (j : Int)).isSome = true := by
  have hk := (dkOk_iff d).1 hok
  have he : dsV d = ⟨syS d.sh d.dw d.dw.length, []⟩ := by rw [dsV, if_pos hok]
  have hl : (syS d.sh d.dw d.dw.length).length = d.sh.length := syS_len _ _ _
  have hok2 : dkOk (dsV d) = true := by
    rw [he, dkOk_iff]
    refine ⟨by rw [hl]; exact hk.1, by rw [hl]; exact hk.2.1, Nat.zero_le _, fun i hi => ?_, fun i hi => by simp at hi⟩
    have h2 := (crS_facts hok hb (List.replicate d.dw.length 512) d.dw.length (Nat.le_refl _) i).2 (by simp only at hi; omega)
    rwa [crS_all hok hb _ (Nat.le_refl _)] at h2
  refine ⟨hok2, by rw [he], by rw [he]; exact hl, fun j hj => ?_⟩
  have h1 : rdV d (j : Int) = some ((lastW d.dw (j : Int) d.dw.length).getD (sheet (shAt d.sh j))) := by
    rw [rdV, if_pos ⟨hok, by omega, by omega⟩]
    rfl
  refine ⟨?_, by rw [h1]; rfl⟩
  rw [h1, rdV, if_pos ⟨hok2, by omega, by rw [he]; show (j : Int) < ((syS d.sh d.dw d.dw.length).length : Int); rw [hl]; omega⟩, he]
  show some ((lastW ([] : List DW) (j : Int) 0).getD (sheet (shAt (syS d.sh d.dw d.dw.length) j))) = _
  rw [syS_at j hj _ (Nat.le_refl _) (fun i hi => ((wrtOk_iff _ _).1 (hk.2.2.2.2 i hi)).1)]
  cases hlw : lastW d.dw (j : Int) d.dw.length with
  | none => rfl
  | some x =>
    have := lastW_len hok (j : Int) _ (Nat.le_refl _) x hlw
    show some (sheet x) = some x
    rw [sheet, if_neg (by omega)]
theorem dcV_sync {d : DK} (hok : dkOk d = true) (hb : (∀ i, byt (shAt d.sh i)) ∧ ∀ i, byt (dwAt d.dw i).2) (keep : List Int) : dcV (dsV d) keep = dsV d := by
  obtain ⟨h1, h2, h3, h4⟩ := dsV_facts hok hb
  rw [dcV, if_pos h1, h2]
  generalize dsV d = e at *
  cases e
  simp only at h2
  subst h2
  rfl
theorem ob_belS {w w' : World} {B : Nat} {v : Value} {zs : List Int} (h : Ob w B v zs) (hb : Below w.heap.size w w') : Ob w' B v zs := own_kept h (only_of_below hb (fun _ => False)) (fun _ _ h => h)
theorem ok_small5 {d : DK} (hok : dkOk d = true) : smallD d := by
  have hk := (dkOk_iff d).1 hok
  exact ⟨fun i hi => by have := (shtOk_iff _).1 (hk.2.2.2.1 i hi); omega, fun i hi => by have := ((wrtOk_iff _ _).1 (hk.2.2.2.2 i hi)).2.2; omega⟩
theorem lastW_in (ds : List DW) (t : Int) : ∀ k, k ≤ ds.length → lastW ds t k = none ∨ ∃ i, i < ds.length ∧ lastW ds t k = some (dwAt ds i).2
  | 0, _ => .inl rfl
  | k + 1, hk => by
    rw [lastW]
    split
    · exact .inr ⟨k, by omega, rfl⟩
    · exact lastW_in ds t k (by omega)
theorem rd_len (d : DK) (t : Int) (hs : smallD d) : ((rdV d t).getD []).length ≤ 1048576 := by
  unfold rdV
  split
  · rename_i hc
    show ((lastW d.dw t d.dw.length).getD (sheet (shAt d.sh t.toNat))).length ≤ 1048576
    rcases lastW_in d.dw t _ (Nat.le_refl _) with e | ⟨i, hi, e⟩
    · rw [e]
      have h1 := (shtOk_iff _).1 (((dkOk_iff d).1 hc.1).2.2.2.1 t.toNat (by omega))
      have h2 : (sheet (shAt d.sh t.toNat)).length = 512 := sheet_len (((shtOk_iff _).2 h1) : shOk _ = true)
      show (sheet (shAt d.sh t.toNat)).length ≤ _
      omega
    · rw [e]
      exact hs.2 i hi
  · simp
theorem rd_byt (d : DK) (t : Int) (hb : (∀ i, byt (shAt d.sh i)) ∧ ∀ i, byt (dwAt d.dw i).2) : byt ((rdV d t).getD []) := by
  unfold rdV
  split
  · show byt ((lastW d.dw t d.dw.length).getD (sheet (shAt d.sh t.toNat)))
    rcases lastW_in d.dw t _ (Nat.le_refl _) with e | ⟨i, hi, e⟩
    · rw [e]; exact byt_sht (hb.1 _)
    · rw [e]; exact hb.2 i
  · exact fun i => by simp
/-- What the draw leaves. -/
def SyDraw (w : World) (e : Ending) (w' : World) : Prop := ∃ sa sn sc da dn dc d, e = .returned (.agg #[.slice sa sn sc, .slice da dn dc]) ∧ Dk w' (fun _ => True) sa sn sc da dn dc d ∧ smallD d ∧ sn ≤ 1048576 ∧ dn ≤ 1048576 ∧ Below w.heap.size w w'
/-- A disk in its box. -/
structure SX (v : World) (b : Nat) (sa : Option Addr) (sn sc : Nat) (da : Option Addr) (dn dc : Nat) (d : DK) : Prop where
  box : Bk v b 26 [.slice sa sn sc, .slice da dn dc]
  dk : Dk v (fun _ => True) sa sn sc da dn dc d
theorem SX.below {v v' : World} {b : Nat} {sa : Option Addr} {sn sc : Nat} {da : Option Addr} {dn dc : Nat} {d : DK} (h : SX v b sa sn sc da dn dc d) (hb : Below v.heap.size v v') : SX v' b sa sn sc da dn dc d := ⟨h.box.below hb, h.dk.below hb⟩
theorem SX.new {v : World} {sa : Option Addr} {sn sc : Nat} {da : Option Addr} {dn dc : Nat} {d : DK} (h : Dk v (fun _ => True) sa sn sc da dn dc d) : SX (v.alloc (.cells #[.slice sa sn sc, .slice da dn dc] 26)) v.heap.size sa sn sc da dn dc d := ⟨Bk.new v _ [_, _], h.below (below_new (Below.refl _ _))⟩
set_option maxHeartbeats 16000000 in
set_option maxRecDepth 20000 in
theorem lawSync_walk (HDR : ∀ (a : Option Addr) (n c : Nat) (zs : List Int) (w : World), Rd w a n c zs → n ≤ 1048576 → Calls Tryd.prog 4 #[.slice a n c] w fun e w' => SyDraw w e w')
    (a : Option Addr) (n c : Nat) (z0 : List Int) (w : World) (w0 : IsRow .u8 w a n c z0) (he : Err w 1) (he2 : Err w 0) (_l1 : 1 < w.heap.size) (_l2 : 0 < w.heap.size) :
    Calls Tryd.prog 3 #[.slice a n c] w fun e w' => e = .returned (.bool true) ∧ Below w.heap.size w w' := by
  have HE := hid he
  have HE2 := hid he2
  have HD := hid HDR
  clear he he2 _l1 _l2 HDR
  by_cases hbig : 1048576 < n
  · have hb' : (1048576 : Int) < (n : Int) := by omega
    clear w0
    go_enter Tryd.func3, Tryd.ntmps3
    go_wp2
    go_ret
    exact ⟨rfl, Below.refl _ _⟩
  have hb' : ¬ (1048576 : Int) < (n : Int) := by omega
  have hrd := rd_of_row w0 (by omega)
  have HR := hid hrd
  clear w0 hrd
  go_enter Tryd.func3, Tryd.ntmps3
  go_wp2_with fail
  refine (HD.out a n c _ _ HR.out (by omega)).mono ?_
  rintro e w1 ⟨sa, sn, sc, da, dn, dc, d, rfl, hD, hS, h1, h2, hb⟩
  have HSM := hid hS
  have HBY := hid hD.bytes'
  have NS := hid hD.hs.len.1
  have hsc := hD.hs.len.2
  have X1 := hid (SX.new hD)
  have B1 := hid (bt7 hb (below_new (o := .cells #[.slice sa sn sc, .slice da dn dc] 26) (w := w1) (Below.refl _ _)))
  clear hD hS hb HD
  have x0 := X1.out.box.cell (j := 0) rfl
  have x1 := X1.out.box.cell (j := 1) rfl
  go_wp2_with fail
  refine (implDiskSync_any (fun _ => True) sa sn sc da dn dc d _ X1.out.dk HSM.out h1 h2).mono ?_
  generalize w1.alloc (.cells #[.slice sa sn sc, .slice da dn dc] 26) = u1 at *
  generalize w1.heap.size = b1 at *
  rintro e w2 ⟨ea, en, ec, fa, fn, fc, VE, UE, rfl, hO, hb⟩
  have hb2 := bt7 hb (below_new (o := .cells #[.slice ea en ec, .slice fa fn fc] 26) (w := w2) (Below.refl _ _))
  have X2 := hid (X1.out.below hb2)
  have B2 := hid (bt7 B1.out hb2)
  have E2 := hid (SX.new (hO.dk (S := fun _ => True) (fun _ _ => trivial)))
  have HEN : Hid (en = (dsV d).sh.length) := (own_at hO.hs.row).1
  have HFN : Hid (fn = (dsV d).dw.length) := (own_at hO.hd.row).1
  have hec := (own_at hO.hs.row).2.1
  have hec' := (own_at hO.hs.row).2.2.1
  have hfc := (own_at hO.hd.row).2.1
  have hfc' := (own_at hO.hd.row).2.2.1
  clear hb hb2 hO X1 B1 x0 x1
  have x0 := X2.out.box.cell (j := 0) rfl
  have x1 := X2.out.box.cell (j := 1) rfl
  go_wp2_with fail
  refine (specDiskOk_any (fun _ => True) sa sn sc da dn dc d _ X2.out.dk).mono ?_
  generalize w2.alloc (.cells #[.slice ea en ec, .slice fa fn fc] 26) = u2 at *
  generalize w2.heap.size = b2 at *
  rintro e w3 ⟨rfl, hb⟩
  have X3 := hid (X2.out.below hb)
  have B3 := hid (bt7 B2.out hb)
  have E3 := hid (E2.out.below hb)
  clear hb X2 B2 E2 x0 x1
  have x0 := X3.out.box.cell (j := 0) rfl
  have x1 := X3.out.box.cell (j := 1) rfl
  have e0 := E3.out.box.cell (j := 0) rfl
  have e1 := E3.out.box.cell (j := 1) rfl
  cases hok : dkOk d with
  | false =>
    have hds : dsV d = emD := by rw [dsV, if_neg (by rw [hok]; decide)]
    have hen0 : en = 0 := by rw [HEN.out, hds]; rfl
    subst hen0
    clear hds
    go_wp2_with fail
    refine (implDiskOk_any (fun _ => True) sa sn sc da dn dc d _ X3.out.dk).mono ?_
    rw [hok]
    rintro e w4 ⟨rfl, hb⟩
    have B4 := hid (bt7 B3.out hb)
    go_wp2
    go_ret
    exact ⟨rfl, B4.out⟩
  | true =>
    obtain ⟨q1, q2, q3, q4⟩ := dsV_facts hok HBY.out
    have hen' : sn = en := by rw [HEN.out, q3, NS.out]
    have hfn' : fn = 0 := by rw [HFN.out, q2]; rfl
    have HQ := hid q4
    have HQ2 := hid (ok_small5 q1)
    have HCS := hid (dcV_sync hok HBY.out [3, 512])
    have hsn : sn ≤ 400 := by rw [NS.out]; exact ((dkOk_iff d).1 hok).2.1
    subst hen' hfn'
    clear HEN HFN q1 q2 q3 q4 hok
    have hbn := below_new (o := .cells #[.int .i64 3, .int .i64 512] 3) (w := w3) (Below.refl _ _)
    have HIR : Hid (Ir (w3.alloc (.cells #[.int .i64 3, .int .i64 512] 3)) (fun _ => True) (.slice (some ⟨w3.heap.size, 0, none⟩) 2 2) [3, 512]) := by
      show Rw _ _ _ _ _
      exact (Bk.new w3 3 [.int .i64 3, .int .i64 512]).rw (Nat.le_refl _) (by omega) (fun h => by omega) _ trivial
    have X4 := hid (X3.out.below hbn)
    have E4 := hid (E3.out.below hbn)
    have B4 := hid (bt7 B3.out hbn)
    clear hbn
    go_wp2_with fail
    refine (implDiskCrash_any (fun _ => True) (fun _ => True) _ _ _ _ _ _ (dsV d) _ _ _ [3, 512] _ E4.out.dk HQ2.out (by omega) (by omega) HIR.out (HE.out.below B4.out HE.out.lt) (HE2.out.below B4.out HE2.out.lt)).mono ?_
    rw [HCS.out]
    generalize w3.alloc (.cells #[.int .i64 3, .int .i64 512] 3) = u4 at *
    rintro e w5 ⟨ga, gn, gc, ja, jn, jc, VG, UG, rfl, hO, hb⟩
    have hb2 := bt7 hb (below_new (o := .cells #[.slice ga gn gc, .slice ja jn jc] 26) (w := w5) (Below.refl _ _))
    have X5 := hid (X4.out.below hb2)
    have E5 := hid (E4.out.below hb2)
    have B5 := hid (bt7 B4.out hb2)
    have G5 := hid (SX.new (hO.dk (S := fun _ => True) (fun _ _ => trivial)))
    clear hb hb2 hO X4 E4 B4 HIR X3 E3 B3 x0 x1 e0 e1
    have x0 := X5.out.box.cell (j := 0) rfl
    have x1 := X5.out.box.cell (j := 1) rfl
    go_wp2_with fail
    clear x0 x1
    generalize w5.alloc (.cells #[.slice ga gn gc, .slice ja jn jc] 26) = u5 at *
    generalize w5.heap.size = b5 at *
    go_loopw [36] (fun i wr => ∃ k : Nat, k ≤ sn ∧ i = .int .i64 k ∧ Hid (Below w.heap.size w wr ∧ SX wr b1 sa sn sc da dn dc d ∧ SX wr b2 ea sn ec fa 0 fc (dsV d) ∧ SX wr b5 ga gn gc ja jn jc (dsV d))) (fun i _ => sn - (intOf i).toNat)
    case atStart => exact ⟨0, Nat.zero_le _, rfl, B5.out, X5.out, E5.out, G5.out⟩
    case round =>
      obtain ⟨k, hk, rfl, HW⟩ := hrel
      clear B5 X5 E5 G5
      have X6 := hid HW.out.2.1
      have x0 := HW.out.2.1.box.cell (j := 0) rfl
      have x1 := HW.out.2.1.box.cell (j := 1) rfl
      by_cases hlt : k < sn
      · have hlt' : (k : Int) < (sn : Int) := by omega
        obtain ⟨r1, r2⟩ := HQ.out k (by rw [← NS.out]; exact hlt)
        go_wp2_with fail
        refine (implDiskRead_any (fun _ => True) sa sn sc da dn dc d (k : Int) _ X6.out.dk HSM.out (HE.out.below HW.out.1 HE.out.lt) (HE2.out.below HW.out.1 HE2.out.lt)).mono ?_
        rintro e w6 ⟨ra, rn, rc, rfl, hO, hb⟩
        rw [r2]
        have HW6 : Hid (Below w.heap.size w w6 ∧ SX w6 b1 sa sn sc da dn dc d ∧ SX w6 b2 ea sn ec fa 0 fc (dsV d) ∧ SX w6 b5 ga gn gc ja jn jc (dsV d)) := ⟨bt7 HW.out.1 hb, HW.out.2.1.below hb, HW.out.2.2.1.below hb, HW.out.2.2.2.below hb⟩
        have R6 := hid hO
        clear hO hb HW X6 x0 x1
        have x0 := HW6.out.2.2.2.box.cell (j := 0) rfl
        have x1 := HW6.out.2.2.2.box.cell (j := 1) rfl
        go_wp2_with fail
        refine (implDiskRead_any (fun _ => True) ga gn gc ja jn jc (dsV d) (k : Int) _ HW6.out.2.2.2.dk HQ2.out (HE.out.below HW6.out.1 HE.out.lt) (HE2.out.below HW6.out.1 HE2.out.lt)).mono ?_
        rw [r1]
        rintro e w7 ⟨ta, tn, tc, rfl, hO, hb⟩
        rw [r2]
        have HW7 : Hid (Below w.heap.size w w7 ∧ SX w7 b1 sa sn sc da dn dc d ∧ SX w7 b2 ea sn ec fa 0 fc (dsV d) ∧ SX w7 b5 ga gn gc ja jn jc (dsV d)) := ⟨bt7 HW6.out.1 hb, HW6.out.2.1.below hb, HW6.out.2.2.1.below hb, HW6.out.2.2.2.below hb⟩
        have HL := hid (rd_len d (k : Int) HSM.out)
        have HBB := hid (rd_byt d (k : Int) HBY.out)
        have hR6 : Rd w7 ra rn rc ((rdV d (k : Int)).getD []) := by
          obtain ⟨a', c', e', hr, _⟩ := Ob.rd (ob_belS R6.out hb) HBB.out (by have := HL.out; omega)
          cases e'
          exact hr
        have hR7 : Rd w7 ta tn tc ((rdV d (k : Int)).getD []) := by
          obtain ⟨a', c', e', hr, _⟩ := Ob.rd hO HBB.out (by have := HL.out; omega)
          cases e'
          exact hr
        have hst6 := run_str hR6
        have hst7 := run_str hR7
        generalize strOf ((rdV d (k : Int)).getD []) = ss at *
        clear hO hb HW6 R6 x0 x1 hR6 hR7 r1 r2
        go_wp2
        go_roundw
        case rel => exact ⟨k + 1, by omega, by go_num, HW7.out⟩
        case measure => simp [intOf]; omega
      · obtain rfl : k = sn := by omega
        have e0 := HW.out.2.2.1.box.cell (j := 0) rfl
        have e1 := HW.out.2.2.1.box.cell (j := 1) rfl
        go_wp2
        go_ret
        exact ⟨rfl, HW.out.1⟩
end Go.Proofs.YtcpdedpgjaimkaaDoor
