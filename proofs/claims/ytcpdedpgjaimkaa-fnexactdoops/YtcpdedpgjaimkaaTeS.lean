/-
  Tear of the specification.
-/
import Derived.Test.YtcpdedpgjaimkaaZeros
import Derived.Test.YtcpdedpgjaimkaaApG
import Derived.Test.YtcpdedpgjaimkaaPlain
namespace Go.Proofs.Ytcpdedpgjaimkaa
open Go.RowKit
/-- A page of which the first n bytes came new. -/
def trB (old new : List Int) (n : Int) : List Int := new.take n.toNat ++ old.drop n.toNat
def sheet (zs : List Int) : List Int := if zs.length = 0 then List.replicate 512 0 else zs
def shOk (zs : List Int) : Bool := decide (zs.length = 0) || decide (zs.length = 512)
def tearV (old new : List Int) (n : Int) : Option (List Int) := if shOk old = true ∧ shOk new = true then some (trB (sheet old) (sheet new) n) else none
theorem sheet_len {zs : List Int} (h : shOk zs = true) : (sheet zs).length = 512 := by
  unfold sheet
  simp only [shOk, Bool.or_eq_true, decide_eq_true_eq] at h
  split
  · rw [List.length_replicate]
  · omega
theorem sheet_byte {zs : List Int} (h : ∀ z ∈ zs, 0 ≤ z ∧ z ≤ 255) : ∀ z ∈ sheet zs, 0 ≤ z ∧ z ≤ 255 := by
  unfold sheet
  split
  · intro z hz
    have := List.eq_of_mem_replicate hz
    omega
  · exact h
theorem ob_made (w : World) (k : Nat) (hk : k ≤ 8192) : Ob (w.alloc (.cells (madeCells #[.int .u8 0] k) 5)) w.heap.size (.slice (some ⟨w.heap.size, 0, none⟩) k k) (List.replicate k 0) := by
  have e : (madeCells #[.int .u8 0] k).toList = (List.replicate k (0 : Int)).map (Value.int .u8) := by
    apply List.ext_getElem
    · simp [madeCells]
    · intro i h1 h2
      simp [madeCells, Nat.mod_one]
  refine ⟨by simp, .inr ⟨w.heap.size, k, madeCells #[.int .u8 0] k, by simp, Nat.le_refl _, heap_alloc_new w _, by simp, by unfold maxLen; omega, by simp [madeCells], ?_⟩⟩
  rw [e]
  simp
theorem makeB (k : Nat) (h : k ≤ 8192) : ∀ w, (Instr.makeSlice 22 (.int .i64 (k : Int)) (.int .i64 (k : Int))).run Try.prog w = .ok (.slice (some ⟨w.heap.size, 0, none⟩) k k) (w.alloc (.cells (madeCells #[.int .u8 0] k) 5)) :=
  fun w => run_make_row' (P := Try.prog) 22 5 (.int .u8 0) 1 Try.underlying22 infoU8 rfl .i64 .i64 k (by omega) (by omega) w
theorem Ob.setB {w : World} {B g n c : Nat} {zs : List Int} (h : Ob w B (.slice (some ⟨g, 0, none⟩) n c) zs) (j : Nat) (z : Int) : Ob (w.setCell ⟨g, j, none⟩ (.int .u8 z)) B (.slice (some ⟨g, 0, none⟩) n c) (zs.set j z) := by
  obtain ⟨k1, k2⟩ := h
  rcases k2 with ⟨k2, _⟩ | ⟨g', cap, cur, e, k3, k4, k5, k6, k7, k8⟩
  · cases k2
  · have e2 : g' = g ∧ zs.length = n ∧ cap = c := by cases e; exact ⟨rfl, rfl, rfl⟩
    obtain ⟨rfl, hn, rfl⟩ := e2
    refine ⟨by simp, .inr ⟨g', cap, cur.setIfInBounds j (.int .u8 z), by rw [List.length_set, hn], k3, ?_, by rw [List.length_set]; exact k5, k6, by simpa using k7, ?_⟩⟩
    · simp [World.setCell, Array.getElem?_modify, k4]
    · rw [List.length_set, Array.toList_setIfInBounds, List.take_set, k8, List.map_set]
theorem Ob.keepT {w w' : World} {B : Nat} {v : Value} {zs : List Int} (h : Ob w B v zs) (hb : Below w.heap.size w w') : Ob w' B v zs := own_kept h (only_of_below hb (fun _ => False)) (fun _ _ h => h)
theorem Ob.at {w : World} {B : Nat} {a : Option Addr} {n c : Nat} {zs : List Int} (h : Ob w B (.slice a n c) zs) (hp : 0 < n) : ∃ g, a = some ⟨g, 0, none⟩ ∧ B ≤ g ∧ n = zs.length ∧ n ≤ c ∧ c ≤ 9223372036854775807 ∧ (∀ o, w.frozen? ⟨g, o, none⟩ = false) ∧ ∀ i, i < n → w.cell? ⟨g, i, none⟩ = some (.int .u8 (zs[i]?.getD 0)) := by
  have hc := fun g hg => World.ownsRow.cells h (g := g) hg
  rcases h.2 with ⟨e, e2⟩ | ⟨g, cap, cur, e, hB, hg, k5, k6, k7, k8⟩
  · cases e; omega
  · have e2 : a = some ⟨g, 0, none⟩ ∧ n = zs.length ∧ c = cap := by cases e; exact ⟨rfl, rfl, rfl⟩
    obtain ⟨rfl, rfl, rfl⟩ := e2
    refine ⟨g, rfl, hB, rfl, k5, by unfold maxLen at k6; omega, fun o => by simp [World.frozen?, hg], fun i hi => ?_⟩
    have := hc g rfl i (.int .u8 (zs[i]?.getD 0)) (by simp [hi])
    rwa [Addr.add_lit, Nat.zero_add] at this
def ShPost (zs : List Int) (w : World) (e : Ending) (w' : World) : Prop := ∃ a n c, e = .returned (.tuple #[.slice a n c, .bool (shOk zs)]) ∧ Ob w' w.heap.size (.slice a n c) (sheet zs) ∧ Below w.heap.size w w'
set_option maxHeartbeats 2000000 in
theorem sheet_any (a : Option Addr) (n c : Nat) (zs : List Int) (w : World) (h : Rd w a n c zs) (hl : n ≤ 1048576) : Calls Try.prog 179 #[.slice a n c] w fun e w' => ShPost zs w e w' := by
  have hzl : n = zs.length := h.1
  by_cases h0 : n = 0
  · subst h0
    have HS : Hid (shOk zs = true ∧ sheet zs = List.replicate 512 0) := ⟨by simp [shOk, ← hzl], by rw [sheet, if_pos hzl.symm]⟩
    have hmk : ∀ w, (Instr.makeSlice 22 (.int .i64 512) (.int .i64 512)).run Try.prog w = .ok (.slice (some ⟨w.heap.size, 0, none⟩) 512 512) (w.alloc (.cells (madeCells #[.int .u8 0] 512) 5)) := fun w => makeB 512 (by omega) w
    have HO := hid (ob_made w 512 (by omega))
    have HB := hid (below_new (o := .cells (madeCells #[.int .u8 0] 512) 5) (w := w) (Below.refl _ _))
    clear h hzl
    go_enter Try.func179, Try.ntmps179
    go_wp2
    go_ret2
    exact ⟨_, _, _, by rw [HS.out.1]; rfl, by rw [HS.out.2]; exact HO.out, HB.out⟩
  · have h0' : ((n : Int) == 0) = false := by simp; omega
    have h0'' : ¬ (n : Int) = 0 := by omega
    have HS : Hid (shOk zs = decide (n = 512) ∧ sheet zs = zs) := ⟨by simp [shOk, ← hzl, h0], by rw [sheet, if_neg (by omega)]⟩
    have HO := hid (ob_new w w.heap.size (Nat.le_refl _))
    have HB := hid (below_new (o := .cells #[] 5) (w := w) (Below.refl _ _))
    have HR := hid (h.kept HB.out)
    have HZ : Hid (w.heap.size ≤ (w.alloc (.cells #[] 5)).heap.size) := HB.out.size
    have hzb : ([] : List Int).length + zs.length ≤ 70368744177664 := by rw [← hzl]; simp; omega
    clear h hzl
    go_enter Try.func179, Try.ntmps179
    go_wp2_with (at_builtin; refine wpList_append_rd rfl _ _ rfl w.heap.size _ [] rfl HO.out a n c zs rfl HR.out hzb HZ.out ?_)
    intro v3 w3 hO3 hg3
    have O3 : Hid (Ob w3 w.heap.size v3 zs) := by show Ob _ _ _ _; simpa using hO3
    have B3 : Hid (Below w.heap.size w w3) := HB.out.trans ((only_of_grown hg3 (R := fun y => (Value.slice (some ⟨w.heap.size, 0, none⟩) 0 0).ownBlock = some y) (fun k e => e)).below HZ.out (fun b hb e => by have := (World.ownsRow.lt HO.out b e).1; omega))
    obtain ⟨a3, c3, rfl⟩ := hO3.shape
    clear hO3 hg3 HO HB HR
    by_cases h5 : n = 512
    · have h5' : ((n : Int) == 512) = true := by simp; omega
      have HT : Hid (shOk zs = true) := by show _ = true; rw [HS.out.1, decide_eq_true h5]
      subst h5
      go_wp2
      go_ret2
      exact ⟨_, _, _, by rw [HT.out]; rfl, by rw [HS.out.2]; exact O3.out, B3.out⟩
    · have h5' : ((n : Int) == 512) = false := by simp; omega
      have h5'' : ¬ (n : Int) = 512 := by omega
      have HT : Hid (shOk zs = false) := by show _ = false; rw [HS.out.1, decide_eq_false h5]
      go_wp2
      go_ret2
      exact ⟨_, _, _, by rw [HT.out]; rfl, by rw [HS.out.2]; exact O3.out, B3.out⟩
theorem tr_step {old new : List Int} (ho : old.length = 512) (hn : new.length = 512) {j : Nat} (hj : j < 512) : (trB old new (j : Int)).set j (new[j]?.getD 0) = trB old new ((j + 1 : Nat) : Int) := by
  unfold trB
  rw [Int.toNat_natCast, Int.toNat_natCast]
  have hl : (new.take j).length = j := by rw [List.length_take]; omega
  have hd : old.drop j = (old[j]?.getD 0) :: old.drop (j + 1) := by
    rw [List.drop_eq_getElem_cons (by omega)]; simp [show j < old.length by omega]
  have ht : new.take (j + 1) = new.take j ++ [new[j]?.getD 0] := by
    rw [List.take_succ_eq_append_getElem (by omega)]; simp [show j < new.length by omega]
  rw [List.set_append_right _ _ (by omega), hl, Nat.sub_self, hd, List.set_cons_zero, ht, List.append_assoc]
  rfl
theorem tr_len {old new : List Int} (ho : old.length = 512) (hn : new.length = 512) (n : Int) : (trB old new n).length = 512 := by
  rw [trB, List.length_append, List.length_take, List.length_drop]
  omega
theorem tr_full {old new : List Int} (ho : old.length = 512) (hn : new.length = 512) {n : Int} (h : 512 ≤ n) : trB old new n = trB old new ((512 : Nat) : Int) := by
  rw [trB, trB, List.take_of_length_le (by omega), List.drop_eq_nil_of_le (by omega), List.take_of_length_le (by omega), List.drop_eq_nil_of_le (by omega)]
theorem tr_stop {old new : List Int} {n : Int} {j : Nat} (h : n ≤ (j : Int)) (h2 : j = 0 ∨ (j : Int) ≤ n) : trB old new n = trB old new (j : Int) := by
  have e : n.toNat = j := by omega
  rw [trB, trB, e, Int.toNat_natCast]
def TePost (o : Option (List Int)) (w : World) (e : Ending) (w' : World) : Prop := Below w.heap.size w w' ∧ ((o = none ∧ e = .returned (.slice none 0 0)) ∨ ∃ v zs, o = some zs ∧ e = .returned v ∧ Ob w' w.heap.size v zs)
set_option maxHeartbeats 2000000 in
theorem specTear_any (a : Option Addr) (n c : Nat) (xs : List Int) (b : Option Addr) (m d : Nat) (ys : List Int) (t : Int) (w : World) (hx : Rd w a n c xs) (hy : Rd w b m d ys) (hn : n ≤ 1048576) (hm : m ≤ 1048576) :
    Calls Try.prog 160 #[.slice a n c, .slice b m d, .int .i64 t] w fun e w' => TePost (tearV xs ys t) w e w' := by
  have HY := hid hy
  have HX := hid hx
  have HT : Hid (tearV xs ys t = if shOk xs = true ∧ shOk ys = true then some (trB (sheet xs) (sheet ys) t) else none) := rfl
  clear hx hy
  go_enter Try.func160, Try.ntmps160
  go_wp2_with fail
  refine (sheet_any a n c xs _ HX.out hn).mono ?_
  rintro e w1 ⟨a1, n1, c1, rfl, hO1, hb1⟩
  have HY1 := hid (HY.out.kept hb1)
  have O1 := hid hO1
  have B1 := hid hb1
  clear hO1 hb1
  go_wp2_with fail
  refine (sheet_any b m d ys _ HY1.out hm).mono ?_
  rintro e w2 ⟨a2, n2, c2, rfl, hO2, hb2⟩
  have O1' := hid (O1.out.keepT hb2)
  have O2 := hid hO2
  have B2 : Hid (Below w.heap.size w w2) := B1.out.trans (hb2.mono B1.out.size)
  have HSEP : Hid (∀ y, (Value.slice a1 n1 c1).ownBlock = some y → y < w1.heap.size) := fun y e => (World.ownsRow.lt O1.out y e).2
  clear hO2 hb2 O1 B1 HY1
  cases h1 : shOk xs with
  | false =>
    have HN : Hid (tearV xs ys t = none) := by show _ = _; rw [HT.out, if_neg (by rw [h1]; simp)]
    go_wp2
    go_ret
    exact ⟨B2.out, .inl ⟨HN.out, rfl⟩⟩
  | true =>
    cases h2 : shOk ys with
    | false =>
      have HN : Hid (tearV xs ys t = none) := by show _ = _; rw [HT.out, if_neg (by rw [h2]; simp)]
      go_wp2
      go_ret
      exact ⟨B2.out, .inl ⟨HN.out, rfl⟩⟩
    | true =>
      have HN : Hid (tearV xs ys t = some (trB (sheet xs) (sheet ys) t)) := by show _ = _; rw [HT.out, if_pos ⟨h1, h2⟩]
      have HL1 := hid (sheet_len h1)
      have HL2 := hid (sheet_len h2)
      clear HT h1 h2
      generalize sheet xs = xs' at *
      generalize sheet ys = ys' at *
      obtain ⟨n1e, n2e⟩ : n1 = 512 ∧ n2 = 512 := by
        obtain ⟨_, _, e1⟩ := O1'.out.shape
        obtain ⟨_, _, e2⟩ := O2.out.shape
        cases e1; cases e2
        exact ⟨HL1.out, HL2.out⟩
      subst n1e n2e
      obtain ⟨g1, e1, hB1, -, hc1, hc1', -, -⟩ := O1'.out.at (by omega)
      obtain ⟨g2, e2, hB2, -, hc2, hc2', -, -⟩ := O2.out.at (by omega)
      subst e1 e2
      have HNE : Hid (g1 ≠ g2) := by have := HSEP.out g1 rfl; show _ ≠ _; omega
      have O0 : Hid (Ob w2 w.heap.size (.slice (some ⟨g1, 0, none⟩) 512 c1) (trB xs' ys' ((0 : Nat) : Int))) := by show Ob _ _ _ _; simpa [trB] using O1'.out
      have HG1 := hid hB1
      have O2' : Hid (Ob w2 0 (.slice (some ⟨g2, 0, none⟩) 512 c2) ys') := by
        refine ⟨O2.out.1, O2.out.2.imp id ?_⟩
        rintro ⟨g, cap, cur, k1, k2, k3⟩
        exact ⟨g, cap, cur, k1, Nat.zero_le _, k3⟩
      clear O1' O2 HSEP hB1 hB2
      go_wp2_with fail
      go_loopw [11] (fun i wr => ∃ (j : Nat), j ≤ 512 ∧ i = .int .i64 j ∧ (j = 0 ∨ (j : Int) ≤ t) ∧ Hid (Ob wr w.heap.size (.slice (some ⟨g1, 0, none⟩) 512 c1) (trB xs' ys' (j : Int))) ∧ Hid (Ob wr 0 (.slice (some ⟨g2, 0, none⟩) 512 c2) ys') ∧ Hid (Below w.heap.size w wr)) (fun i _ => 512 - (intOf i).toNat)
      case atStart => exact ⟨0, by omega, rfl, .inl rfl, O0.out, O2'.out, B2.out⟩
      case round =>
        obtain ⟨j, hj, rfl, hjt, P1, P2, B3⟩ := hrel
        clear O0 O2' B2
        by_cases q1 : (j : Int) < 512
        · by_cases q2 : (j : Int) < t
          · obtain ⟨g, e, -, hl, -, -, hf, hcell⟩ := P1.out.at (by omega)
            cases e
            obtain ⟨g, e, -, hl2, -, -, -, hcell2⟩ := P2.out.at (by omega)
            cases e
            have m1 := hcell j (by omega)
            have m2 := hcell2 j (by omega)
            have f1 := hf j
            have HST := hid (tr_step HL1.out HL2.out (show j < 512 by omega))
            have P1' : Hid (Ob (wr.setCell ⟨g1, j, none⟩ (.int .u8 (ys'[j]?.getD 0))) w.heap.size (.slice (some ⟨g1, 0, none⟩) 512 c1) (trB xs' ys' ((j + 1 : Nat) : Int))) := by
              show Ob _ _ _ _
              rw [← HST.out]
              exact P1.out.setB j _
            have P2' : Hid (Ob (wr.setCell ⟨g1, j, none⟩ (.int .u8 (ys'[j]?.getD 0))) 0 (.slice (some ⟨g2, 0, none⟩) 512 c2) ys') := own_kept P2.out (only_set (R := fun y => y = g1) rfl _) (fun k e e2 => by cases e; exact HNE.out e2.symm)
            have B3' : Hid (Below w.heap.size w (wr.setCell ⟨g1, j, none⟩ (.int .u8 (ys'[j]?.getD 0)))) := B3.out.setCell (p := ⟨g1, j, none⟩) HG1.out _
            clear hcell hcell2 hf P1 P2 B3 HST hl hl2
            generalize ys'[j]?.getD 0 = z at *
            generalize (trB xs' ys' (j : Int))[j]?.getD 0 = z2 at *
            go_wp2
            go_roundw
            case rel => exact ⟨j + 1, by omega, by go_num, .inr (by omega), P1'.out, P2'.out, B3'.out⟩
            case measure => simp [intOf]; omega
          · have HE : Hid (trB xs' ys' t = trB xs' ys' (j : Int)) := tr_stop (by omega) hjt
            clear hjt
            go_wp2
            go_ret
            exact ⟨B3.out, .inr ⟨_, _, by rw [HN.out, HE.out], rfl, P1.out⟩⟩
        · obtain rfl : j = 512 := by omega
          have HE : Hid (trB xs' ys' t = trB xs' ys' ((512 : Nat) : Int)) := tr_full HL1.out HL2.out (by omega)
          go_wp2
          go_ret
          exact ⟨B3.out, .inr ⟨_, _, by rw [HN.out, HE.out], rfl, P1.out⟩⟩
end Go.Proofs.Ytcpdedpgjaimkaa

