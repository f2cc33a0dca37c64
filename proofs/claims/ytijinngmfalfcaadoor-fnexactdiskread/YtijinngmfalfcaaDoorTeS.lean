/-
  Tear of the specification.
-/
import Derived.Test.YtijinngmfalfcaaDoorZeros
import Derived.Test.YtijinngmfalfcaaDoorApG
import Derived.Test.YtijinngmfalfcaaDoorPlain
namespace Go.Proofs.YtijinngmfalfcaaDoor
open Go.RowKit
/-- A page of which the first n bytes came new. -/
def trB (old new : List Int) (n : Int) : List Int := new.take n.toNat ++ old.drop n.toNat
def sheet (zs : List Int) : List Int := if zs.length = 0 then List.replicate 512 0 else zs
def shOk (zs : List Int) : Bool := decide (zs.length = 0) || decide (zs.length = 512)
def tearV (old new : List Int) (n : Int) : Option (List Int) := if shOk old = true ∧ shOk new = true then some (trB (sheet old) (sheet new) n) else none
theorem sheet_len {zs : List Int} (h : shOk zs = true) : (sheet zs).length = 512 := by
  unfold sheet
  simp only [shOk, Bool.or_eq_true, decide_eq_true_eq] at h
  split
  · rw [List.length_replicate]
  · omega
theorem sheet_byte {zs : List Int} (h : ∀ z ∈ zs, 0 ≤ z ∧ z ≤ 255) : ∀ z ∈ sheet zs, 0 ≤ z ∧ z ≤ 255 := by
  unfold sheet
  split
  · intro z hz
    have := List.eq_of_mem_replicate hz
    omega
  · exact h
theorem ob_made (w : World) (k : Nat) (hk : k ≤ 8192) : Ob (w.alloc (.cells (madeCells #[.int .u8 0] k) 5)) w.heap.size (.slice (some ⟨w.heap.size, 0, none⟩) k k) (List.replicate k 0) := by
  have e : (madeCells #[.int .u8 0] k).toList = (List.replicate k (0 : Int)).map (Value.int .u8) := by
    apply List.ext_getElem
    · simp [madeCells]
    · intro i h1 h2
      simp [madeCells, Nat.mod_one]
  refine ⟨by simp, .inr ⟨w.heap.size, k, madeCells #[.int .u8 0] k, by simp, Nat.le_refl _, heap_alloc_new w _, by simp, by unfold maxLen; omega, by simp [madeCells], ?_⟩⟩
  rw [e]
  simp
theorem makeB (k : Nat) (h : k ≤ 8192) : ∀ w, (Instr.makeSlice 27 (.int .i64 (k : Int)) (.int .i64 (k : Int))).run Tryd.prog w = .ok (.slice (some ⟨w.heap.size, 0, none⟩) k k) (w.alloc (.cells (madeCells #[.int .u8 0] k) 5)) :=
  fun w => run_make_row' (P := Tryd.prog) 27 5 (.int .u8 0) 1 Tryd.underlying27 infoU8 rfl .i64 .i64 k (by omega) (by omega) w
theorem Ob.setB {w : World} {B g n c : Nat} {zs : List Int} (h : Ob w B (.slice (some ⟨g, 0, none⟩) n c) zs) (j : Nat) (z : Int) : Ob (w.setCell ⟨g, j, none⟩ (.int .u8 z)) B (.slice (some ⟨g, 0, none⟩) n c) (zs.set j z) := by
  obtain ⟨k1, k2⟩ := h
  rcases k2 with ⟨k2, _⟩ | ⟨g', cap, cur, e, k3, k4, k5, k6, k7, k8⟩
  · cases k2
  · have e2 : g' = g ∧ zs.length = n ∧ cap = c := by cases e; exact ⟨rfl, rfl, rfl⟩
    obtain ⟨rfl, hn, rfl⟩ := e2
    refine ⟨by simp, .inr ⟨g', cap, cur.setIfInBounds j (.int .u8 z), by rw [List.length_set, hn], k3, ?_, by rw [List.length_set]; exact k5, k6, by simpa using k7, ?_⟩⟩
    · simp [World.setCell, Array.getElem?_modify, k4]
    · rw [List.length_set, Array.toList_setIfInBounds, List.take_set, k8, List.map_set]
theorem Ob.keepT {w w' : World} {B : Nat} {v : Value} {zs : List Int} (h : Ob w B v zs) (hb : Below w.heap.size w w') : Ob w' B v zs := own_kept h (only_of_below hb (fun _ => False)) (fun _ _ h => h)
theorem Ob.at {w : World} {B : Nat} {a : Option Addr} {n c : Nat} {zs : List Int} (h : Ob w B (.slice a n c) zs) (hp : 0 < n) : ∃ g, a = some ⟨g, 0, none⟩ ∧ B ≤ g ∧ n = zs.length ∧ n ≤ c ∧ c ≤ 9223372036854775807 ∧ (∀ o, w.frozen? ⟨g, o, none⟩ = false) ∧ ∀ i, i < n → w.cell? ⟨g, i, none⟩ = some (.int .u8 (zs[i]?.getD 0)) := by
  have hc := fun g hg => World.ownsRow.cells h (g := g) hg
  rcases h.2 with ⟨e, e2⟩ | ⟨g, cap, cur, e, hB, hg, k5, k6, k7, k8⟩
  · cases e; omega
  · have e2 : a = some ⟨g, 0, none⟩ ∧ n = zs.length ∧ c = cap := by cases e; exact ⟨rfl, rfl, rfl⟩
    obtain ⟨rfl, rfl, rfl⟩ := e2
    refine ⟨g, rfl, hB, rfl, k5, by unfold maxLen at k6; omega, fun o => by simp [World.frozen?, hg], fun i hi => ?_⟩
    have := hc g rfl i (.int .u8 (zs[i]?.getD 0)) (by simp [hi])
    rwa [Addr.add_lit, Nat.zero_add] at this
def ShPost (zs : List Int) (w : World) (e : Ending) (w' : World) : Prop := ∃ a n c, e = .returned (.tuple #[.slice a n c, .bool (shOk zs)]) ∧ Ob w' w.heap.size (.slice a n c) (sheet zs) ∧ Below w.heap.size w w'
set_option maxHeartbeats 2000000 in
theorem sheet_any (a : Option Addr) (n c : Nat) (zs : List Int) (w : World) (h : Rd w a n c zs) (hl : n ≤ 1048576) : Calls Tryd.prog 16 #[.slice a n c] w fun e w' => ShPost zs w e w' := by
  have hzl : n = zs.length := h.1
  by_cases h0 : n = 0
  · subst h0
    have HS : Hid (shOk zs = true ∧ sheet zs = List.replicate 512 0) := ⟨by simp [shOk, ← hzl], by rw [sheet, if_pos hzl.symm]⟩
    have hmk : ∀ w, (Instr.makeSlice 27 (.int .i64 512) (.int .i64 512)).run Tryd.prog w = .ok (.slice (some ⟨w.heap.size, 0, none⟩) 512 512) (w.alloc (.cells (madeCells #[.int .u8 0] 512) 5)) := fun w => makeB 512 (by omega) w
    have HO := hid (ob_made w 512 (by omega))
    have HB := hid (below_new (o := .cells (madeCells #[.int .u8 0] 512) 5) (w := w) (Below.refl _ _))
    clear h hzl
    go_enter Tryd.func16, Tryd.ntmps16
    go_wp2
    go_ret2
    exact ⟨_, _, _, by rw [HS.out.1]; rfl, by rw [HS.out.2]; exact HO.out, HB.out⟩
  · have h0' : ((n : Int) == 0) = false := by simp; omega
    have h0'' : ¬ (n : Int) = 0 := by omega
    have HS : Hid (shOk zs = decide (n = 512) ∧ sheet zs = zs) := ⟨by simp [shOk, ← hzl, h0], by rw [sheet, if_neg (by omega)]⟩
    have HO := hid (ob_new w w.heap.size (Nat.le_refl _))
    have HB := hid (below_new (o := .cells #[] 5) (w := w) (Below.refl _ _))
    have HR := hid (h.kept HB.out)
    have HZ : Hid (w.heap.size ≤ (w.alloc (.cells #[] 5)).heap.size) := HB.out.size
    have hzb : ([] : List Int).length + zs.length ≤ 70368744177664 := by rw [← hzl]; simp; omega
    clear h hzl
    go_enter Tryd.func16, Tryd.ntmps16
    go_wp2_with (at_builtin; refine wpList_append_rd rfl _ _ rfl w.heap.size _ [] rfl HO.out a n c zs rfl HR.out hzb HZ.out ?_)
    intro v3 w3 hO3 hg3
    have O3 : Hid (Ob w3 w.heap.size v3 zs) := by show Ob _ _ _ _; simpa using hO3
    have B3 : Hid (Below w.heap.size w w3) := HB.out.trans ((only_of_grown hg3 (R := fun y => (Value.slice (some ⟨w.heap.size, 0, none⟩) 0 0).ownBlock = some y) (fun k e => e)).below HZ.out (fun b hb e => by have := (World.ownsRow.lt HO.out b e).1; omega))
    obtain ⟨a3, c3, rfl⟩ := hO3.shape
    clear hO3 hg3 HO HB HR
    by_cases h5 : n = 512
    · have h5' : ((n : Int) == 512) = true := by simp; omega
      have HT : Hid (shOk zs = true) := by show _ = true; rw [HS.out.1, decide_eq_true h5]
      subst h5
      go_wp2
      go_ret2
      exact ⟨_, _, _, by rw [HT.out]; rfl, by rw [HS.out.2]; exact O3.out, B3.out⟩
    · have h5' : ((n : Int) == 512) = false := by simp; omega
      have h5'' : ¬ (n : Int) = 512 := by omega
      have HT : Hid (shOk zs = false) := by show _ = false; rw [HS.out.1, decide_eq_false h5]
      go_wp2
      go_ret2
      exact ⟨_, _, _, by rw [HT.out]; rfl, by rw [HS.out.2]; exact O3.out, B3.out⟩
theorem tr_step {old new : List Int} (ho : old.length = 512) (hn : new.length = 512) {j : Nat} (hj : j < 512) : (trB old new (j : Int)).set j (new[j]?.getD 0) = trB old new ((j + 1 : Nat) : Int) := by
  unfold trB
  rw [Int.toNat_natCast, Int.toNat_natCast]
  have hl : (new.take j).length = j := by rw [List.length_take]; omega
  have hd : old.drop j = (old[j]?.getD 0) :: old.drop (j + 1) := by
    rw [List.drop_eq_getElem_cons (by omega)]; simp [show j < old.length by omega]
  have ht : new.take (j + 1) = new.take j ++ [new[j]?.getD 0] := by
    rw [List.take_succ_eq_append_getElem (by omega)]; simp [show j < new.length by omega]
  rw [List.set_append_right _ _ (by omega), hl, Nat.sub_self, hd, List.set_cons_zero, ht, List.append_assoc]
  rfl
theorem tr_len {old new : List Int} (ho : old.length = 512) (hn : new.length = 512) (n : Int) : (trB old new n).length = 512 := by
  rw [trB, List.length_append, List.length_take, List.length_drop]
  omega
theorem tr_full {old new : List Int} (ho : old.length = 512) (hn : new.length = 512) {n : Int} (h : 512 ≤ n) : trB old new n = trB old new ((512 : Nat) : Int) := by
  rw [trB, trB, List.take_of_length_le (by omega), List.drop_eq_nil_of_le (by omega), List.take_of_length_le (by omega), List.drop_eq_nil_of_le (by omega)]
theorem tr_stop {old new : List Int} {n : Int} {j : Nat} (h : n ≤ (j : Int)) (h2 : j = 0 ∨ (j : Int) ≤ n) : trB old new n = trB old new (j : Int) := by
  have e : n.toNat = j := by omega
  rw [trB, trB, e, Int.toNat_natCast]
def TePost (o : Option (List Int)) (w : World) (e : Ending) (w' : World) : Prop := Below w.heap.size w w' ∧ ((o = none ∧ e = .returned (.slice none 0 0)) ∨ ∃ v zs, o = some zs ∧ e = .returned v ∧ Ob w' w.heap.size v zs)
end Go.Proofs.YtijinngmfalfcaaDoor

