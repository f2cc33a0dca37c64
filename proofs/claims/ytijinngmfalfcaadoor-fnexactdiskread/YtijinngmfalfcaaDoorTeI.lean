/-
  Tear of the program.
-/
import Derived.Test.YtijinngmfalfcaaDoorTeS
import Derived.Test.YtijinngmfalfcaaDoorFill
import Derived.Test.YtijinngmfalfcaaDoorDoor
import Derived.Laws.CopyOwn
namespace Go.Proofs.YtijinngmfalfcaaDoor
open Go.RowKit
theorem shOk_iff (zs : List Int) : shOk zs = true ↔ zs.length = 0 ∨ zs.length = 512 := by simp only [shOk, Bool.or_eq_true, decide_eq_true_eq]
def shV (zs : List Int) : Option (List Int) := if shOk zs = true then some (sheet zs) else none
set_option maxHeartbeats 1000000 in
theorem sheetOk_any (a : Option Addr) (n c : Nat) (zs : List Int) (w : World) (h : n = zs.length) (hn : n ≤ 9223372036854775807) :
    Calls Tryd.prog 32 #[.slice a n c] w fun e w' => e = .returned (.bool (shOk zs)) ∧ w' = w := by
  by_cases h0 : n = 0
  · have HV : Hid (shOk zs = true) := (shOk_iff zs).2 (by omega)
    subst h0
    clear h
    go_enter Tryd.func32, Tryd.ntmps32
    go_wp2
    go_ret
    exact ⟨by rw [HV.out]; rfl, rfl⟩
  · have h0' : ((n : Int) == 0) = false := by simp; omega
    have h0'' : ¬ (n : Int) = 0 := by omega
    by_cases h5 : n = 512
    · have HV : Hid (shOk zs = true) := (shOk_iff zs).2 (by omega)
      subst h5
      clear h
      go_enter Tryd.func32, Tryd.ntmps32
      go_wp2
      go_ret
      exact ⟨by rw [HV.out]; rfl, rfl⟩
    · have h5' : ((n : Int) == 512) = false := by simp; omega
      have h5'' : ¬ (n : Int) = 512 := by omega
      have HV : Hid (shOk zs = false) := by
        show _ = false
        rw [Bool.eq_false_iff]
        intro e
        have := (shOk_iff zs).1 e
        omega
      clear h
      go_enter Tryd.func32, Tryd.ntmps32
      go_wp2
      go_ret
      exact ⟨by rw [HV.out]; rfl, rfl⟩
set_option maxHeartbeats 2000000 in
theorem sheetBytes_any (a : Option Addr) (n c : Nat) (zs : List Int) (w : World) (h : Rd w a n c zs) (he : Err w 1) (he2 : Err w 0) :
    Calls Tryd.prog 22 #[.slice a n c] w fun e w' => Put w (shV zs) e w' := by
  have hzl : n = zs.length := h.1
  have HC := hid (sheetOk_any a n c zs w hzl (by have := h.2.1; have := h.2.2.1; omega))
  by_cases hok : n = 0 ∨ n = 512
  · have HV : Hid (fl zs 512 = shV zs) := by
      show _ = _
      rw [shV, if_pos ((shOk_iff zs).2 (by omega)), sheet, fl, if_pos (by omega)]
      rcases hok with e | e
      · rw [if_pos (by omega), List.eq_nil_of_length_eq_zero (by omega : zs.length = 0)]
        rfl
      · rw [if_neg (by omega), ← hzl, e]
        simp
    have HT : Hid (shOk zs = true) := (shOk_iff zs).2 (by omega)
    have HR := hid h
    have HE := hid he
    have HE2 := hid he2
    have hn5 : n ≤ 1099511627776 := by omega
    clear h he he2 hok hzl
    go_enter Tryd.func22, Tryd.ntmps22
    go_wp2_with fail
    refine HC.out.mono ?_
    rintro e w0 ⟨rfl, rfl⟩
    rw [HT.out]
    go_wp2_with fail
    refine (implFill_any a _ c zs 512 _ HR.out (by omega) HE.out HE2.out HE.out.lt HE2.out.lt).mono ?_
    intro e w1 hput
    rw [HV.out] at hput
    have HP := hid hput
    rcases hput.2 with ⟨_, rfl⟩ | ⟨v, out, _, rfl, ho⟩
    · clear hput
      go_wp2
      go_ret2
      exact HP.out
    · obtain ⟨a', c', rfl⟩ := ho.shape
      clear hput ho
      go_wp2
      go_ret2
      exact HP.out
  · have HN : Hid (shV zs = none) := by
      show _ = _
      rw [shV, if_neg]
      rw [shOk_iff]
      omega
    have HT : Hid (shOk zs = false) := by
      show _ = false
      rw [Bool.eq_false_iff]
      intro e
      have := (shOk_iff zs).1 e
      omega
    clear h he he2 hok hzl
    go_enter Tryd.func22, Tryd.ntmps22
    go_wp2_with fail
    refine HC.out.mono ?_
    rintro e w0 ⟨rfl, rfl⟩
    rw [HT.out]
    go_wp2
    go_ret2
    exact ⟨Below.refl _ _, .inl ⟨HN.out, rfl⟩⟩
theorem Ob.row {w : World} {B g n c : Nat} {xs : List Int} (h : Ob w B (.slice (some ⟨g, 0, none⟩) n c) xs) : ∃ cur : List Value, w.heap[g]? = some (.cells cur.toArray 5 (0, 0)) ∧ B ≤ g ∧ n = xs.length ∧ xs.length ≤ cur.length ∧
    ∀ (ys : List Int) (w' : World), ys.length ≤ xs.length → w'.heap[g]? = some (.cells (splice cur 0 (ys.map (Value.int .u8))).toArray 5 (0, 0)) → Ob w' B (.slice (some ⟨g, 0, none⟩) n c) (ys ++ xs.drop ys.length) := by
  obtain ⟨k1, k2⟩ := h
  rcases k2 with ⟨k2, _⟩ | ⟨g', cap, cur, e, k3, k4, k5, k6, k7, k8⟩
  · cases k2
  · have e2 : g' = g ∧ n = xs.length ∧ c = cap := by cases e; exact ⟨rfl, rfl, rfl⟩
    obtain ⟨rfl, rfl, rfl⟩ := e2
    rw [Nat.mul_one] at k7 k8
    have hcl : cur.toList.length = c := by simpa using k7
    refine ⟨cur.toList, by simpa using k4, k3, rfl, by omega, fun ys w' hl hg => ?_⟩
    have hlen : (ys ++ xs.drop ys.length).length = xs.length := by simp; omega
    refine ⟨by rw [List.length_map, Nat.mul_one], .inr ⟨g', c, (splice cur.toList 0 (ys.map (Value.int .u8))).toArray, by rw [hlen], k3, hg, by rw [hlen]; exact k5, k6, ?_, ?_⟩⟩
    · rw [Nat.mul_one, List.size_toArray, length_splice _ _ _ (by simp; omega)]
      exact hcl
    · rw [Nat.mul_one, hlen, splice]
      have e3 : (cur.toList.drop ys.length).take (xs.length - ys.length) = (xs.drop ys.length).map (Value.int .u8) := by
        rw [List.map_drop, ← k8, List.drop_take]
      simp only [List.take_zero, List.nil_append, Nat.zero_add, List.length_map, List.map_append]
      rw [List.take_append, List.length_map, List.take_of_length_le (by simp; omega), e3]
theorem sizeU8 : (Tryd.prog.info? 5).map (·.size) = some 1 := by kernel_rfl
end Go.Proofs.YtijinngmfalfcaaDoor

