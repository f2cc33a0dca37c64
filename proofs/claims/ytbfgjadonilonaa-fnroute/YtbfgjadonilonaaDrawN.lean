/-
  The decimal texts of the draws: some strings that are not long.
-/
import Derived.Test.YtbfgjadonilonaaDraw
import Derived.Test.YtbfgjadonilonaaStr
import Derived.Test.YtbfgjadonilonaaKV
import Derived.Test.YtbfgjadonilonaaRng3
import Derived.Deep.RegionHeld3
namespace Go.Proofs.Ytbfgjadonilonaa
open Go.RowKit
theorem below_allocN (w : World) (o : Obj) : Below w.heap.size w (w.alloc o) := (Below.refl _ _).alloc (Nat.le_refl _) o
theorem grown_of_below {w w' : World} (h : Below w.heap.size w w') (row : Option Nat) : w.grownBy w' row := ⟨h.os, h.tape, h.output, h.size, fun k hk _ => h.block k hk⟩
theorem Cu.below {w w' : World} {g : Nat} (h : Cu w g) (hb : Below w.heap.size w w') : Cu w' g := h.kept (grown_of_below hb none) (fun k e => by cases e)
theorem strOf_size (o : List Int) : (strOf o).size = o.length := by
  show (strOf o).data.size = o.length
  simp [strOf]
theorem rd_lit (w : World) (z : Int) (h0 : 0 ≤ z) (h1 : z ≤ 255) : Rd (w.alloc (.cells #[.int .u8 z] 5)) (some ⟨w.heap.size, 0, none⟩) 1 1 [z] := by
  have := rd_new w [z] (by simp) (fun i => by cases i <;> simp <;> omega)
  simpa [byteVals] using this
theorem thn2 {u v v' : World} (h : Below u.heap.size u v) (k : Below v.heap.size v v') : Below u.heap.size u v' := h.trans (k.mono h.size)
theorem specNum_any (m : Int) (w : World) (h0 : 0 ≤ m) (h1 : m ≤ 100000) : Calls Try.prog 54 #[.int .i64 m] w fun e w' => e = .returned (.bool true) ∧ w = w' := by
  go_enter Try.func54, Try.ntmps54
  go_wp2
  go_ret
  exact ⟨by rw [show decide (m ≤ 1099511627775) = true from decide_eq_true (by omega)]; rfl, rfl⟩
set_option maxHeartbeats 2000000 in
theorem numText1 (m : Int) (w : World) (h0 : 0 ≤ m) (h1 : m < 10) : Calls Try.prog 52 #[.int .i64 m] w fun e w' => (∃ s : ByteArray, e = .returned (.string s) ∧ s.size ≤ 2) ∧ Below w.heap.size w w' := by
  have hst := run_str (rd_lit w (48 + m) (by omega) (by omega))
  have hss := strOf_size [48 + m]
  generalize strOf [48 + m] = s at hst hss
  go_enter Try.func52, Try.ntmps52
  go_wp2_with fail
  refine (specNum_any m _ h0 (by omega)).mono ?_
  rintro e w1 ⟨rfl, rfl⟩
  go_wp2
  go_ret
  exact ⟨⟨_, rfl, by simp at hss; omega⟩, below_new (Below.refl _ _)⟩
set_option maxHeartbeats 2000000 in
set_option maxRecDepth 100000 in
theorem numStep (m : Int) (w : World) (c : Nat) (hc : c ≤ 100) (h0' : 10 ≤ m) (h1 : m < 100000) (HQ0 : Hid (∀ w, Calls Try.prog 52 #[.int .i64 (m.tdiv 10)] w fun e w' => (∃ s : ByteArray, e = .returned (.string s) ∧ s.size ≤ c) ∧ Below w.heap.size w w')) : Calls Try.prog 52 #[.int .i64 m] w fun e w' => (∃ s : ByteArray, e = .returned (.string s) ∧ s.size ≤ c + 1) ∧ Below w.heap.size w w' := by
  have h0 : 0 ≤ m := by omega
  have h2 : ¬ m < 10 := by omega
  go_enter Try.func52, Try.ntmps52
  go_wp2_with fail
  refine (specNum_any m _ h0 (by omega)).mono ?_
  rintro e w1 ⟨rfl, rfl⟩
  obtain ⟨q, hq, hq0, hq1⟩ : ∃ q : Int, m.tdiv 10 = q ∧ 0 ≤ q ∧ q < 10000 := ⟨_, rfl, Int.tdiv_nonneg h0 (by omega), by have := Int.tdiv_eq_ediv_of_nonneg (b := 10) h0; omega⟩
  obtain ⟨z, hz, hz0, hz1⟩ : ∃ z : Int, m.tmod 10 = z ∧ 0 ≤ z ∧ z < 10 := ⟨_, rfl, Int.tmod_nonneg _ h0, by have := Int.tmod_eq_emod_of_nonneg (b := 10) h0; omega⟩
  have hwq : IntKind.i64.wrap q = q := by simp [IntKind.wrap, IntKind.signed, IntKind.bits]; omega
  have hwz : IntKind.i64.wrap (48 + z) = 48 + z := by simp [IntKind.wrap, IntKind.signed, IntKind.bits]; omega
  have hw8 : IntKind.u8.wrap (48 + z) = 48 + z := by simp [IntKind.wrap, IntKind.signed, IntKind.bits]; omega
  have hts : (strOf [48 + z]).size = 1 := strOf_size [48 + z]
  have hst : ∀ W : World, (convert 43 9 (.slice (some ⟨W.heap.size, 0, none⟩) 1 1)).run Try.prog (W.alloc (.cells #[.int .u8 (48 + z)] 5)) = .ok (.string (strOf [48 + z])) (W.alloc (.cells #[.int .u8 (48 + z)] 5)) := fun W => run_str (rd_lit W (48 + z) (by omega) (by omega))
  have HK : Hid (∀ W W' : World, Below (W.alloc (.cells #[.int .u8 (48 + z)] 5)).heap.size (W.alloc (.cells #[.int .u8 (48 + z)] 5)) W' → (convert 43 9 (.slice (some ⟨W.heap.size, 0, none⟩) 1 1)).run Try.prog W' = .ok (.string (strOf [48 + z])) W') := fun W W' hb => run_str ((rd_lit W (48 + z) (by omega) (by omega)).kept hb)
  have hst3 : (convert 43 9 (.slice (some ⟨w.heap.size, 0, none⟩) 1 1)).run Try.prog (w.alloc (.cells #[.int .u8 (48 + z)] 5)).drew = .ok (.string (strOf [48 + z])) (w.alloc (.cells #[.int .u8 (48 + z)] 5)).drew := hst w.drew
  have HQ : Hid (∀ w, Calls Try.prog 52 #[.int .i64 q] w fun e w' => (∃ s : ByteArray, e = .returned (.string s) ∧ s.size ≤ c) ∧ Below w.heap.size w w') := hq ▸ HQ0.out
  clear HQ0
  generalize strOf [48 + z] = t at *
  go_wp2_with fail
  refine wp_region_noPanic ?_
  refine wp_region_held_drew (S := fun v => Below w.heap.size w v) (by kernel_rfl) ?_ (fun hHeld => ?_)
  · exact below_drew _
  simp only [List.size_toArray, List.length_cons, List.length_nil, Array.replicate_succ, Array.replicate_zero, Nat.reduceAdd, List.push_toArray, List.nil_append, List.cons_append]
  refine wpAnyH_take (i := 0) (v := .int .i64 m) rfl (by kernel_rfl) (by kernel_rfl) (by kernel_rfl) (fun _ _ _ h => h) (Or.inl ⟨by rfl, ?_⟩) (by assumption) ?_
  · intro w hSw
    go_simp
  try simp only [List.getElem_toArray]
  try simp only [List.getElem_cons_succ]
  try simp only [List.getElem_cons_zero]
  try simp only [Act.put]
  try simp only [List.setIfInBounds_toArray]
  try simp only [List.set_cons_succ]
  try simp only [List.set_cons_zero]
  refine wpAnyH_take (i := 1) (v := .int .i64 q) rfl (by kernel_rfl) (by kernel_rfl) (by kernel_rfl) (fun _ _ _ h => h) (Or.inl ⟨by rfl, ?_⟩) (by assumption) ?_
  · intro w hSw
    go_simp
  try simp only [List.getElem_toArray]
  try simp only [List.getElem_cons_succ]
  try simp only [List.getElem_cons_zero]
  try simp only [Act.put]
  try simp only [List.setIfInBounds_toArray]
  try simp only [List.set_cons_succ]
  try simp only [List.set_cons_zero]
  refine wpAnyH_take (i := 3) (v := .int .i64 m) rfl (by kernel_rfl) (by kernel_rfl) (by kernel_rfl) (fun _ _ _ h => h) (Or.inl ⟨by rfl, ?_⟩) (by assumption) ?_
  · intro w hSw
    go_simp
  try simp only [List.getElem_toArray]
  try simp only [List.getElem_cons_succ]
  try simp only [List.getElem_cons_zero]
  try simp only [Act.put]
  try simp only [List.setIfInBounds_toArray]
  try simp only [List.set_cons_succ]
  try simp only [List.set_cons_zero]
  refine wpAnyH_take (i := 4) (v := .int .i64 z) rfl (by kernel_rfl) (by kernel_rfl) (by kernel_rfl) (fun _ _ _ h => h) (Or.inl ⟨by rfl, ?_⟩) (by assumption) ?_
  · intro w hSw
    go_simp
  try simp only [List.getElem_toArray]
  try simp only [List.getElem_cons_succ]
  try simp only [List.getElem_cons_zero]
  try simp only [Act.put]
  try simp only [List.setIfInBounds_toArray]
  try simp only [List.set_cons_succ]
  try simp only [List.set_cons_zero]
  refine wpAnyH_take (i := 5) (v := .int .i64 (48 + z)) rfl (by kernel_rfl) (by kernel_rfl) (by kernel_rfl) (fun _ _ _ h => h) (Or.inl ⟨by rfl, ?_⟩) (by assumption) ?_
  · intro w hSw
    go_simp
  try simp only [List.getElem_toArray]
  try simp only [List.getElem_cons_succ]
  try simp only [List.getElem_cons_zero]
  try simp only [Act.put]
  try simp only [List.setIfInBounds_toArray]
  try simp only [List.set_cons_succ]
  try simp only [List.set_cons_zero]
  refine wpAnyH_take (i := 6) (v := .int .u8 (48 + z)) rfl (by kernel_rfl) (by kernel_rfl) (by kernel_rfl) (fun _ _ _ h => h) (Or.inl ⟨by rfl, ?_⟩) (by assumption) ?_
  · intro w hSw
    go_simp
  try simp only [List.getElem_toArray]
  try simp only [List.getElem_cons_succ]
  try simp only [List.getElem_cons_zero]
  try simp only [Act.put]
  try simp only [List.setIfInBounds_toArray]
  try simp only [List.set_cons_succ]
  try simp only [List.set_cons_zero]
  refine wpAnyH_ready (rs := [2, 7]) (by kernel_rfl) (by simp) ?_
  refine AllReadyH.cons rfl (fun K1 hK => ?_) ?_
  · skip
    go_simp
    refine (HQ.out _).mono ?_
    rintro e w' ⟨⟨s, rfl, hs⟩, hbC⟩
    have hs100 : s.size ≤ 100 := by omega
    go_wp2_with fail
    refine hK.out _ _ ?_ (fun hHeld => ?_)
    · exact thn2 (by assumption) hbC
    clear hK K1
    try simp only [List.getElem_toArray]
    try simp only [List.getElem_cons_succ]
    try simp only [List.getElem_cons_zero]
    try simp only [Act.put]
    try simp only [List.setIfInBounds_toArray]
    try simp only [List.set_cons_succ]
    try simp only [List.set_cons_zero]
    refine wpAnyH_ready (rs := [7]) (by kernel_rfl) (by simp) ?_
    refine AllReadyH.cons rfl (fun K1 hK => ?_) AllReadyH.nil
    go_simp
    try go_wp2_with fail
    refine hK.out _ _ ?_ (fun hHeld => ?_)
    · exact thn2 (by assumption) (below_allocN _ _)
    clear hK K1
    try simp only [List.getElem_toArray]
    try simp only [List.getElem_cons_succ]
    try simp only [List.getElem_cons_zero]
    try simp only [Act.put]
    try simp only [List.setIfInBounds_toArray]
    try simp only [List.set_cons_succ]
    try simp only [List.set_cons_zero]
    refine wpAnyH_ready (rs := [8]) (by kernel_rfl) (by simp) ?_
    refine AllReadyH.cons rfl (fun K1 hK => ?_) AllReadyH.nil
    go_simp
    try go_wp2_with fail
    refine hK.out _ _ ?_ (fun hHeld => ?_)
    · assumption
    clear hK K1
    try simp only [List.getElem_toArray]
    try simp only [List.getElem_cons_succ]
    try simp only [List.getElem_cons_zero]
    try simp only [Act.put]
    try simp only [List.setIfInBounds_toArray]
    try simp only [List.set_cons_succ]
    try simp only [List.set_cons_zero]
    refine wpAnyH_ready (rs := [9]) (by kernel_rfl) (by simp) ?_
    refine AllReadyH.cons rfl (fun K1 hK => ?_) AllReadyH.nil
    go_simp
    try go_wp2_with fail
    refine hK.out _ _ ?_ (fun hHeld => ?_)
    · assumption
    clear hK K1
    try simp only [List.getElem_toArray]
    try simp only [List.getElem_cons_succ]
    try simp only [List.getElem_cons_zero]
    try simp only [Act.put]
    try simp only [List.setIfInBounds_toArray]
    try simp only [List.set_cons_succ]
    try simp only [List.set_cons_zero]
    refine wpAnyH_ready (rs := [10]) (by kernel_rfl) (by simp) ?_
    refine AllReadyH.cons rfl (fun K1 hK => ?_) AllReadyH.nil
    go_simp
    try go_wp2_with fail
    refine hK.out _ _ ?_ (fun hHeld => ?_)
    · assumption
    clear hK K1
    try simp only [List.getElem_toArray]
    try simp only [List.getElem_cons_succ]
    try simp only [List.getElem_cons_zero]
    try simp only [Act.put]
    try simp only [List.setIfInBounds_toArray]
    try simp only [List.set_cons_succ]
    try simp only [List.set_cons_zero]
    refine wpAnyH_done (by kernel_rfl) ?_ _
    refine NoPanic.normal ?_
    go_wp2
    go_ret
    exact ⟨⟨_, rfl, by rw [ByteArray.size_append]; omega⟩, by assumption⟩
  refine AllReadyH.cons rfl (fun K1 hK => ?_) AllReadyH.nil
  go_simp
  try go_wp2_with fail
  refine hK.out _ _ ?_ (fun hHeld => ?_)
  · exact thn2 (by assumption) (below_allocN _ _)
  clear hK K1
  try simp only [List.getElem_toArray]
  try simp only [List.getElem_cons_succ]
  try simp only [List.getElem_cons_zero]
  try simp only [Act.put]
  try simp only [List.setIfInBounds_toArray]
  try simp only [List.set_cons_succ]
  try simp only [List.set_cons_zero]
  refine wpAnyH_ready (rs := [2, 8]) (by kernel_rfl) (by simp) ?_
  refine AllReadyH.cons rfl (fun K1 hK => ?_) ?_
  · skip
    go_simp
    refine (HQ.out _).mono ?_
    rintro e w' ⟨⟨s, rfl, hs⟩, hbC⟩
    have hs100 : s.size ≤ 100 := by omega
    have hst2 : (convert 43 9 (.slice (some ⟨w.heap.size, 0, none⟩) 1 1)).run Try.prog w' = .ok (.string t) w' := HK.out w.drew w' hbC
    go_wp2_with fail
    refine hK.out _ _ ?_ (fun hHeld => ?_)
    · exact thn2 (by assumption) hbC
    clear hK K1
    try simp only [List.getElem_toArray]
    try simp only [List.getElem_cons_succ]
    try simp only [List.getElem_cons_zero]
    try simp only [Act.put]
    try simp only [List.setIfInBounds_toArray]
    try simp only [List.set_cons_succ]
    try simp only [List.set_cons_zero]
    refine wpAnyH_ready (rs := [8]) (by kernel_rfl) (by simp) ?_
    refine AllReadyH.cons rfl (fun K1 hK => ?_) AllReadyH.nil
    go_simp
    try go_wp2_with fail
    refine hK.out _ _ ?_ (fun hHeld => ?_)
    · assumption
    clear hK K1
    try simp only [List.getElem_toArray]
    try simp only [List.getElem_cons_succ]
    try simp only [List.getElem_cons_zero]
    try simp only [Act.put]
    try simp only [List.setIfInBounds_toArray]
    try simp only [List.set_cons_succ]
    try simp only [List.set_cons_zero]
    refine wpAnyH_ready (rs := [9]) (by kernel_rfl) (by simp) ?_
    refine AllReadyH.cons rfl (fun K1 hK => ?_) AllReadyH.nil
    go_simp
    try go_wp2_with fail
    refine hK.out _ _ ?_ (fun hHeld => ?_)
    · assumption
    clear hK K1
    try simp only [List.getElem_toArray]
    try simp only [List.getElem_cons_succ]
    try simp only [List.getElem_cons_zero]
    try simp only [Act.put]
    try simp only [List.setIfInBounds_toArray]
    try simp only [List.set_cons_succ]
    try simp only [List.set_cons_zero]
    refine wpAnyH_ready (rs := [10]) (by kernel_rfl) (by simp) ?_
    refine AllReadyH.cons rfl (fun K1 hK => ?_) AllReadyH.nil
    go_simp
    try go_wp2_with fail
    refine hK.out _ _ ?_ (fun hHeld => ?_)
    · assumption
    clear hK K1
    try simp only [List.getElem_toArray]
    try simp only [List.getElem_cons_succ]
    try simp only [List.getElem_cons_zero]
    try simp only [Act.put]
    try simp only [List.setIfInBounds_toArray]
    try simp only [List.set_cons_succ]
    try simp only [List.set_cons_zero]
    refine wpAnyH_done (by kernel_rfl) ?_ _
    refine NoPanic.normal ?_
    go_wp2
    go_ret
    exact ⟨⟨_, rfl, by rw [ByteArray.size_append]; omega⟩, by assumption⟩
  refine AllReadyH.cons rfl (fun K1 hK => ?_) AllReadyH.nil
  go_simp
  try go_wp2_with fail
  refine hK.out _ _ ?_ (fun hHeld => ?_)
  · assumption
  clear hK K1
  try simp only [List.getElem_toArray]
  try simp only [List.getElem_cons_succ]
  try simp only [List.getElem_cons_zero]
  try simp only [Act.put]
  try simp only [List.setIfInBounds_toArray]
  try simp only [List.set_cons_succ]
  try simp only [List.set_cons_zero]
  refine wpAnyH_ready (rs := [2]) (by kernel_rfl) (by simp) ?_
  refine AllReadyH.cons rfl (fun K1 hK => ?_) AllReadyH.nil
  go_simp
  refine (HQ.out _).mono ?_
  rintro e w' ⟨⟨s, rfl, hs⟩, hbC⟩
  have hs100 : s.size ≤ 100 := by omega
  go_wp2_with fail
  refine hK.out _ _ ?_ (fun hHeld => ?_)
  · exact thn2 (by assumption) hbC
  clear hK K1
  try simp only [List.getElem_toArray]
  try simp only [List.getElem_cons_succ]
  try simp only [List.getElem_cons_zero]
  try simp only [Act.put]
  try simp only [List.setIfInBounds_toArray]
  try simp only [List.set_cons_succ]
  try simp only [List.set_cons_zero]
  refine wpAnyH_ready (rs := [9]) (by kernel_rfl) (by simp) ?_
  refine AllReadyH.cons rfl (fun K1 hK => ?_) AllReadyH.nil
  go_simp
  try go_wp2_with fail
  refine hK.out _ _ ?_ (fun hHeld => ?_)
  · assumption
  clear hK K1
  try simp only [List.getElem_toArray]
  try simp only [List.getElem_cons_succ]
  try simp only [List.getElem_cons_zero]
  try simp only [Act.put]
  try simp only [List.setIfInBounds_toArray]
  try simp only [List.set_cons_succ]
  try simp only [List.set_cons_zero]
  refine wpAnyH_ready (rs := [10]) (by kernel_rfl) (by simp) ?_
  refine AllReadyH.cons rfl (fun K1 hK => ?_) AllReadyH.nil
  go_simp
  try go_wp2_with fail
  refine hK.out _ _ ?_ (fun hHeld => ?_)
  · assumption
  clear hK K1
  try simp only [List.getElem_toArray]
  try simp only [List.getElem_cons_succ]
  try simp only [List.getElem_cons_zero]
  try simp only [Act.put]
  try simp only [List.setIfInBounds_toArray]
  try simp only [List.set_cons_succ]
  try simp only [List.set_cons_zero]
  refine wpAnyH_done (by kernel_rfl) ?_ _
  refine NoPanic.normal ?_
  go_wp2
  go_ret
  exact ⟨⟨_, rfl, by rw [ByteArray.size_append]; omega⟩, by assumption⟩
theorem numText_any (m : Int) (w : World) (h0 : 0 ≤ m) (h1 : m < 100) : Calls Try.prog 52 #[.int .i64 m] w fun e w' => (∃ s : ByteArray, e = .returned (.string s) ∧ s.size ≤ 4) ∧ Below w.heap.size w w' := by
  by_cases h2 : m < 10
  · refine (numText1 m w h0 h2).mono ?_
    rintro e w' ⟨⟨s, rfl, hs⟩, hb⟩
    exact ⟨⟨s, rfl, by omega⟩, hb⟩
  · refine (numStep m w 2 (by omega) (by omega) (by omega) (hid fun w => numText1 _ w (Int.tdiv_nonneg h0 (by omega)) (by have := Int.tdiv_eq_ediv_of_nonneg (b := 10) h0; omega))).mono ?_
    rintro e w' ⟨⟨s, rfl, hs⟩, hb⟩
    exact ⟨⟨s, rfl, by omega⟩, hb⟩
theorem numText3 (m : Int) (w : World) (h0 : 0 ≤ m) (h1 : m < 1000) : Calls Try.prog 52 #[.int .i64 m] w fun e w' => (∃ s : ByteArray, e = .returned (.string s) ∧ s.size ≤ 5) ∧ Below w.heap.size w w' := by
  by_cases h2 : m < 100
  · refine (numText_any m w h0 h2).mono ?_
    rintro e w' ⟨⟨s, rfl, hs⟩, hb⟩
    exact ⟨⟨s, rfl, by omega⟩, hb⟩
  · exact numStep m w 4 (by omega) (by omega) (by omega) (hid fun w => numText_any _ w (Int.tdiv_nonneg h0 (by omega)) (by have := Int.tdiv_eq_ediv_of_nonneg (b := 10) h0; omega))
theorem numText4 (m : Int) (w : World) (h0 : 0 ≤ m) (h1 : m < 10000) : Calls Try.prog 52 #[.int .i64 m] w fun e w' => (∃ s : ByteArray, e = .returned (.string s) ∧ s.size ≤ 6) ∧ Below w.heap.size w w' := by
  by_cases h2 : m < 1000
  · refine (numText3 m w h0 h2).mono ?_
    rintro e w' ⟨⟨s, rfl, hs⟩, hb⟩
    exact ⟨⟨s, rfl, by omega⟩, hb⟩
  · exact numStep m w 5 (by omega) (by omega) (by omega) (hid fun w => numText3 _ w (Int.tdiv_nonneg h0 (by omega)) (by have := Int.tdiv_eq_ediv_of_nonneg (b := 10) h0; omega))
end Go.Proofs.Ytbfgjadonilonaa
