/-
  MsgRead of the specification.
-/
import Derived.Test.YtbonkheoeohaiaaDoorMz3
namespace Go.Proofs.YtbonkheoeohaiaaDoor
open Go.RowKit
set_option linter.unusedVariables false
theorem infoI9 : (Tryd.prog.info? 3).map (fun i => (i.zero, i.size, i.bytes)) = some (some (.int .i64 0), 1, 8) := by kernel_rfl
theorem infoS9 : (Tryd.prog.info? 9).map (fun i => (i.zero, i.size, i.bytes)) = some (some (.string ⟨#[]⟩), 1, 16) := by kernel_rfl
set_option maxHeartbeats 16000000 in
set_option maxRecDepth 20000 in
theorem specMsgRead_any (a : Option Addr) (n c : Nat) (zs : List Int) (w : World) (h : Rd w a n c zs) :
    Calls Tryd.prog 18 #[.slice a n c] w fun r w' => RdP zs w r w' := by
  have mk1 : ∀ w : World, (Instr.makeSlice 75 (.int .i64 13) (.int .i64 13)).run Tryd.prog w = .ok (.slice (some ⟨w.heap.size, 0, none⟩) 13 13) (w.alloc (.cells #[.int .i64 0, .int .i64 0, .int .i64 0, .int .i64 0, .int .i64 0, .int .i64 0, .int .i64 0, .int .i64 0, .int .i64 0, .int .i64 0, .int .i64 0, .int .i64 0, .int .i64 0] 3)) := fun w => by
    have := run_make_n (P := Tryd.prog) 75 3 (.int .i64 0) 1 8 Tryd.underlying75 infoI9 13 (by omega) (by omega) w
    rw [show (Value.int .i64 0).cells = #[.int .i64 0] by rfl, made_rep] at this
    exact this
  have mk2 : ∀ w : World, (Instr.makeSlice 77 (.int .i64 4) (.int .i64 4)).run Tryd.prog w = .ok (.slice (some ⟨w.heap.size, 0, none⟩) 4 4) (w.alloc (.cells #[.string ⟨#[]⟩, .string ⟨#[]⟩, .string ⟨#[]⟩, .string ⟨#[]⟩] 9)) := fun w => by
    have := run_make_n (P := Tryd.prog) 77 9 (.string ⟨#[]⟩) 1 16 Tryd.underlying77 infoS9 4 (by omega) (by omega) w
    rw [show (Value.string ⟨#[]⟩).cells = #[.string ⟨#[]⟩] by rfl, made_rep] at this
    exact this
  have Q0 : Hid (MQ w ((((w.alloc (.cells #[.int .i64 0, .int .i64 0, .int .i64 0, .int .i64 0, .int .i64 0, .int .i64 0, .int .i64 0, .int .i64 0, .string ⟨#[]⟩, .string ⟨#[]⟩, .string ⟨#[]⟩, .string ⟨#[]⟩, .int .i64 0, .bool false, .int .i64 0, .slice none 0 0, .bool false] 31)).alloc (.cells #[.int .i64 0, .int .i64 0, .int .i64 0, .int .i64 0, .int .i64 0, .int .i64 0, .int .i64 0, .int .i64 0, .string ⟨#[]⟩, .string ⟨#[]⟩, .string ⟨#[]⟩, .string ⟨#[]⟩, .int .i64 0, .bool false, .int .i64 0, .slice none 0 0, .bool false] 31)).alloc (.cells #[.int .i64 0, .int .i64 0, .int .i64 0, .int .i64 0, .int .i64 0, .int .i64 0, .int .i64 0, .int .i64 0, .int .i64 0, .int .i64 0, .int .i64 0, .int .i64 0, .int .i64 0] 3)).alloc (.cells #[.string ⟨#[]⟩, .string ⟨#[]⟩, .string ⟨#[]⟩, .string ⟨#[]⟩] 9)) [.int .i64 0, .int .i64 0, .int .i64 0, .int .i64 0, .int .i64 0, .int .i64 0, .int .i64 0, .int .i64 0, .string ⟨#[]⟩, .string ⟨#[]⟩, .string ⟨#[]⟩, .string ⟨#[]⟩, .int .i64 0, .bool false, .int .i64 0, .slice none 0 0, .bool false] (vrow [] 13) (trow [] 4)) := by
    have h1 := ((Bk.new w 31 [.int .i64 0, .int .i64 0, .int .i64 0, .int .i64 0, .int .i64 0, .int .i64 0, .int .i64 0, .int .i64 0, .string ⟨#[]⟩, .string ⟨#[]⟩, .string ⟨#[]⟩, .string ⟨#[]⟩, .int .i64 0, .bool false, .int .i64 0, .slice none 0 0, .bool false]).alloc (.cells #[.int .i64 0, .int .i64 0, .int .i64 0, .int .i64 0, .int .i64 0, .int .i64 0, .int .i64 0, .int .i64 0, .string ⟨#[]⟩, .string ⟨#[]⟩, .string ⟨#[]⟩, .string ⟨#[]⟩, .int .i64 0, .bool false, .int .i64 0, .slice none 0 0, .bool false] 31)).alloc (.cells #[.int .i64 0, .int .i64 0, .int .i64 0, .int .i64 0, .int .i64 0, .int .i64 0, .int .i64 0, .int .i64 0, .int .i64 0, .int .i64 0, .int .i64 0, .int .i64 0, .int .i64 0] 3)
    have h2 := (Bk.new (w.alloc (.cells #[.int .i64 0, .int .i64 0, .int .i64 0, .int .i64 0, .int .i64 0, .int .i64 0, .int .i64 0, .int .i64 0, .string ⟨#[]⟩, .string ⟨#[]⟩, .string ⟨#[]⟩, .string ⟨#[]⟩, .int .i64 0, .bool false, .int .i64 0, .slice none 0 0, .bool false] 31)) 31 [.int .i64 0, .int .i64 0, .int .i64 0, .int .i64 0, .int .i64 0, .int .i64 0, .int .i64 0, .int .i64 0, .string ⟨#[]⟩, .string ⟨#[]⟩, .string ⟨#[]⟩, .string ⟨#[]⟩, .int .i64 0, .bool false, .int .i64 0, .slice none 0 0, .bool false]).alloc (.cells #[.int .i64 0, .int .i64 0, .int .i64 0, .int .i64 0, .int .i64 0, .int .i64 0, .int .i64 0, .int .i64 0, .int .i64 0, .int .i64 0, .int .i64 0, .int .i64 0, .int .i64 0] 3)
    have h3 := Bk.new ((w.alloc (.cells #[.int .i64 0, .int .i64 0, .int .i64 0, .int .i64 0, .int .i64 0, .int .i64 0, .int .i64 0, .int .i64 0, .string ⟨#[]⟩, .string ⟨#[]⟩, .string ⟨#[]⟩, .string ⟨#[]⟩, .int .i64 0, .bool false, .int .i64 0, .slice none 0 0, .bool false] 31)).alloc (.cells #[.int .i64 0, .int .i64 0, .int .i64 0, .int .i64 0, .int .i64 0, .int .i64 0, .int .i64 0, .int .i64 0, .string ⟨#[]⟩, .string ⟨#[]⟩, .string ⟨#[]⟩, .string ⟨#[]⟩, .int .i64 0, .bool false, .int .i64 0, .slice none 0 0, .bool false] 31)) 3 [.int .i64 0, .int .i64 0, .int .i64 0, .int .i64 0, .int .i64 0, .int .i64 0, .int .i64 0, .int .i64 0, .int .i64 0, .int .i64 0, .int .i64 0, .int .i64 0, .int .i64 0]
    have h4 := Bk.new (((w.alloc (.cells #[.int .i64 0, .int .i64 0, .int .i64 0, .int .i64 0, .int .i64 0, .int .i64 0, .int .i64 0, .int .i64 0, .string ⟨#[]⟩, .string ⟨#[]⟩, .string ⟨#[]⟩, .string ⟨#[]⟩, .int .i64 0, .bool false, .int .i64 0, .slice none 0 0, .bool false] 31)).alloc (.cells #[.int .i64 0, .int .i64 0, .int .i64 0, .int .i64 0, .int .i64 0, .int .i64 0, .int .i64 0, .int .i64 0, .string ⟨#[]⟩, .string ⟨#[]⟩, .string ⟨#[]⟩, .string ⟨#[]⟩, .int .i64 0, .bool false, .int .i64 0, .slice none 0 0, .bool false] 31)).alloc (.cells #[.int .i64 0, .int .i64 0, .int .i64 0, .int .i64 0, .int .i64 0, .int .i64 0, .int .i64 0, .int .i64 0, .int .i64 0, .int .i64 0, .int .i64 0, .int .i64 0, .int .i64 0] 3)) 9 [.string ⟨#[]⟩, .string ⟨#[]⟩, .string ⟨#[]⟩, .string ⟨#[]⟩]
    rw [show (w.alloc (.cells #[.int .i64 0, .int .i64 0, .int .i64 0, .int .i64 0, .int .i64 0, .int .i64 0, .int .i64 0, .int .i64 0, .string ⟨#[]⟩, .string ⟨#[]⟩, .string ⟨#[]⟩, .string ⟨#[]⟩, .int .i64 0, .bool false, .int .i64 0, .slice none 0 0, .bool false] 31)).heap.size = w.heap.size + 1 by simp] at h2
    rw [show ((w.alloc (.cells #[.int .i64 0, .int .i64 0, .int .i64 0, .int .i64 0, .int .i64 0, .int .i64 0, .int .i64 0, .int .i64 0, .string ⟨#[]⟩, .string ⟨#[]⟩, .string ⟨#[]⟩, .string ⟨#[]⟩, .int .i64 0, .bool false, .int .i64 0, .slice none 0 0, .bool false] 31)).alloc (.cells #[.int .i64 0, .int .i64 0, .int .i64 0, .int .i64 0, .int .i64 0, .int .i64 0, .int .i64 0, .int .i64 0, .string ⟨#[]⟩, .string ⟨#[]⟩, .string ⟨#[]⟩, .string ⟨#[]⟩, .int .i64 0, .bool false, .int .i64 0, .slice none 0 0, .bool false] 31)).heap.size = w.heap.size + 1 + 1 by simp] at h3
    rw [show (((w.alloc (.cells #[.int .i64 0, .int .i64 0, .int .i64 0, .int .i64 0, .int .i64 0, .int .i64 0, .int .i64 0, .int .i64 0, .string ⟨#[]⟩, .string ⟨#[]⟩, .string ⟨#[]⟩, .string ⟨#[]⟩, .int .i64 0, .bool false, .int .i64 0, .slice none 0 0, .bool false] 31)).alloc (.cells #[.int .i64 0, .int .i64 0, .int .i64 0, .int .i64 0, .int .i64 0, .int .i64 0, .int .i64 0, .int .i64 0, .string ⟨#[]⟩, .string ⟨#[]⟩, .string ⟨#[]⟩, .string ⟨#[]⟩, .int .i64 0, .bool false, .int .i64 0, .slice none 0 0, .bool false] 31)).alloc (.cells #[.int .i64 0, .int .i64 0, .int .i64 0, .int .i64 0, .int .i64 0, .int .i64 0, .int .i64 0, .int .i64 0, .int .i64 0, .int .i64 0, .int .i64 0, .int .i64 0, .int .i64 0] 3)).heap.size = w.heap.size + 1 + 1 + 1 by simp] at h4
    exact ⟨below_new (below_new (below_new (below_new (Below.refl _ _)))), h1.alloc _, h2.alloc _, h3.alloc _, h4⟩
  have H0 := hid h
  clear h
  go_enter Tryd.func18, Tryd.ntmps18
  go_wp2_with (first
    | (refine wpList_store_row rfl 31 _ _ rfl (w.heap.size + 1) _ rfl rfl 31 _ (by have := heap_alloc_new (w.alloc (.cells #[.int .i64 0, .int .i64 0, .int .i64 0, .int .i64 0, .int .i64 0, .int .i64 0, .int .i64 0, .int .i64 0, .string ⟨#[]⟩, .string ⟨#[]⟩, .string ⟨#[]⟩, .string ⟨#[]⟩, .int .i64 0, .bool false, .int .i64 0, .slice none 0 0, .bool false] 31)) (.cells #[.int .i64 0, .int .i64 0, .int .i64 0, .int .i64 0, .int .i64 0, .int .i64 0, .int .i64 0, .int .i64 0, .string ⟨#[]⟩, .string ⟨#[]⟩, .string ⟨#[]⟩, .string ⟨#[]⟩, .int .i64 0, .bool false, .int .i64 0, .slice none 0 0, .bool false] 31); rwa [show (w.alloc (.cells #[.int .i64 0, .int .i64 0, .int .i64 0, .int .i64 0, .int .i64 0, .int .i64 0, .int .i64 0, .int .i64 0, .string ⟨#[]⟩, .string ⟨#[]⟩, .string ⟨#[]⟩, .string ⟨#[]⟩, .int .i64 0, .bool false, .int .i64 0, .slice none 0 0, .bool false] 31)).heap.size = w.heap.size + 1 by simp] at this) (by kernel_rfl) rfl (by kernel_rfl) ?_; rw [show w.heap.size + 1 = (w.alloc (.cells #[.int .i64 0, .int .i64 0, .int .i64 0, .int .i64 0, .int .i64 0, .int .i64 0, .int .i64 0, .int .i64 0, .string ⟨#[]⟩, .string ⟨#[]⟩, .string ⟨#[]⟩, .string ⟨#[]⟩, .int .i64 0, .bool false, .int .i64 0, .slice none 0 0, .bool false] 31)).heap.size by simp, World.setRow_alloc_new]))
  generalize (((w.alloc (.cells #[.int .i64 0, .int .i64 0, .int .i64 0, .int .i64 0, .int .i64 0, .int .i64 0, .int .i64 0, .int .i64 0, .string ⟨#[]⟩, .string ⟨#[]⟩, .string ⟨#[]⟩, .string ⟨#[]⟩, .int .i64 0, .bool false, .int .i64 0, .slice none 0 0, .bool false] 31)).alloc (.cells #[.int .i64 0, .int .i64 0, .int .i64 0, .int .i64 0, .int .i64 0, .int .i64 0, .int .i64 0, .int .i64 0, .string ⟨#[]⟩, .string ⟨#[]⟩, .string ⟨#[]⟩, .string ⟨#[]⟩, .int .i64 0, .bool false, .int .i64 0, .slice none 0 0, .bool false] 31)).alloc (.cells #[.int .i64 0, .int .i64 0, .int .i64 0, .int .i64 0, .int .i64 0, .int .i64 0, .int .i64 0, .int .i64 0, .int .i64 0, .int .i64 0, .int .i64 0, .int .i64 0, .int .i64 0] 3)).alloc (.cells #[.string ⟨#[]⟩, .string ⟨#[]⟩, .string ⟨#[]⟩, .string ⟨#[]⟩] 9) = U at *
  go_wp2_with fail
  go_loopw [7, 8] (fun p i wr => ∃ (j : Nat) (q : Int) (l : List Int), j ≤ 8 ∧ i = .int .i64 (j : Int) ∧ p = .int .i64 q ∧ Hid (l.length = j) ∧ Hid (NRd zs 0 l q) ∧ q ≤ 281474976710656 ∧ Hid (MQ w wr [.int .i64 0, .int .i64 0, .int .i64 0, .int .i64 0, .int .i64 0, .int .i64 0, .int .i64 0, .int .i64 0, .string ⟨#[]⟩, .string ⟨#[]⟩, .string ⟨#[]⟩, .string ⟨#[]⟩, .int .i64 0, .bool false, .int .i64 0, .slice none 0 0, .bool false] (vrow l 13) (trow [] 4))) (fun _ i _ => 8 - (intOf i).toNat)
  case atStart => exact ⟨0, _, [], Nat.zero_le _, rfl, rfl, rfl, rfl, by omega, Q0.out⟩
  case round =>
    obtain ⟨j, q, l, hj, rfl, rfl, HL, HN, hq, HQ⟩ := hrel
    by_cases hlt : j < 8
    · have hlt' : (j : Int) < 8 := by omega
      have RW := hid (H0.out.kept HQ.out.bel)
      have HQB : Hid ((gv zs q).2 ≤ 281474976710656) := gv_qb RW.out q
      have HNN := hid HN.out.snoc
      go_wp2_with fail
      refine (specGetVar_any a n c zs q _ RW.out (by omega)).mono ?_
      rintro r w3 ⟨rfl, hb⟩
      have Q3 := hid (HQ.out.below hb)
      clear hb HQ RW HN
      generalize (gv zs q).1 = x at *
      generalize (gv zs q).2 = q' at *
      have HFL : Hid (l.length < 13) := by show _ < _; rw [HL.out]; omega
      have HFE : Hid (l.length = j) := by show _ = _; exact HL.out
      have y0 : w3.cell? ⟨w.heap.size + 1 + 1, j, none⟩ = some (.int .i64 0) := by have := Q3.out.kV.cell (vrow_at HFL.out); rwa [HFE.out] at this
      have f0 := Q3.out.kV.free (j)
      have Q4 : Hid (MQ w (w3.setCell ⟨w.heap.size + 1 + 1, j, none⟩ (.int .i64 x)) [.int .i64 0, .int .i64 0, .int .i64 0, .int .i64 0, .int .i64 0, .int .i64 0, .int .i64 0, .int .i64 0, .string ⟨#[]⟩, .string ⟨#[]⟩, .string ⟨#[]⟩, .string ⟨#[]⟩, .int .i64 0, .bool false, .int .i64 0, .slice none 0 0, .bool false] (vrow (l ++ [x]) 13) (trow [] 4)) := by
        have := Q3.out.setV (j) (.int .i64 x)
        rwa [← HFE.out, vrow_set HFL.out, HFE.out] at this
      have HL2 : Hid ((l ++ [x]).length = j + 1) := by show _ = _; rw [List.length_append, HL.out]; rfl
      have hq' := HQB.out
      clear Q3 HFL HFE HQB
      go_wp2
      go_roundw
      case rel => exact ⟨j + 1, q', l ++ [x], by omega, by go_num, rfl, HL2.out, HNN.out, hq', Q4.out⟩
      case measure => simp [intOf]; omega
    · have HLE : Hid (l.length = 8) := by show _ = _; rw [HL.out]; omega
      clear HL
      have hq1 := hq
      go_wp2_with fail
      clear hj hlt
      generalize hl8 : l = l8 at *
      generalize hQ1 : q = Q1 at *
      have HL8 := hid HLE.out
      have QA := hid HQ.out
      have HN1 := hid HN.out
      clear HLE HQ HN hl8 hQ1
      go_loopw [7, 33] (fun p i wr => ∃ (j : Nat) (q : Int) (l : List ByteArray), j ≤ 4 ∧ i = .int .i64 j ∧ p = .int .i64 q ∧ Hid (l.length = j) ∧ Hid (TRd zs Q1 l q) ∧ q ≤ 281474976710656 ∧ Hid (MQ w wr [.int .i64 0, .int .i64 0, .int .i64 0, .int .i64 0, .int .i64 0, .int .i64 0, .int .i64 0, .int .i64 0, .string ⟨#[]⟩, .string ⟨#[]⟩, .string ⟨#[]⟩, .string ⟨#[]⟩, .int .i64 0, .bool false, .int .i64 0, .slice none 0 0, .bool false] (vrow l8 13) (trow l 4))) (fun _ i _ => 4 - (intOf i).toNat)
      case atStart => exact ⟨0, _, [], Nat.zero_le _, rfl, rfl, rfl, rfl, hq1, QA.out⟩
      case round =>
        obtain ⟨j, q, l, hj, rfl, rfl, HL, HN, hq, HQ⟩ := hrel
        by_cases hlt : j < 4
        · have hlt' : (j : Int) < 4 := by omega
          have RW := hid (H0.out.kept HQ.out.bel)
          have HQB : Hid ((gt zs q).2 ≤ 281474976710656) := gt_qb RW.out q
          have HNN := hid HN.out.snoc
          go_wp2_with fail
          refine (specGetText_any a n c zs q _ RW.out (by omega)).mono ?_
          rintro r w3 ⟨rfl, hb⟩
          have Q3 := hid (HQ.out.below hb)
          clear hb HQ RW HN
          generalize strOf (gt zs q).1 = x at *
          generalize (gt zs q).2 = q' at *
          have HFL : Hid (l.length < 4) := by show _ < _; rw [HL.out]; exact hlt
          have y0 : w3.cell? ⟨w.heap.size + 1 + 1 + 1, j, none⟩ = some (.string ⟨#[]⟩) := by have := Q3.out.kS.cell (trow_at HFL.out); rwa [HL.out] at this
          have f0 := Q3.out.kS.free j
          have Q4 : Hid (MQ w (w3.setCell ⟨w.heap.size + 1 + 1 + 1, j, none⟩ (.string x)) [.int .i64 0, .int .i64 0, .int .i64 0, .int .i64 0, .int .i64 0, .int .i64 0, .int .i64 0, .int .i64 0, .string ⟨#[]⟩, .string ⟨#[]⟩, .string ⟨#[]⟩, .string ⟨#[]⟩, .int .i64 0, .bool false, .int .i64 0, .slice none 0 0, .bool false] (vrow l8 13) (trow (l ++ [x]) 4)) := by
            have := Q3.out.setS j (.string x)
            rwa [← HL.out, trow_set HFL.out, HL.out] at this
          have HL2 : Hid ((l ++ [x]).length = j + 1) := by show _ = _; rw [List.length_append, HL.out]; rfl
          have hq' := HQB.out
          clear Q3 HFL HQB
          go_wp2
          go_roundw
          case rel => exact ⟨j + 1, q', l ++ [x], by omega, by go_num, rfl, HL2.out, HNN.out, hq', Q4.out⟩
          case measure => simp [intOf]; omega
        · have HLE : Hid (l.length = 4) := by show _ = _; rw [HL.out]; omega
          have hq2 := hq
          go_wp2_with fail
          clear hj hlt HL QA hq1
          generalize hl4 : l = l4 at *
          generalize hQ2 : q = Q2 at *
          have HL4 := hid HLE.out
          have QB := hid HQ.out
          have HN2 := hid HN.out
          clear HLE HQ HN hl4 hQ2
          go_loopw [7, 10] (fun p i wr => ∃ (j : Nat) (q : Int) (l : List Int), j ≤ 4 ∧ i = .int .i64 (8 + (j : Int)) ∧ p = .int .i64 q ∧ Hid (l.length = j) ∧ Hid (NRd zs Q2 l q) ∧ q ≤ 281474976710656 ∧ Hid (MQ w wr [.int .i64 0, .int .i64 0, .int .i64 0, .int .i64 0, .int .i64 0, .int .i64 0, .int .i64 0, .int .i64 0, .string ⟨#[]⟩, .string ⟨#[]⟩, .string ⟨#[]⟩, .string ⟨#[]⟩, .int .i64 0, .bool false, .int .i64 0, .slice none 0 0, .bool false] (vrow (l8 ++ l) 13) (trow l4 4))) (fun _ i _ => 12 - (intOf i).toNat)
          case atStart => exact ⟨0, _, [], Nat.zero_le _, rfl, rfl, rfl, rfl, hq2, by show MQ _ _ _ _ _; rw [List.append_nil]; exact QB.out⟩
          case round =>
            obtain ⟨j, q, l, hj, rfl, rfl, HL, HN, hq, HQ⟩ := hrel
            by_cases hlt : j < 4
            · have hlt' : 8 + (j : Int) < 12 := by omega
              have RW := hid (H0.out.kept HQ.out.bel)
              have HQB : Hid ((gv zs q).2 ≤ 281474976710656) := gv_qb RW.out q
              have HNN := hid HN.out.snoc
              go_wp2_with fail
              refine (specGetVar_any a n c zs q _ RW.out (by omega)).mono ?_
              rintro r w3 ⟨rfl, hb⟩
              have Q3 := hid (HQ.out.below hb)
              clear hb HQ RW HN
              generalize (gv zs q).1 = x at *
              generalize (gv zs q).2 = q' at *
              have HFL : Hid ((l8 ++ l).length < 13) := by show _ < _; rw [List.length_append, HL.out, HL8.out]; omega
              have HFE : Hid ((l8 ++ l).length = 8 + j) := by show _ = _; rw [List.length_append, HL.out, HL8.out]
              have y0 : w3.cell? ⟨w.heap.size + 1 + 1, 8 + j, none⟩ = some (.int .i64 0) := by have := Q3.out.kV.cell (vrow_at HFL.out); rwa [HFE.out] at this
              have f0 := Q3.out.kV.free (8 + j)
              have Q4 : Hid (MQ w (w3.setCell ⟨w.heap.size + 1 + 1, 8 + j, none⟩ (.int .i64 x)) [.int .i64 0, .int .i64 0, .int .i64 0, .int .i64 0, .int .i64 0, .int .i64 0, .int .i64 0, .int .i64 0, .string ⟨#[]⟩, .string ⟨#[]⟩, .string ⟨#[]⟩, .string ⟨#[]⟩, .int .i64 0, .bool false, .int .i64 0, .slice none 0 0, .bool false] (vrow ((l8 ++ l) ++ [x]) 13) (trow l4 4)) := by
                have := Q3.out.setV (8 + j) (.int .i64 x)
                rwa [← HFE.out, vrow_set HFL.out, HFE.out] at this
              have HL2 : Hid ((l ++ [x]).length = j + 1) := by show _ = _; rw [List.length_append, HL.out]; rfl
              have hq' := HQB.out
              clear Q3 HFL HFE HQB
              go_wp2
              go_roundw
              case rel => exact ⟨j + 1, q', l ++ [x], by omega, by go_num, rfl, HL2.out, HNN.out, hq', by show MQ _ _ _ _ _; rw [← List.append_assoc]; exact Q4.out⟩
              case measure => simp [intOf]; omega
            · have HLE : Hid (l.length = 4) := by show _ = _; rw [HL.out]; omega
              clear HL
              go_wp2_with fail
              generalize hlm : l = lm at *
              generalize hQ3 : q = Q3 at *
              have QC := hid HQ.out
              have HN3 := hid HN.out
              clear HQ HN hlm hQ3 QB hj hlt
              obtain ⟨x0, x1, x2, x3, x4, x5, x6, x7, rfl⟩ := len8 HL8.out
              obtain ⟨s0, s1, s2, s3, rfl⟩ := len4 HL4.out
              obtain ⟨y0, y1, y2, y3, rfl⟩ := len4 HLE.out
              clear HL8 HL4 HLE
              have QD : Hid (MQ w wr [.int .i64 0, .int .i64 0, .int .i64 0, .int .i64 0, .int .i64 0, .int .i64 0, .int .i64 0, .int .i64 0, .string ⟨#[]⟩, .string ⟨#[]⟩, .string ⟨#[]⟩, .string ⟨#[]⟩, .int .i64 0, .bool false, .int .i64 0, .slice none 0 0, .bool false] [.int .i64 x0, .int .i64 x1, .int .i64 x2, .int .i64 x3, .int .i64 x4, .int .i64 x5, .int .i64 x6, .int .i64 x7, .int .i64 y0, .int .i64 y1, .int .i64 y2, .int .i64 y3, .int .i64 0] [.string s0, .string s1, .string s2, .string s3]) := QC.out
              clear QC
              have QDd := hid (QD.out.below (below_drew wr))
              clear QD
              refine wp_region_noPanic ?_
              refine wp_region_held_drew (S := fun v => Bk v (w.heap.size + 1 + 1) 3 [.int .i64 x0, .int .i64 x1, .int .i64 x2, .int .i64 x3, .int .i64 x4, .int .i64 x5, .int .i64 x6, .int .i64 x7, .int .i64 y0, .int .i64 y1, .int .i64 y2, .int .i64 y3, .int .i64 0]) (by kernel_rfl) (QDd.out.kV) (fun hHeld => ?_)
              simp only [List.size_toArray, List.length_cons, List.length_nil, Array.replicate_succ, Array.replicate_zero, Nat.reduceAdd, List.push_toArray, List.nil_append, List.cons_append]
              refine wpAnyH_take (i := 0) (v := .slice (some ⟨w.heap.size + 1 + 1, 0, none⟩) 13 13) rfl (by kernel_rfl) (by kernel_rfl) (by kernel_rfl) (fun _ _ _ h => h) (Or.inl ⟨by rfl, ?_⟩) (by assumption) ?_
              · intro w hSw
                go_simp
              try simp only [List.getElem_toArray]
              try simp only [List.getElem_cons_succ]
              try simp only [List.getElem_cons_zero]
              try simp only [Act.put]
              try simp only [List.setIfInBounds_toArray]
              try simp only [List.set_cons_succ]
              try simp only [List.set_cons_zero]
              refine wpAnyH_take (i := 1) (v := .pointer (some ⟨w.heap.size + 1 + 1, 0, none⟩)) rfl (by kernel_rfl) (by kernel_rfl) (by kernel_rfl) (fun _ _ _ h => h) (Or.inl ⟨by rfl, ?_⟩) (by assumption) ?_
              · intro w hSw
                go_simp
              try simp only [List.getElem_toArray]
              try simp only [List.getElem_cons_succ]
              try simp only [List.getElem_cons_zero]
              try simp only [Act.put]
              try simp only [List.setIfInBounds_toArray]
              try simp only [List.set_cons_succ]
              try simp only [List.set_cons_zero]
              refine wpAnyH_take (i := 2) (v := .int .i64 x0) rfl (by kernel_rfl) (by kernel_rfl) (by kernel_rfl) (fun _ _ _ h => h) (Or.inl ⟨by rfl, ?_⟩) (by assumption) ?_
              · intro w hSw
                have q := Bk.cell hSw (j := 0) rfl
                go_simp
              try simp only [List.getElem_toArray]
              try simp only [List.getElem_cons_succ]
              try simp only [List.getElem_cons_zero]
              try simp only [Act.put]
              try simp only [List.setIfInBounds_toArray]
              try simp only [List.set_cons_succ]
              try simp only [List.set_cons_zero]
              refine wpAnyH_take (i := 3) (v := .slice (some ⟨w.heap.size + 1 + 1, 0, none⟩) 13 13) rfl (by kernel_rfl) (by kernel_rfl) (by kernel_rfl) (fun _ _ _ h => h) (Or.inl ⟨by rfl, ?_⟩) (by assumption) ?_
              · intro w hSw
                go_simp
              try simp only [List.getElem_toArray]
              try simp only [List.getElem_cons_succ]
              try simp only [List.getElem_cons_zero]
              try simp only [Act.put]
              try simp only [List.setIfInBounds_toArray]
              try simp only [List.set_cons_succ]
              try simp only [List.set_cons_zero]
              refine wpAnyH_take (i := 4) (v := .pointer (some ⟨w.heap.size + 1 + 1, 1, none⟩)) rfl (by kernel_rfl) (by kernel_rfl) (by kernel_rfl) (fun _ _ _ h => h) (Or.inl ⟨by rfl, ?_⟩) (by assumption) ?_
              · intro w hSw
                go_simp
              try simp only [List.getElem_toArray]
              try simp only [List.getElem_cons_succ]
              try simp only [List.getElem_cons_zero]
              try simp only [Act.put]
              try simp only [List.setIfInBounds_toArray]
              try simp only [List.set_cons_succ]
              try simp only [List.set_cons_zero]
              refine wpAnyH_take (i := 5) (v := .int .i64 x1) rfl (by kernel_rfl) (by kernel_rfl) (by kernel_rfl) (fun _ _ _ h => h) (Or.inl ⟨by rfl, ?_⟩) (by assumption) ?_
              · intro w hSw
                have q := Bk.cell hSw (j := 1) rfl
                go_simp
              try simp only [List.getElem_toArray]
              try simp only [List.getElem_cons_succ]
              try simp only [List.getElem_cons_zero]
              try simp only [Act.put]
              try simp only [List.setIfInBounds_toArray]
              try simp only [List.set_cons_succ]
              try simp only [List.set_cons_zero]
              refine wpAnyH_take (i := 6) (v := .slice (some ⟨w.heap.size + 1 + 1, 0, none⟩) 13 13) rfl (by kernel_rfl) (by kernel_rfl) (by kernel_rfl) (fun _ _ _ h => h) (Or.inl ⟨by rfl, ?_⟩) (by assumption) ?_
              · intro w hSw
                go_simp
              try simp only [List.getElem_toArray]
              try simp only [List.getElem_cons_succ]
              try simp only [List.getElem_cons_zero]
              try simp only [Act.put]
              try simp only [List.setIfInBounds_toArray]
              try simp only [List.set_cons_succ]
              try simp only [List.set_cons_zero]
              refine wpAnyH_take (i := 7) (v := .pointer (some ⟨w.heap.size + 1 + 1, 2, none⟩)) rfl (by kernel_rfl) (by kernel_rfl) (by kernel_rfl) (fun _ _ _ h => h) (Or.inl ⟨by rfl, ?_⟩) (by assumption) ?_
              · intro w hSw
                go_simp
              try simp only [List.getElem_toArray]
              try simp only [List.getElem_cons_succ]
              try simp only [List.getElem_cons_zero]
              try simp only [Act.put]
              try simp only [List.setIfInBounds_toArray]
              try simp only [List.set_cons_succ]
              try simp only [List.set_cons_zero]
              refine wpAnyH_take (i := 8) (v := .int .i64 x2) rfl (by kernel_rfl) (by kernel_rfl) (by kernel_rfl) (fun _ _ _ h => h) (Or.inl ⟨by rfl, ?_⟩) (by assumption) ?_
              · intro w hSw
                have q := Bk.cell hSw (j := 2) rfl
                go_simp
              try simp only [List.getElem_toArray]
              try simp only [List.getElem_cons_succ]
              try simp only [List.getElem_cons_zero]
              try simp only [Act.put]
              try simp only [List.setIfInBounds_toArray]
              try simp only [List.set_cons_succ]
              try simp only [List.set_cons_zero]
              refine wpAnyH_take (i := 9) (v := .slice (some ⟨w.heap.size + 1 + 1, 0, none⟩) 13 13) rfl (by kernel_rfl) (by kernel_rfl) (by kernel_rfl) (fun _ _ _ h => h) (Or.inl ⟨by rfl, ?_⟩) (by assumption) ?_
              · intro w hSw
                go_simp
              try simp only [List.getElem_toArray]
              try simp only [List.getElem_cons_succ]
              try simp only [List.getElem_cons_zero]
              try simp only [Act.put]
              try simp only [List.setIfInBounds_toArray]
              try simp only [List.set_cons_succ]
              try simp only [List.set_cons_zero]
              refine wpAnyH_take (i := 10) (v := .pointer (some ⟨w.heap.size + 1 + 1, 3, none⟩)) rfl (by kernel_rfl) (by kernel_rfl) (by kernel_rfl) (fun _ _ _ h => h) (Or.inl ⟨by rfl, ?_⟩) (by assumption) ?_
              · intro w hSw
                go_simp
              try simp only [List.getElem_toArray]
              try simp only [List.getElem_cons_succ]
              try simp only [List.getElem_cons_zero]
              try simp only [Act.put]
              try simp only [List.setIfInBounds_toArray]
              try simp only [List.set_cons_succ]
              try simp only [List.set_cons_zero]
              refine wpAnyH_take (i := 11) (v := .int .i64 x3) rfl (by kernel_rfl) (by kernel_rfl) (by kernel_rfl) (fun _ _ _ h => h) (Or.inl ⟨by rfl, ?_⟩) (by assumption) ?_
              · intro w hSw
                have q := Bk.cell hSw (j := 3) rfl
                go_simp
              try simp only [List.getElem_toArray]
              try simp only [List.getElem_cons_succ]
              try simp only [List.getElem_cons_zero]
              try simp only [Act.put]
              try simp only [List.setIfInBounds_toArray]
              try simp only [List.set_cons_succ]
              try simp only [List.set_cons_zero]
              refine wpAnyH_take (i := 12) (v := .agg #[.int .i64 x1, .int .i64 x2, .int .i64 x3]) rfl (by kernel_rfl) (by kernel_rfl) (by kernel_rfl) (fun _ _ _ h => h) (Or.inl ⟨by rfl, ?_⟩) (by assumption) ?_
              · intro w hSw
                go_simp
              try simp only [List.getElem_toArray]
              try simp only [List.getElem_cons_succ]
              try simp only [List.getElem_cons_zero]
              try simp only [Act.put]
              try simp only [List.setIfInBounds_toArray]
              try simp only [List.set_cons_succ]
              try simp only [List.set_cons_zero]
              refine wpAnyH_take (i := 13) (v := .slice (some ⟨w.heap.size + 1 + 1, 0, none⟩) 13 13) rfl (by kernel_rfl) (by kernel_rfl) (by kernel_rfl) (fun _ _ _ h => h) (Or.inl ⟨by rfl, ?_⟩) (by assumption) ?_
              · intro w hSw
                go_simp
              try simp only [List.getElem_toArray]
              try simp only [List.getElem_cons_succ]
              try simp only [List.getElem_cons_zero]
              try simp only [Act.put]
              try simp only [List.setIfInBounds_toArray]
              try simp only [List.set_cons_succ]
              try simp only [List.set_cons_zero]
              refine wpAnyH_take (i := 14) (v := .pointer (some ⟨w.heap.size + 1 + 1, 4, none⟩)) rfl (by kernel_rfl) (by kernel_rfl) (by kernel_rfl) (fun _ _ _ h => h) (Or.inl ⟨by rfl, ?_⟩) (by assumption) ?_
              · intro w hSw
                go_simp
              try simp only [List.getElem_toArray]
              try simp only [List.getElem_cons_succ]
              try simp only [List.getElem_cons_zero]
              try simp only [Act.put]
              try simp only [List.setIfInBounds_toArray]
              try simp only [List.set_cons_succ]
              try simp only [List.set_cons_zero]
              refine wpAnyH_take (i := 15) (v := .int .i64 x4) rfl (by kernel_rfl) (by kernel_rfl) (by kernel_rfl) (fun _ _ _ h => h) (Or.inl ⟨by rfl, ?_⟩) (by assumption) ?_
              · intro w hSw
                have q := Bk.cell hSw (j := 4) rfl
                go_simp
              try simp only [List.getElem_toArray]
              try simp only [List.getElem_cons_succ]
              try simp only [List.getElem_cons_zero]
              try simp only [Act.put]
              try simp only [List.setIfInBounds_toArray]
              try simp only [List.set_cons_succ]
              try simp only [List.set_cons_zero]
              refine wpAnyH_take (i := 16) (v := .slice (some ⟨w.heap.size + 1 + 1, 0, none⟩) 13 13) rfl (by kernel_rfl) (by kernel_rfl) (by kernel_rfl) (fun _ _ _ h => h) (Or.inl ⟨by rfl, ?_⟩) (by assumption) ?_
              · intro w hSw
                go_simp
              try simp only [List.getElem_toArray]
              try simp only [List.getElem_cons_succ]
              try simp only [List.getElem_cons_zero]
              try simp only [Act.put]
              try simp only [List.setIfInBounds_toArray]
              try simp only [List.set_cons_succ]
              try simp only [List.set_cons_zero]
              refine wpAnyH_take (i := 17) (v := .pointer (some ⟨w.heap.size + 1 + 1, 5, none⟩)) rfl (by kernel_rfl) (by kernel_rfl) (by kernel_rfl) (fun _ _ _ h => h) (Or.inl ⟨by rfl, ?_⟩) (by assumption) ?_
              · intro w hSw
                go_simp
              try simp only [List.getElem_toArray]
              try simp only [List.getElem_cons_succ]
              try simp only [List.getElem_cons_zero]
              try simp only [Act.put]
              try simp only [List.setIfInBounds_toArray]
              try simp only [List.set_cons_succ]
              try simp only [List.set_cons_zero]
              refine wpAnyH_take (i := 18) (v := .int .i64 x5) rfl (by kernel_rfl) (by kernel_rfl) (by kernel_rfl) (fun _ _ _ h => h) (Or.inl ⟨by rfl, ?_⟩) (by assumption) ?_
              · intro w hSw
                have q := Bk.cell hSw (j := 5) rfl
                go_simp
              try simp only [List.getElem_toArray]
              try simp only [List.getElem_cons_succ]
              try simp only [List.getElem_cons_zero]
              try simp only [Act.put]
              try simp only [List.setIfInBounds_toArray]
              try simp only [List.set_cons_succ]
              try simp only [List.set_cons_zero]
              refine wpAnyH_take (i := 19) (v := .slice (some ⟨w.heap.size + 1 + 1, 0, none⟩) 13 13) rfl (by kernel_rfl) (by kernel_rfl) (by kernel_rfl) (fun _ _ _ h => h) (Or.inl ⟨by rfl, ?_⟩) (by assumption) ?_
              · intro w hSw
                go_simp
              try simp only [List.getElem_toArray]
              try simp only [List.getElem_cons_succ]
              try simp only [List.getElem_cons_zero]
              try simp only [Act.put]
              try simp only [List.setIfInBounds_toArray]
              try simp only [List.set_cons_succ]
              try simp only [List.set_cons_zero]
              refine wpAnyH_take (i := 20) (v := .pointer (some ⟨w.heap.size + 1 + 1, 6, none⟩)) rfl (by kernel_rfl) (by kernel_rfl) (by kernel_rfl) (fun _ _ _ h => h) (Or.inl ⟨by rfl, ?_⟩) (by assumption) ?_
              · intro w hSw
                go_simp
              try simp only [List.getElem_toArray]
              try simp only [List.getElem_cons_succ]
              try simp only [List.getElem_cons_zero]
              try simp only [Act.put]
              try simp only [List.setIfInBounds_toArray]
              try simp only [List.set_cons_succ]
              try simp only [List.set_cons_zero]
              refine wpAnyH_take (i := 21) (v := .int .i64 x6) rfl (by kernel_rfl) (by kernel_rfl) (by kernel_rfl) (fun _ _ _ h => h) (Or.inl ⟨by rfl, ?_⟩) (by assumption) ?_
              · intro w hSw
                have q := Bk.cell hSw (j := 6) rfl
                go_simp
              try simp only [List.getElem_toArray]
              try simp only [List.getElem_cons_succ]
              try simp only [List.getElem_cons_zero]
              try simp only [Act.put]
              try simp only [List.setIfInBounds_toArray]
              try simp only [List.set_cons_succ]
              try simp only [List.set_cons_zero]
              refine wpAnyH_take (i := 22) (v := .slice (some ⟨w.heap.size + 1 + 1, 0, none⟩) 13 13) rfl (by kernel_rfl) (by kernel_rfl) (by kernel_rfl) (fun _ _ _ h => h) (Or.inl ⟨by rfl, ?_⟩) (by assumption) ?_
              · intro w hSw
                go_simp
              try simp only [List.getElem_toArray]
              try simp only [List.getElem_cons_succ]
              try simp only [List.getElem_cons_zero]
              try simp only [Act.put]
              try simp only [List.setIfInBounds_toArray]
              try simp only [List.set_cons_succ]
              try simp only [List.set_cons_zero]
              refine wpAnyH_take (i := 23) (v := .pointer (some ⟨w.heap.size + 1 + 1, 10, none⟩)) rfl (by kernel_rfl) (by kernel_rfl) (by kernel_rfl) (fun _ _ _ h => h) (Or.inl ⟨by rfl, ?_⟩) (by assumption) ?_
              · intro w hSw
                go_simp
              try simp only [List.getElem_toArray]
              try simp only [List.getElem_cons_succ]
              try simp only [List.getElem_cons_zero]
              try simp only [Act.put]
              try simp only [List.setIfInBounds_toArray]
              try simp only [List.set_cons_succ]
              try simp only [List.set_cons_zero]
              refine wpAnyH_take (i := 24) (v := .int .i64 y2) rfl (by kernel_rfl) (by kernel_rfl) (by kernel_rfl) (fun _ _ _ h => h) (Or.inl ⟨by rfl, ?_⟩) (by assumption) ?_
              · intro w hSw
                have q := Bk.cell hSw (j := 10) rfl
                go_simp
              try simp only [List.getElem_toArray]
              try simp only [List.getElem_cons_succ]
              try simp only [List.getElem_cons_zero]
              try simp only [Act.put]
              try simp only [List.setIfInBounds_toArray]
              try simp only [List.set_cons_succ]
              try simp only [List.set_cons_zero]
              refine wpAnyH_take (i := 25) (v := .agg #[.int .i64 x0, .int .i64 x1, .int .i64 x2, .int .i64 x3, .int .i64 x4, .int .i64 x5, .int .i64 x6, .int .i64 0, .string ⟨#[]⟩, .string ⟨#[]⟩, .string ⟨#[]⟩, .string ⟨#[]⟩, .int .i64 0, .bool false, .int .i64 y2, .slice none 0 0, .bool false]) rfl (by kernel_rfl) (by kernel_rfl) (by kernel_rfl) (fun _ _ _ h => h) (Or.inl ⟨by rfl, ?_⟩) (by assumption) ?_
              · intro w hSw
                go_simp
              try simp only [List.getElem_toArray]
              try simp only [List.getElem_cons_succ]
              try simp only [List.getElem_cons_zero]
              try simp only [Act.put]
              try simp only [List.setIfInBounds_toArray]
              try simp only [List.set_cons_succ]
              try simp only [List.set_cons_zero]
              refine wpAnyH_ready (rs := [26]) (by kernel_rfl) (by simp) ?_
              refine AllReadyH.cons rfl (fun K1 hK => ?_) AllReadyH.nil
              refine wp_store_row 31 _ _ rfl (w.heap.size + 1) _ rfl rfl 31 _ QDd.out.kI (by kernel_rfl) rfl (by kernel_rfl) ?_
              refine hK.out _ _ ?_ (fun hHeld => ?_)
              · exact (QDd.out.rowI [.int .i64 x0, .int .i64 x1, .int .i64 x2, .int .i64 x3, .int .i64 x4, .int .i64 x5, .int .i64 x6, .int .i64 0, .string ⟨#[]⟩, .string ⟨#[]⟩, .string ⟨#[]⟩, .string ⟨#[]⟩, .int .i64 0, .bool false, .int .i64 y2, .slice none 0 0, .bool false]).kV
              clear hK K1
              try simp only [List.getElem_toArray]
              try simp only [List.getElem_cons_succ]
              try simp only [List.getElem_cons_zero]
              try simp only [Act.put]
              try simp only [List.setIfInBounds_toArray]
              try simp only [List.set_cons_succ]
              try simp only [List.set_cons_zero]
              refine wpAnyH_done (by kernel_rfl) ?_ _
              refine NoPanic.normal ?_
              have QE : Hid (MQ w (wr.drew.setRow (w.heap.size + 1) #[.int .i64 x0, .int .i64 x1, .int .i64 x2, .int .i64 x3, .int .i64 x4, .int .i64 x5, .int .i64 x6, .int .i64 0, .string ⟨#[]⟩, .string ⟨#[]⟩, .string ⟨#[]⟩, .string ⟨#[]⟩, .int .i64 0, .bool false, .int .i64 y2, .slice none 0 0, .bool false]) [.int .i64 x0, .int .i64 x1, .int .i64 x2, .int .i64 x3, .int .i64 x4, .int .i64 x5, .int .i64 x6, .int .i64 0, .string ⟨#[]⟩, .string ⟨#[]⟩, .string ⟨#[]⟩, .string ⟨#[]⟩, .int .i64 0, .bool false, .int .i64 y2, .slice none 0 0, .bool false] [.int .i64 x0, .int .i64 x1, .int .i64 x2, .int .i64 x3, .int .i64 x4, .int .i64 x5, .int .i64 x6, .int .i64 x7, .int .i64 y0, .int .i64 y1, .int .i64 y2, .int .i64 y3, .int .i64 0] [.string s0, .string s1, .string s2, .string s3]) := QDd.out.rowI [.int .i64 x0, .int .i64 x1, .int .i64 x2, .int .i64 x3, .int .i64 x4, .int .i64 x5, .int .i64 x6, .int .i64 0, .string ⟨#[]⟩, .string ⟨#[]⟩, .string ⟨#[]⟩, .string ⟨#[]⟩, .int .i64 0, .bool false, .int .i64 y2, .slice none 0 0, .bool false]
              clear QDd hHeld
              go_wp2_with fail
              generalize wr.drew.setRow (w.heap.size + 1) #[.int .i64 x0, .int .i64 x1, .int .i64 x2, .int .i64 x3, .int .i64 x4, .int .i64 x5, .int .i64 x6, .int .i64 0, .string ⟨#[]⟩, .string ⟨#[]⟩, .string ⟨#[]⟩, .string ⟨#[]⟩, .int .i64 0, .bool false, .int .i64 y2, .slice none 0 0, .bool false] = W1 at *
              have QEd := hid (QE.out.below (below_drew W1))
              refine wp_region_noPanic ?_
              refine wp_region_held_drew (S := fun v => Bk v (w.heap.size + 1 + 1) 3 [.int .i64 x0, .int .i64 x1, .int .i64 x2, .int .i64 x3, .int .i64 x4, .int .i64 x5, .int .i64 x6, .int .i64 x7, .int .i64 y0, .int .i64 y1, .int .i64 y2, .int .i64 y3, .int .i64 0] ∧ Bk v (w.heap.size + 1 + 1 + 1) 9 [.string s0, .string s1, .string s2, .string s3]) (by kernel_rfl) (⟨QEd.out.kV, QEd.out.kS⟩) (fun hHeld => ?_)
              simp only [List.size_toArray, List.length_cons, List.length_nil, Array.replicate_succ, Array.replicate_zero, Nat.reduceAdd, List.push_toArray, List.nil_append, List.cons_append]
              refine wpAnyH_take (i := 0) (v := .slice (some ⟨w.heap.size + 1 + 1, 0, none⟩) 13 13) rfl (by kernel_rfl) (by kernel_rfl) (by kernel_rfl) (fun _ _ _ h => h) (Or.inl ⟨by rfl, ?_⟩) (by assumption) ?_
              · intro w hSw
                go_simp
              try simp only [List.getElem_toArray]
              try simp only [List.getElem_cons_succ]
              try simp only [List.getElem_cons_zero]
              try simp only [Act.put]
              try simp only [List.setIfInBounds_toArray]
              try simp only [List.set_cons_succ]
              try simp only [List.set_cons_zero]
              refine wpAnyH_take (i := 1) (v := .pointer (some ⟨w.heap.size + 1 + 1, 7, none⟩)) rfl (by kernel_rfl) (by kernel_rfl) (by kernel_rfl) (fun _ _ _ h => h) (Or.inl ⟨by rfl, ?_⟩) (by assumption) ?_
              · intro w hSw
                go_simp
              try simp only [List.getElem_toArray]
              try simp only [List.getElem_cons_succ]
              try simp only [List.getElem_cons_zero]
              try simp only [Act.put]
              try simp only [List.setIfInBounds_toArray]
              try simp only [List.set_cons_succ]
              try simp only [List.set_cons_zero]
              refine wpAnyH_take (i := 2) (v := .int .i64 x7) rfl (by kernel_rfl) (by kernel_rfl) (by kernel_rfl) (fun _ _ _ h => h) (Or.inl ⟨by rfl, ?_⟩) (by assumption) ?_
              · intro w hSw
                have q := Bk.cell hSw.1 (j := 7) rfl
                go_simp
              try simp only [List.getElem_toArray]
              try simp only [List.getElem_cons_succ]
              try simp only [List.getElem_cons_zero]
              try simp only [Act.put]
              try simp only [List.setIfInBounds_toArray]
              try simp only [List.set_cons_succ]
              try simp only [List.set_cons_zero]
              refine wpAnyH_take (i := 3) (v := .slice (some ⟨w.heap.size + 1 + 1 + 1, 0, none⟩) 4 4) rfl (by kernel_rfl) (by kernel_rfl) (by kernel_rfl) (fun _ _ _ h => h) (Or.inl ⟨by rfl, ?_⟩) (by assumption) ?_
              · intro w hSw
                go_simp
              try simp only [List.getElem_toArray]
              try simp only [List.getElem_cons_succ]
              try simp only [List.getElem_cons_zero]
              try simp only [Act.put]
              try simp only [List.setIfInBounds_toArray]
              try simp only [List.set_cons_succ]
              try simp only [List.set_cons_zero]
              refine wpAnyH_take (i := 4) (v := .pointer (some ⟨w.heap.size + 1 + 1 + 1, 0, none⟩)) rfl (by kernel_rfl) (by kernel_rfl) (by kernel_rfl) (fun _ _ _ h => h) (Or.inl ⟨by rfl, ?_⟩) (by assumption) ?_
              · intro w hSw
                go_simp
              try simp only [List.getElem_toArray]
              try simp only [List.getElem_cons_succ]
              try simp only [List.getElem_cons_zero]
              try simp only [Act.put]
              try simp only [List.setIfInBounds_toArray]
              try simp only [List.set_cons_succ]
              try simp only [List.set_cons_zero]
              refine wpAnyH_take (i := 5) (v := .string s0) rfl (by kernel_rfl) (by kernel_rfl) (by kernel_rfl) (fun _ _ _ h => h) (Or.inl ⟨by rfl, ?_⟩) (by assumption) ?_
              · intro w hSw
                have q := Bk.cell hSw.2 (j := 0) rfl
                go_simp
              try simp only [List.getElem_toArray]
              try simp only [List.getElem_cons_succ]
              try simp only [List.getElem_cons_zero]
              try simp only [Act.put]
              try simp only [List.setIfInBounds_toArray]
              try simp only [List.set_cons_succ]
              try simp only [List.set_cons_zero]
              refine wpAnyH_take (i := 6) (v := .slice (some ⟨w.heap.size + 1 + 1 + 1, 0, none⟩) 4 4) rfl (by kernel_rfl) (by kernel_rfl) (by kernel_rfl) (fun _ _ _ h => h) (Or.inl ⟨by rfl, ?_⟩) (by assumption) ?_
              · intro w hSw
                go_simp
              try simp only [List.getElem_toArray]
              try simp only [List.getElem_cons_succ]
              try simp only [List.getElem_cons_zero]
              try simp only [Act.put]
              try simp only [List.setIfInBounds_toArray]
              try simp only [List.set_cons_succ]
              try simp only [List.set_cons_zero]
              refine wpAnyH_take (i := 7) (v := .pointer (some ⟨w.heap.size + 1 + 1 + 1, 1, none⟩)) rfl (by kernel_rfl) (by kernel_rfl) (by kernel_rfl) (fun _ _ _ h => h) (Or.inl ⟨by rfl, ?_⟩) (by assumption) ?_
              · intro w hSw
                go_simp
              try simp only [List.getElem_toArray]
              try simp only [List.getElem_cons_succ]
              try simp only [List.getElem_cons_zero]
              try simp only [Act.put]
              try simp only [List.setIfInBounds_toArray]
              try simp only [List.set_cons_succ]
              try simp only [List.set_cons_zero]
              refine wpAnyH_take (i := 8) (v := .string s1) rfl (by kernel_rfl) (by kernel_rfl) (by kernel_rfl) (fun _ _ _ h => h) (Or.inl ⟨by rfl, ?_⟩) (by assumption) ?_
              · intro w hSw
                have q := Bk.cell hSw.2 (j := 1) rfl
                go_simp
              try simp only [List.getElem_toArray]
              try simp only [List.getElem_cons_succ]
              try simp only [List.getElem_cons_zero]
              try simp only [Act.put]
              try simp only [List.setIfInBounds_toArray]
              try simp only [List.set_cons_succ]
              try simp only [List.set_cons_zero]
              refine wpAnyH_take (i := 9) (v := .slice (some ⟨w.heap.size + 1 + 1 + 1, 0, none⟩) 4 4) rfl (by kernel_rfl) (by kernel_rfl) (by kernel_rfl) (fun _ _ _ h => h) (Or.inl ⟨by rfl, ?_⟩) (by assumption) ?_
              · intro w hSw
                go_simp
              try simp only [List.getElem_toArray]
              try simp only [List.getElem_cons_succ]
              try simp only [List.getElem_cons_zero]
              try simp only [Act.put]
              try simp only [List.setIfInBounds_toArray]
              try simp only [List.set_cons_succ]
              try simp only [List.set_cons_zero]
              refine wpAnyH_take (i := 10) (v := .pointer (some ⟨w.heap.size + 1 + 1 + 1, 2, none⟩)) rfl (by kernel_rfl) (by kernel_rfl) (by kernel_rfl) (fun _ _ _ h => h) (Or.inl ⟨by rfl, ?_⟩) (by assumption) ?_
              · intro w hSw
                go_simp
              try simp only [List.getElem_toArray]
              try simp only [List.getElem_cons_succ]
              try simp only [List.getElem_cons_zero]
              try simp only [Act.put]
              try simp only [List.setIfInBounds_toArray]
              try simp only [List.set_cons_succ]
              try simp only [List.set_cons_zero]
              refine wpAnyH_take (i := 11) (v := .string s2) rfl (by kernel_rfl) (by kernel_rfl) (by kernel_rfl) (fun _ _ _ h => h) (Or.inl ⟨by rfl, ?_⟩) (by assumption) ?_
              · intro w hSw
                have q := Bk.cell hSw.2 (j := 2) rfl
                go_simp
              try simp only [List.getElem_toArray]
              try simp only [List.getElem_cons_succ]
              try simp only [List.getElem_cons_zero]
              try simp only [Act.put]
              try simp only [List.setIfInBounds_toArray]
              try simp only [List.set_cons_succ]
              try simp only [List.set_cons_zero]
              refine wpAnyH_take (i := 12) (v := .slice (some ⟨w.heap.size + 1 + 1 + 1, 0, none⟩) 4 4) rfl (by kernel_rfl) (by kernel_rfl) (by kernel_rfl) (fun _ _ _ h => h) (Or.inl ⟨by rfl, ?_⟩) (by assumption) ?_
              · intro w hSw
                go_simp
              try simp only [List.getElem_toArray]
              try simp only [List.getElem_cons_succ]
              try simp only [List.getElem_cons_zero]
              try simp only [Act.put]
              try simp only [List.setIfInBounds_toArray]
              try simp only [List.set_cons_succ]
              try simp only [List.set_cons_zero]
              refine wpAnyH_take (i := 13) (v := .pointer (some ⟨w.heap.size + 1 + 1 + 1, 3, none⟩)) rfl (by kernel_rfl) (by kernel_rfl) (by kernel_rfl) (fun _ _ _ h => h) (Or.inl ⟨by rfl, ?_⟩) (by assumption) ?_
              · intro w hSw
                go_simp
              try simp only [List.getElem_toArray]
              try simp only [List.getElem_cons_succ]
              try simp only [List.getElem_cons_zero]
              try simp only [Act.put]
              try simp only [List.setIfInBounds_toArray]
              try simp only [List.set_cons_succ]
              try simp only [List.set_cons_zero]
              refine wpAnyH_take (i := 14) (v := .string s3) rfl (by kernel_rfl) (by kernel_rfl) (by kernel_rfl) (fun _ _ _ h => h) (Or.inl ⟨by rfl, ?_⟩) (by assumption) ?_
              · intro w hSw
                have q := Bk.cell hSw.2 (j := 3) rfl
                go_simp
              try simp only [List.getElem_toArray]
              try simp only [List.getElem_cons_succ]
              try simp only [List.getElem_cons_zero]
              try simp only [Act.put]
              try simp only [List.setIfInBounds_toArray]
              try simp only [List.set_cons_succ]
              try simp only [List.set_cons_zero]
              refine wpAnyH_take (i := 15) (v := .agg #[.string s2, .string s3]) rfl (by kernel_rfl) (by kernel_rfl) (by kernel_rfl) (fun _ _ _ h => h) (Or.inl ⟨by rfl, ?_⟩) (by assumption) ?_
              · intro w hSw
                go_simp
              try simp only [List.getElem_toArray]
              try simp only [List.getElem_cons_succ]
              try simp only [List.getElem_cons_zero]
              try simp only [Act.put]
              try simp only [List.setIfInBounds_toArray]
              try simp only [List.set_cons_succ]
              try simp only [List.set_cons_zero]
              refine wpAnyH_take (i := 16) (v := .slice (some ⟨w.heap.size + 1 + 1, 0, none⟩) 13 13) rfl (by kernel_rfl) (by kernel_rfl) (by kernel_rfl) (fun _ _ _ h => h) (Or.inl ⟨by rfl, ?_⟩) (by assumption) ?_
              · intro w hSw
                go_simp
              try simp only [List.getElem_toArray]
              try simp only [List.getElem_cons_succ]
              try simp only [List.getElem_cons_zero]
              try simp only [Act.put]
              try simp only [List.setIfInBounds_toArray]
              try simp only [List.set_cons_succ]
              try simp only [List.set_cons_zero]
              refine wpAnyH_take (i := 17) (v := .pointer (some ⟨w.heap.size + 1 + 1, 8, none⟩)) rfl (by kernel_rfl) (by kernel_rfl) (by kernel_rfl) (fun _ _ _ h => h) (Or.inl ⟨by rfl, ?_⟩) (by assumption) ?_
              · intro w hSw
                go_simp
              try simp only [List.getElem_toArray]
              try simp only [List.getElem_cons_succ]
              try simp only [List.getElem_cons_zero]
              try simp only [Act.put]
              try simp only [List.setIfInBounds_toArray]
              try simp only [List.set_cons_succ]
              try simp only [List.set_cons_zero]
              refine wpAnyH_take (i := 18) (v := .int .i64 y0) rfl (by kernel_rfl) (by kernel_rfl) (by kernel_rfl) (fun _ _ _ h => h) (Or.inl ⟨by rfl, ?_⟩) (by assumption) ?_
              · intro w hSw
                have q := Bk.cell hSw.1 (j := 8) rfl
                go_simp
              try simp only [List.getElem_toArray]
              try simp only [List.getElem_cons_succ]
              try simp only [List.getElem_cons_zero]
              try simp only [Act.put]
              try simp only [List.setIfInBounds_toArray]
              try simp only [List.set_cons_succ]
              try simp only [List.set_cons_zero]
              refine wpAnyH_take (i := 19) (v := .slice (some ⟨w.heap.size + 1 + 1, 0, none⟩) 13 13) rfl (by kernel_rfl) (by kernel_rfl) (by kernel_rfl) (fun _ _ _ h => h) (Or.inl ⟨by rfl, ?_⟩) (by assumption) ?_
              · intro w hSw
                go_simp
              try simp only [List.getElem_toArray]
              try simp only [List.getElem_cons_succ]
              try simp only [List.getElem_cons_zero]
              try simp only [Act.put]
              try simp only [List.setIfInBounds_toArray]
              try simp only [List.set_cons_succ]
              try simp only [List.set_cons_zero]
              refine wpAnyH_take (i := 20) (v := .pointer (some ⟨w.heap.size + 1 + 1, 9, none⟩)) rfl (by kernel_rfl) (by kernel_rfl) (by kernel_rfl) (fun _ _ _ h => h) (Or.inl ⟨by rfl, ?_⟩) (by assumption) ?_
              · intro w hSw
                go_simp
              try simp only [List.getElem_toArray]
              try simp only [List.getElem_cons_succ]
              try simp only [List.getElem_cons_zero]
              try simp only [Act.put]
              try simp only [List.setIfInBounds_toArray]
              try simp only [List.set_cons_succ]
              try simp only [List.set_cons_zero]
              refine wpAnyH_take (i := 21) (v := .int .i64 y1) rfl (by kernel_rfl) (by kernel_rfl) (by kernel_rfl) (fun _ _ _ h => h) (Or.inl ⟨by rfl, ?_⟩) (by assumption) ?_
              · intro w hSw
                have q := Bk.cell hSw.1 (j := 9) rfl
                go_simp
              try simp only [List.getElem_toArray]
              try simp only [List.getElem_cons_succ]
              try simp only [List.getElem_cons_zero]
              try simp only [Act.put]
              try simp only [List.setIfInBounds_toArray]
              try simp only [List.set_cons_succ]
              try simp only [List.set_cons_zero]
              refine wpAnyH_take (i := 22) (v := .bool (y1 == 1)) rfl (by kernel_rfl) (by kernel_rfl) (by kernel_rfl) (fun _ _ _ h => h) (Or.inl ⟨by rfl, ?_⟩) (by assumption) ?_
              · intro w hSw
                go_simp
              try simp only [List.getElem_toArray]
              try simp only [List.getElem_cons_succ]
              try simp only [List.getElem_cons_zero]
              try simp only [Act.put]
              try simp only [List.setIfInBounds_toArray]
              try simp only [List.set_cons_succ]
              try simp only [List.set_cons_zero]
              refine wpAnyH_take (i := 23) (v := .agg #[.int .i64 x7, .string s0, .string s1, .string s2, .string s3, .int .i64 y0, .bool (y1 == 1)]) rfl (by kernel_rfl) (by kernel_rfl) (by kernel_rfl) (fun _ _ _ h => h) (Or.inl ⟨by rfl, ?_⟩) (by assumption) ?_
              · intro w hSw
                go_simp
              try simp only [List.getElem_toArray]
              try simp only [List.getElem_cons_succ]
              try simp only [List.getElem_cons_zero]
              try simp only [Act.put]
              try simp only [List.setIfInBounds_toArray]
              try simp only [List.set_cons_succ]
              try simp only [List.set_cons_zero]
              refine wpAnyH_take (i := 24) (v := .pointer (some ⟨w.heap.size + 1, 7, none⟩)) rfl (by kernel_rfl) (by kernel_rfl) (by kernel_rfl) (fun _ _ _ h => h) (Or.inl ⟨by rfl, ?_⟩) (by assumption) ?_
              · intro w hSw
                go_simp
              try simp only [List.getElem_toArray]
              try simp only [List.getElem_cons_succ]
              try simp only [List.getElem_cons_zero]
              try simp only [Act.put]
              try simp only [List.setIfInBounds_toArray]
              try simp only [List.set_cons_succ]
              try simp only [List.set_cons_zero]
              have QF : Hid (MQ w (((((((W1.setCell ⟨w.heap.size + 1, 7, none⟩ (.int .i64 x7)).setCell ⟨w.heap.size + 1, 8, none⟩ (.string s0)).setCell ⟨w.heap.size + 1, 9, none⟩ (.string s1)).setCell ⟨w.heap.size + 1, 10, none⟩ (.string s2)).setCell ⟨w.heap.size + 1, 11, none⟩ (.string s3)).setCell ⟨w.heap.size + 1, 12, none⟩ (.int .i64 y0)).setCell ⟨w.heap.size + 1, 13, none⟩ (.bool (y1 == 1))).drew [.int .i64 x0, .int .i64 x1, .int .i64 x2, .int .i64 x3, .int .i64 x4, .int .i64 x5, .int .i64 x6, .int .i64 x7, .string s0, .string s1, .string s2, .string s3, .int .i64 y0, .bool (y1 == 1), .int .i64 y2, .slice none 0 0, .bool false] [.int .i64 x0, .int .i64 x1, .int .i64 x2, .int .i64 x3, .int .i64 x4, .int .i64 x5, .int .i64 x6, .int .i64 x7, .int .i64 y0, .int .i64 y1, .int .i64 y2, .int .i64 y3, .int .i64 0] [.string s0, .string s1, .string s2, .string s3]) := (((((((QE.out.setIE 7 (.int .i64 x7) (ys := [.int .i64 x0, .int .i64 x1, .int .i64 x2, .int .i64 x3, .int .i64 x4, .int .i64 x5, .int .i64 x6, .int .i64 x7, .string ⟨#[]⟩, .string ⟨#[]⟩, .string ⟨#[]⟩, .string ⟨#[]⟩, .int .i64 0, .bool false, .int .i64 y2, .slice none 0 0, .bool false]) rfl).setIE 8 (.string s0) (ys := [.int .i64 x0, .int .i64 x1, .int .i64 x2, .int .i64 x3, .int .i64 x4, .int .i64 x5, .int .i64 x6, .int .i64 x7, .string s0, .string ⟨#[]⟩, .string ⟨#[]⟩, .string ⟨#[]⟩, .int .i64 0, .bool false, .int .i64 y2, .slice none 0 0, .bool false]) rfl).setIE 9 (.string s1) (ys := [.int .i64 x0, .int .i64 x1, .int .i64 x2, .int .i64 x3, .int .i64 x4, .int .i64 x5, .int .i64 x6, .int .i64 x7, .string s0, .string s1, .string ⟨#[]⟩, .string ⟨#[]⟩, .int .i64 0, .bool false, .int .i64 y2, .slice none 0 0, .bool false]) rfl).setIE 10 (.string s2) (ys := [.int .i64 x0, .int .i64 x1, .int .i64 x2, .int .i64 x3, .int .i64 x4, .int .i64 x5, .int .i64 x6, .int .i64 x7, .string s0, .string s1, .string s2, .string ⟨#[]⟩, .int .i64 0, .bool false, .int .i64 y2, .slice none 0 0, .bool false]) rfl).setIE 11 (.string s3) (ys := [.int .i64 x0, .int .i64 x1, .int .i64 x2, .int .i64 x3, .int .i64 x4, .int .i64 x5, .int .i64 x6, .int .i64 x7, .string s0, .string s1, .string s2, .string s3, .int .i64 0, .bool false, .int .i64 y2, .slice none 0 0, .bool false]) rfl).setIE 12 (.int .i64 y0) (ys := [.int .i64 x0, .int .i64 x1, .int .i64 x2, .int .i64 x3, .int .i64 x4, .int .i64 x5, .int .i64 x6, .int .i64 x7, .string s0, .string s1, .string s2, .string s3, .int .i64 y0, .bool false, .int .i64 y2, .slice none 0 0, .bool false]) rfl).setIE 13 (.bool (y1 == 1)) (ys := [.int .i64 x0, .int .i64 x1, .int .i64 x2, .int .i64 x3, .int .i64 x4, .int .i64 x5, .int .i64 x6, .int .i64 x7, .string s0, .string s1, .string s2, .string s3, .int .i64 y0, .bool (y1 == 1), .int .i64 y2, .slice none 0 0, .bool false]) rfl).below (below_drew _)
              have c7 := QE.out.kI.cell (j := 7) rfl
              have f7 := QE.out.kI.free 7
              have c8 := QE.out.kI.cell (j := 8) rfl
              have f8 := QE.out.kI.free 8
              have c9 := QE.out.kI.cell (j := 9) rfl
              have f9 := QE.out.kI.free 9
              have c10 := QE.out.kI.cell (j := 10) rfl
              have f10 := QE.out.kI.free 10
              have c11 := QE.out.kI.cell (j := 11) rfl
              have f11 := QE.out.kI.free 11
              have c12 := QE.out.kI.cell (j := 12) rfl
              have f12 := QE.out.kI.free 12
              have c13 := QE.out.kI.cell (j := 13) rfl
              have f13 := QE.out.kI.free 13
              refine wpAnyH_ready (rs := [25]) (by kernel_rfl) (by simp) ?_
              refine AllReadyH.cons rfl (fun K1 hK => ?_) AllReadyH.nil
              go_simp
              refine hK.out _ _ ?_ (fun hHeld => ?_)
              · exact ⟨QF.out.kV, QF.out.kS⟩
              clear hK K1
              try simp only [List.getElem_toArray]
              try simp only [List.getElem_cons_succ]
              try simp only [List.getElem_cons_zero]
              try simp only [Act.put]
              try simp only [List.setIfInBounds_toArray]
              try simp only [List.set_cons_succ]
              try simp only [List.set_cons_zero]
              refine wpAnyH_done (by kernel_rfl) ?_ _
              refine NoPanic.normal ?_
              clear hHeld QEd QE c7 f7 c8 f8 c9 f9 c10 f10 c11 f11 c12 f12 c13 f13
              go_wp2_with fail
              generalize (((((((W1.setCell ⟨w.heap.size + 1, 7, none⟩ (.int .i64 x7)).setCell ⟨w.heap.size + 1, 8, none⟩ (.string s0)).setCell ⟨w.heap.size + 1, 9, none⟩ (.string s1)).setCell ⟨w.heap.size + 1, 10, none⟩ (.string s2)).setCell ⟨w.heap.size + 1, 11, none⟩ (.string s3)).setCell ⟨w.heap.size + 1, 12, none⟩ (.int .i64 y0)).setCell ⟨w.heap.size + 1, 13, none⟩ (.bool (y1 == 1))).drew = W2 at *
              go_loopw [7, 11] (fun p i wr => ∃ (j : Nat) (q : Int) (l : List PB) (va : Option Addr) (vn vc : Nat), j ≤ 9 ∧ (j : Int) ≤ max 0 (min y3 9) ∧ i = .int .i64 j ∧ p = .int .i64 q ∧ Hid (l.length = j) ∧ Hid (PRd zs Q3 l q) ∧ q ≤ 281474976710656 ∧ Hid (MQ w wr [.int .i64 x0, .int .i64 x1, .int .i64 x2, .int .i64 x3, .int .i64 x4, .int .i64 x5, .int .i64 x6, .int .i64 x7, .string s0, .string s1, .string s2, .string s3, .int .i64 y0, .bool (y1 == 1), .int .i64 y2, .slice va vn vc, .bool false] [.int .i64 x0, .int .i64 x1, .int .i64 x2, .int .i64 x3, .int .i64 x4, .int .i64 x5, .int .i64 x6, .int .i64 x7, .int .i64 y0, .int .i64 y1, .int .i64 y2, .int .i64 y3, .int .i64 0] [.string s0, .string s1, .string s2, .string s3]) ∧ Hid (oqW wr (w.heap.size + 1 + 1 + 1 + 1) (.slice va vn vc) l)) (fun _ i _ => 9 - (intOf i).toNat)
              case atStart => exact ⟨0, _, [], none, 0, 0, Nat.zero_le _, by omega, rfl, rfl, rfl, rfl, hq, QF.out, oqw_nil _ _⟩
              case round =>
                obtain ⟨j, q, l, va, vn, vc, hj, hjm, rfl, rfl, HL, HP, hq2, HQ, HW⟩ := hrel
                clear QF
                have c11 := HQ.out.kV.cell (j := 11) rfl
                by_cases hgo : (j : Int) < y3 ∧ j ≤ 8
                · obtain ⟨g1, g2⟩ := hgo
                  have g2' : (j : Int) ≤ 8 := by omega
                  have hmx : ((j + 1 : Nat) : Int) ≤ max 0 (min y3 9) := by omega
                  have hbN := below_new (o := .cells #[.string ⟨#[]⟩, .string ⟨#[]⟩] 69) (w := wr) (Below.refl _ _)
                  have QA := hid (HQ.out.below hbN)
                  have OA := hid (HW.out.below hbN)
                  have KA := hid (Bk.new wr 69 [.string ⟨#[]⟩, .string ⟨#[]⟩])
                  have HLB : Hid (∀ y, (Value.slice va vn vc).ownBlock = some y → w.heap.size + 1 + 1 + 1 + 1 ≤ y ∧ y < wr.heap.size) := fun y hy => HW.out.lt hy
                  have hsz : w.heap.size + 1 + 1 + 1 < wr.heap.size := HQ.out.kS.lt
                  have RA := hid (H0.out.kept QA.out.bel)
                  have HB1 : Hid ((gt zs q).2 ≤ 281474976710656) := gt_qb RA.out q
                  obtain ⟨sA, qA, hsA⟩ : ∃ x y, (strOf (gt zs q).1, (gt zs q).2) = (x, y) := ⟨_, _, rfl⟩
                  obtain ⟨sB, qB, hsB⟩ : ∃ x y, (strOf (gt zs qA).1, (gt zs qA).2) = (x, y) := ⟨_, _, rfl⟩
                  have HPN : Hid (PRd zs Q3 (l ++ [(sA, sB)]) qB) := HP.out.snoc ⟨qA, hsA, qB, hsB, rfl⟩
                  have CA := hid (specGetText_any a n c zs q _ RA.out (by omega))
                  rw [(Prod.mk.inj hsA).1, (Prod.mk.inj hsA).2] at CA
                  rw [(Prod.mk.inj hsA).2] at HB1
                  have hqA := HB1.out
                  clear HQ HW HP hbN HB1
                  go_wp2_with fail
                  refine CA.out.mono ?_
                  generalize wr.alloc (.cells #[.string ⟨#[]⟩, .string ⟨#[]⟩] 69) = U at *
                  generalize wr.heap.size = bp at *
                  rintro r w2 ⟨rfl, hb⟩
                  have Q2 := hid (QA.out.below hb)
                  have O2 := hid (OA.out.below hb)
                  have K2 := hid (KA.out.below hb)
                  clear hb QA OA KA RA CA c11
                  have ho : Only (fun y => y = bp) w2 (w2.setCell ⟨bp, 0, none⟩ (.string sA)) := only_set (R := fun y => y = bp) (p := ⟨bp, 0, none⟩) rfl _
                  have Q2s := hid (Q2.out.to ho (fun y hy => by omega))
                  have O2s := hid (O2.out.to ho (fun y hy e => by have := HLB.out y hy; omega))
                  have K2s : Hid (Bk (w2.setCell ⟨bp, 0, none⟩ (.string sA)) bp 69 [.string sA, .string ⟨#[]⟩]) := K2.out.set 0 _
                  have u0 := K2.out.cell (j := 0) rfl
                  have v0 := K2.out.free 0
                  have RB := hid (H0.out.kept Q2s.out.bel)
                  have HB2 : Hid ((gt zs qA).2 ≤ 281474976710656) := gt_qb RB.out qA
                  have CB := hid (specGetText_any a n c zs qA _ RB.out (by omega))
                  rw [(Prod.mk.inj hsB).1, (Prod.mk.inj hsB).2] at CB
                  rw [(Prod.mk.inj hsB).2] at HB2
                  have hqB := HB2.out
                  clear HB2 ho
                  go_wp2_with fail
                  refine CB.out.mono ?_
                  generalize w2.setCell ⟨bp, 0, none⟩ (.string sA) = X2 at *
                  rintro r w3 ⟨rfl, hb⟩
                  have Q3a := hid (Q2s.out.below hb)
                  have O3 := hid (O2s.out.below hb)
                  have K3 := hid (K2s.out.below hb)
                  clear hb Q2 O2 K2 Q2s O2s K2s RB CB u0 v0 hsA hsB
                  have ho : Only (fun y => y = bp) w3 (w3.setCell ⟨bp, 1, none⟩ (.string sB)) := only_set (R := fun y => y = bp) (p := ⟨bp, 1, none⟩) rfl _
                  have Q3s := hid (Q3a.out.to ho (fun y hy => by omega))
                  have O3s := hid (O3.out.to ho (fun y hy e => by have := HLB.out y hy; omega))
                  have K3s : Hid (Bk (w3.setCell ⟨bp, 1, none⟩ (.string sB)) bp 69 [.string sA, .string sB]) := K3.out.set 1 _
                  have u1 := K3.out.cell (j := 1) rfl
                  have v1 := K3.out.free 1
                  go_upto_region 26 with (fail)
                  generalize w3.setCell ⟨bp, 1, none⟩ (.string sB) = X3 at *
                  clear u1 v1 Q3a O3 K3 ho
                  have u0 := K3s.out.cell (j := 0) rfl
                  have u1 := K3s.out.cell (j := 1) rfl
                  have u15 := Q3s.out.kI.cell (j := 15) rfl
                  have hbM := below_new (o := .cells #[.string sA, .string sB] 69) (w := X3) (Below.refl _ _)
                  have Q4 := hid (Q3s.out.below hbM)
                  have O4 := hid (O3s.out.below hbM)
                  have K4 := hid (Bk.new X3 69 (pcs [(sA, sB)]))
                  have S4 : Hid (w.heap.size + 1 + 1 + 1 + 1 ≤ (X3.alloc (.cells #[.string sA, .string sB] 69)).heap.size) := Q4.out.kS.lt
                  have hl2 : l.length ≤ 9 := by rw [HL.out]; exact hj
                  have HLN : Hid ((l ++ [(sA, sB)]).length = j + 1) := by show _ = _; rw [List.length_append, HL.out]; rfl
                  clear hbM
                  have HQ5 : Hid (∀ v5, Only (fun y => (Value.slice va vn vc).ownBlock = some y) (X3.alloc (.cells #[.string sA, .string sB] 69)) v5 → MQ w v5 [.int .i64 x0, .int .i64 x1, .int .i64 x2, .int .i64 x3, .int .i64 x4, .int .i64 x5, .int .i64 x6, .int .i64 x7, .string s0, .string s1, .string s2, .string s3, .int .i64 y0, .bool (y1 == 1), .int .i64 y2, .slice va vn vc, .bool false] [.int .i64 x0, .int .i64 x1, .int .i64 x2, .int .i64 x3, .int .i64 x4, .int .i64 x5, .int .i64 x6, .int .i64 x7, .int .i64 y0, .int .i64 y1, .int .i64 y2, .int .i64 y3, .int .i64 0] [.string s0, .string s1, .string s2, .string s3]) := fun v5 ho5 => Q4.out.to ho5 (fun y hy => by have := HLB.out y hy; omega)
                  go_wp2_with (at_builtin; refine wpList_append_pairs rfl _ _ rfl (w.heap.size + 1 + 1 + 1 + 1) _ l rfl O4.out (fun _ => True) _ [(sA, sB)] rfl (K4.out.pr rfl (by simp) (fun _ => True) trivial) (by simp; omega) S4.out ?_; intro v' w5 hO hg; clear u15; obtain ⟨xa, xn, xc, hv5, _⟩ := Ow.shape' hO; subst hv5; have Q5 := hid (HQ5.out _ (only_of_grown hg (fun k e => e))); have u15 := Q5.out.kI.cell (j := 15) rfl; have v15 := Q5.out.kI.free 15; have O5 : Hid (oqW w5 (w.heap.size + 1 + 1 + 1 + 1) (.slice xa xn xc) (l ++ [(sA, sB)])) := hO; clear hO hg)
                  have Q6 : Hid (MQ w (w5.setCell ⟨w.heap.size + 1, 15, none⟩ (.slice xa xn xc)) [.int .i64 x0, .int .i64 x1, .int .i64 x2, .int .i64 x3, .int .i64 x4, .int .i64 x5, .int .i64 x6, .int .i64 x7, .string s0, .string s1, .string s2, .string s3, .int .i64 y0, .bool (y1 == 1), .int .i64 y2, .slice xa xn xc, .bool false] [.int .i64 x0, .int .i64 x1, .int .i64 x2, .int .i64 x3, .int .i64 x4, .int .i64 x5, .int .i64 x6, .int .i64 x7, .int .i64 y0, .int .i64 y1, .int .i64 y2, .int .i64 y3, .int .i64 0] [.string s0, .string s1, .string s2, .string s3]) := Q5.out.setIE 15 _ rfl
                  have O6 := hid (O5.out.to (only_set (R := fun y => y = w.heap.size + 1) (p := ⟨w.heap.size + 1, 15, none⟩) rfl (.slice xa xn xc)) (fun y hy e => by have := O5.out.lt hy; omega))
                  clear Q4 O4 K4 S4 u0 u1 Q3s O3s K3s Q5 O5 HQ5
                  go_wp2
                  go_roundw
                  case rel => exact ⟨j + 1, qB, l ++ [(sA, sB)], xa, xn, xc, by omega, hmx, by go_num, rfl, HLN.out, HPN.out, hqB, Q6.out, O6.out⟩
                  case measure => simp [intOf]; omega
                · have HLM : Hid ((l.length : Int) = max 0 (min y3 9)) := by show _ = _; rw [HL.out]; omega
                  by_cases g1 : (j : Int) < y3
                  · have g2 : ¬ (j : Int) ≤ 8 := by omega
                    clear hgo hjm HL
                    obtain ⟨xy, Q5, hxy⟩ : ∃ x y, gv zs q = (x, y) := ⟨_, _, rfl⟩
                    have RA := hid (H0.out.kept HQ.out.bel)
                    have CA := hid (specGetVar_any a n c zs q _ RA.out (by omega))
                    rw [hxy] at CA
                    have HTR : Hid (Trc 9 zs ⟨x0, x1, x2, x3, x4, x5, x6, x7, s0, s1, s2, s3, y0, y1 == 1, y2, l, xy == 1⟩) := ⟨Q1, Q2, Q3, q, Q5, y1, y3, xy, HN1.out, HN2.out, HN3.out, HP.out, HLM.out, ⟨Q5, hxy, rfl⟩, (by show (y1 == 1) = decide (y1 = 1); by_cases e : y1 = 1 <;> simp [e]), (by show (xy == 1) = decide (xy = 1); by_cases e : xy = 1 <;> simp [e])⟩
                    go_wp2_with fail
                    refine CA.out.mono ?_
                    clear c11 CA RA HN1 HN2 HN3 HP HLM
                    rintro r w2 ⟨rfl, hb⟩
                    have Q2a := hid (HQ.out.below hb)
                    have O2 := hid (HW.out.below hb)
                    clear hb HQ HW
                    have u12 := Q2a.out.kV.cell (j := 12) rfl
                    have v12 := Q2a.out.kV.free 12
                    have Q2s : Hid (MQ w (w2.setCell ⟨w.heap.size + 1 + 1, 12, none⟩ (.int .i64 xy)) [.int .i64 x0, .int .i64 x1, .int .i64 x2, .int .i64 x3, .int .i64 x4, .int .i64 x5, .int .i64 x6, .int .i64 x7, .string s0, .string s1, .string s2, .string s3, .int .i64 y0, .bool (y1 == 1), .int .i64 y2, .slice va vn vc, .bool false] [.int .i64 x0, .int .i64 x1, .int .i64 x2, .int .i64 x3, .int .i64 x4, .int .i64 x5, .int .i64 x6, .int .i64 x7, .int .i64 y0, .int .i64 y1, .int .i64 y2, .int .i64 y3, .int .i64 xy] [.string s0, .string s1, .string s2, .string s3]) := Q2a.out.setVE 12 _ rfl
                    have O2s := hid (O2.out.to (only_set (R := fun y => y = w.heap.size + 1 + 1) (p := ⟨w.heap.size + 1 + 1, 12, none⟩) rfl (.int .i64 xy)) (fun y hy e => by have := O2.out.lt hy; omega))
                    go_upto_region 28 with (fail)
                    generalize w2.setCell ⟨w.heap.size + 1 + 1, 12, none⟩ (.int .i64 xy) = X2 at *
                    clear u12 v12 Q2a O2
                    have u12 := Q2s.out.kV.cell (j := 12) rfl
                    have u16 := Q2s.out.kI.cell (j := 16) rfl
                    have v16 := Q2s.out.kI.free 16
                    have Q3s : Hid (MQ w (X2.setCell ⟨w.heap.size + 1, 16, none⟩ (.bool (xy == 1))) [.int .i64 x0, .int .i64 x1, .int .i64 x2, .int .i64 x3, .int .i64 x4, .int .i64 x5, .int .i64 x6, .int .i64 x7, .string s0, .string s1, .string s2, .string s3, .int .i64 y0, .bool (y1 == 1), .int .i64 y2, .slice va vn vc, .bool (xy == 1)] [.int .i64 x0, .int .i64 x1, .int .i64 x2, .int .i64 x3, .int .i64 x4, .int .i64 x5, .int .i64 x6, .int .i64 x7, .int .i64 y0, .int .i64 y1, .int .i64 y2, .int .i64 y3, .int .i64 xy] [.string s0, .string s1, .string s2, .string s3]) := Q2s.out.setIE 16 _ rfl
                    have O3s := hid (O2s.out.to (only_set (R := fun y => y = w.heap.size + 1) (p := ⟨w.heap.size + 1, 16, none⟩) rfl (.bool (xy == 1))) (fun y hy e => by have := O2s.out.lt hy; omega))
                    go_upto_region 29 with (fail)
                    generalize X2.setCell ⟨w.heap.size + 1, 16, none⟩ (.bool (xy == 1)) = X3 at *
                    clear u12 u16 v16 Q2s O2s
                    have C2 := hid (specMsgBytes_any (fun _ => True) l x0 x1 x2 x3 x4 x5 x6 x7 s0 s1 s2 s3 y0 (y1 == 1) y2 va vn vc (xy == 1) X3 O3s.out.r)
                    go_wp2_with (refine wpList_load_row rfl 31 _ rfl (w.heap.size + 1) rfl 31 _ (0, 0) _ Q3s.out.kI Tryd.underlying31 rfl (by kernel_rfl) ?_)
                    refine C2.out.mono ?_
                    clear C2
                    intro r w3 hp
                    obtain ⟨hb3, hp⟩ := hp
                    have Q4 := hid (Q3s.out.below hb3)
                    have O4 := hid (O3s.out.below hb3)
                    clear Q3s O3s hb3
                    have HNO : Hid ((⟨x0, x1, x2, x3, x4, x5, x6, x7, s0, s1, s2, s3, y0, y1 == 1, y2, l, xy == 1⟩ : MS).bytes ≠ some zs → ∀ m' : MS, m'.bytes ≠ some zs) := fun hne m' hm' => hne (by rw [trc_bytes (by omega) HTR.out hm']; exact hm')
                    have NE : Hid (Below w.heap.size w (w3.setRow w.heap.size #[.int .i64 0, .int .i64 0, .int .i64 0, .int .i64 0, .int .i64 0, .int .i64 0, .int .i64 0, .int .i64 0, .string ⟨#[]⟩, .string ⟨#[]⟩, .string ⟨#[]⟩, .string ⟨#[]⟩, .int .i64 0, .bool false, .int .i64 0, .slice none 0 0, .bool false]) ∧ Bk (w3.setRow w.heap.size #[.int .i64 0, .int .i64 0, .int .i64 0, .int .i64 0, .int .i64 0, .int .i64 0, .int .i64 0, .int .i64 0, .string ⟨#[]⟩, .string ⟨#[]⟩, .string ⟨#[]⟩, .string ⟨#[]⟩, .int .i64 0, .bool false, .int .i64 0, .slice none 0 0, .bool false]) w.heap.size 31 [.int .i64 0, .int .i64 0, .int .i64 0, .int .i64 0, .int .i64 0, .int .i64 0, .int .i64 0, .int .i64 0, .string ⟨#[]⟩, .string ⟨#[]⟩, .string ⟨#[]⟩, .string ⟨#[]⟩, .int .i64 0, .bool false, .int .i64 0, .slice none 0 0, .bool false]) := ⟨Q4.out.bel.trans ((only_setRow (R := fun y => y = w.heap.size) rfl _).below Q4.out.bel.size (fun b hb e => by omega)), Q4.out.kJ.setRow [.int .i64 0, .int .i64 0, .int .i64 0, .int .i64 0, .int .i64 0, .int .i64 0, .int .i64 0, .int .i64 0, .string ⟨#[]⟩, .string ⟨#[]⟩, .string ⟨#[]⟩, .string ⟨#[]⟩, .int .i64 0, .bool false, .int .i64 0, .slice none 0 0, .bool false]⟩
                    rcases hp with ⟨hn, rfl⟩ | ⟨v, zs', hn, rfl, hob⟩
                    · have HN : Hid ((⟨x0, x1, x2, x3, x4, x5, x6, x7, s0, s1, s2, s3, y0, y1 == 1, y2, l, xy == 1⟩ : MS).bytes ≠ some zs) := by
                        intro e
                        have e2 : (⟨x0, x1, x2, x3, x4, x5, x6, x7, s0, s1, s2, s3, y0, y1 == 1, y2, l, xy == 1⟩ : MS).bytes = none := hn
                        rw [e2] at e
                        cases e
                      clear hn
                      go_wp2_with (refine wpList_store_row rfl 31 _ _ rfl w.heap.size #[.int .i64 0, .int .i64 0, .int .i64 0, .int .i64 0, .int .i64 0, .int .i64 0, .int .i64 0, .int .i64 0, .string ⟨#[]⟩, .string ⟨#[]⟩, .string ⟨#[]⟩, .string ⟨#[]⟩, .int .i64 0, .bool false, .int .i64 0, .slice none 0 0, .bool false] rfl rfl 31 _ Q4.out.kJ (by kernel_rfl) rfl (by kernel_rfl) ?_)
                      try simp only [Exit.inBlock, Exit.then]
                      refine bodyPost_ret (v := .tuple #[.agg #[.int .i64 0, .int .i64 0, .int .i64 0, .int .i64 0, .int .i64 0, .int .i64 0, .int .i64 0, .int .i64 0, .string ⟨#[]⟩, .string ⟨#[]⟩, .string ⟨#[]⟩, .string ⟨#[]⟩, .int .i64 0, .bool false, .int .i64 0, .slice none 0 0, .bool false], .bool false]) ?_ rfl ?_
                      · exact results_msg_bool rfl _ _ w.heap.size rfl rfl (NE.out.2.cell (j := 0) rfl) (NE.out.2.cell (j := 1) rfl) (NE.out.2.cell (j := 2) rfl) (NE.out.2.cell (j := 3) rfl) (NE.out.2.cell (j := 4) rfl) (NE.out.2.cell (j := 5) rfl) (NE.out.2.cell (j := 6) rfl) (NE.out.2.cell (j := 7) rfl) (NE.out.2.cell (j := 8) rfl) (NE.out.2.cell (j := 9) rfl) (NE.out.2.cell (j := 10) rfl) (NE.out.2.cell (j := 11) rfl) (NE.out.2.cell (j := 12) rfl) (NE.out.2.cell (j := 13) rfl) (NE.out.2.cell (j := 14) rfl) (NE.out.2.cell (j := 15) rfl) (NE.out.2.cell (j := 16) rfl)
                      · exact ⟨NE.out.1, .inr ⟨HNO.out HN.out, rfl⟩⟩
                    · have E2 : Hid ((⟨x0, x1, x2, x3, x4, x5, x6, x7, s0, s1, s2, s3, y0, y1 == 1, y2, l, xy == 1⟩ : MS).bytes = some zs') := hn
                      have HF : Hid (∀ z ∈ zs', 0 ≤ z ∧ z ≤ 255) := by
                        have := hn
                        unfold mgBytes at this
                        split at this
                        · rename_i hok
                          rw [← Option.some.inj this]
                          exact (mgOk_facts hok).byte _ _
                        · cases this
                      have HFL : Hid (zs'.length ≤ 4096) := by
                        have := hn
                        unfold mgBytes at this
                        split at this
                        · rename_i hok
                          rw [← Option.some.inj this]
                          have := (mgOk_facts hok).len (y1 == 1) (xy == 1)
                          show _ ≤ _
                          omega
                        · cases this
                      obtain ⟨xa, xc, rfl, hrx⟩ := hob.rd' HF.out HFL.out
                      have RX := hid hrx
                      have R0 := hid (H0.out.kept Q4.out.bel)
                      clear hrx hob hn
                      have CE := hid (same_any xa a zs'.length n xc c zs' zs w3 RX.out R0.out)
                      by_cases heq : zs' = zs
                      · have HEQ : Hid ((⟨x0, x1, x2, x3, x4, x5, x6, x7, s0, s1, s2, s3, y0, y1 == 1, y2, l, xy == 1⟩ : MS).bytes = some zs) := by show _ = _; rw [← heq]; exact E2.out
                        have CE2 := hid CE.out
                        rw [decide_eq_true heq] at CE2
                        clear CE heq
                        go_wp2_with fail
                        refine CE2.out.mono ?_
                        rintro r w4 ⟨rfl, rfl⟩
                        have Q5 := hid Q4.out
                        have O5 := hid O4.out
                        have NT : Hid (Below w.heap.size w (w3.setRow w.heap.size #[.int .i64 x0, .int .i64 x1, .int .i64 x2, .int .i64 x3, .int .i64 x4, .int .i64 x5, .int .i64 x6, .int .i64 x7, .string s0, .string s1, .string s2, .string s3, .int .i64 y0, .bool (y1 == 1), .int .i64 y2, .slice va vn vc, .bool (xy == 1)]) ∧ Bk (w3.setRow w.heap.size #[.int .i64 x0, .int .i64 x1, .int .i64 x2, .int .i64 x3, .int .i64 x4, .int .i64 x5, .int .i64 x6, .int .i64 x7, .string s0, .string s1, .string s2, .string s3, .int .i64 y0, .bool (y1 == 1), .int .i64 y2, .slice va vn vc, .bool (xy == 1)]) w.heap.size 31 [.int .i64 x0, .int .i64 x1, .int .i64 x2, .int .i64 x3, .int .i64 x4, .int .i64 x5, .int .i64 x6, .int .i64 x7, .string s0, .string s1, .string s2, .string s3, .int .i64 y0, .bool (y1 == 1), .int .i64 y2, .slice va vn vc, .bool (xy == 1)] ∧ oqW (w3.setRow w.heap.size #[.int .i64 x0, .int .i64 x1, .int .i64 x2, .int .i64 x3, .int .i64 x4, .int .i64 x5, .int .i64 x6, .int .i64 x7, .string s0, .string s1, .string s2, .string s3, .int .i64 y0, .bool (y1 == 1), .int .i64 y2, .slice va vn vc, .bool (xy == 1)]) w.heap.size (.slice va vn vc) l) := ⟨Q5.out.bel.trans ((only_setRow (R := fun y => y = w.heap.size) rfl _).below Q5.out.bel.size (fun b hb e => by omega)), Q5.out.kJ.setRow [.int .i64 x0, .int .i64 x1, .int .i64 x2, .int .i64 x3, .int .i64 x4, .int .i64 x5, .int .i64 x6, .int .i64 x7, .string s0, .string s1, .string s2, .string s3, .int .i64 y0, .bool (y1 == 1), .int .i64 y2, .slice va vn vc, .bool (xy == 1)], (O5.out.to (only_setRow (R := fun y => y = w.heap.size) rfl _) (fun y hy e => by have := O5.out.lt hy; omega)).base (by omega)⟩
                        go_wp2_with (first
                          | (refine wpList_load_row rfl 31 _ rfl (w.heap.size + 1) rfl 31 _ (0, 0) _ Q5.out.kI Tryd.underlying31 rfl (by kernel_rfl) ?_; go_frame)
                          | (refine wpList_store_row rfl 31 _ _ rfl w.heap.size #[.int .i64 x0, .int .i64 x1, .int .i64 x2, .int .i64 x3, .int .i64 x4, .int .i64 x5, .int .i64 x6, .int .i64 x7, .string s0, .string s1, .string s2, .string s3, .int .i64 y0, .bool (y1 == 1), .int .i64 y2, .slice va vn vc, .bool (xy == 1)] rfl rfl 31 _ Q5.out.kJ (by kernel_rfl) rfl (by kernel_rfl) ?_))
                        try simp only [Exit.inBlock, Exit.then]
                        refine bodyPost_ret (v := .tuple #[.agg #[.int .i64 x0, .int .i64 x1, .int .i64 x2, .int .i64 x3, .int .i64 x4, .int .i64 x5, .int .i64 x6, .int .i64 x7, .string s0, .string s1, .string s2, .string s3, .int .i64 y0, .bool (y1 == 1), .int .i64 y2, .slice va vn vc, .bool (xy == 1)], .bool true]) ?_ rfl ?_
                        · exact results_msg_bool rfl _ _ w.heap.size rfl rfl (NT.out.2.1.cell (j := 0) rfl) (NT.out.2.1.cell (j := 1) rfl) (NT.out.2.1.cell (j := 2) rfl) (NT.out.2.1.cell (j := 3) rfl) (NT.out.2.1.cell (j := 4) rfl) (NT.out.2.1.cell (j := 5) rfl) (NT.out.2.1.cell (j := 6) rfl) (NT.out.2.1.cell (j := 7) rfl) (NT.out.2.1.cell (j := 8) rfl) (NT.out.2.1.cell (j := 9) rfl) (NT.out.2.1.cell (j := 10) rfl) (NT.out.2.1.cell (j := 11) rfl) (NT.out.2.1.cell (j := 12) rfl) (NT.out.2.1.cell (j := 13) rfl) (NT.out.2.1.cell (j := 14) rfl) (NT.out.2.1.cell (j := 15) rfl) (NT.out.2.1.cell (j := 16) rfl)
                        · exact ⟨NT.out.1, .inl ⟨⟨x0, x1, x2, x3, x4, x5, x6, x7, s0, s1, s2, s3, y0, y1 == 1, y2, l, xy == 1⟩, va, vn, vc, HEQ.out, rfl, NT.out.2.2⟩⟩
                      · have HN : Hid ((⟨x0, x1, x2, x3, x4, x5, x6, x7, s0, s1, s2, s3, y0, y1 == 1, y2, l, xy == 1⟩ : MS).bytes ≠ some zs) := by
                          intro e
                          rw [E2.out] at e
                          exact heq (Option.some.inj e)
                        have CE2 := hid CE.out
                        rw [decide_eq_false heq] at CE2
                        clear CE heq
                        go_wp2_with fail
                        refine CE2.out.mono ?_
                        rintro r w4 ⟨rfl, rfl⟩
                        have Q5 := hid Q4.out
                        have O5 := hid O4.out
                        have NE5 : Hid (Below w.heap.size w (w3.setRow w.heap.size #[.int .i64 0, .int .i64 0, .int .i64 0, .int .i64 0, .int .i64 0, .int .i64 0, .int .i64 0, .int .i64 0, .string ⟨#[]⟩, .string ⟨#[]⟩, .string ⟨#[]⟩, .string ⟨#[]⟩, .int .i64 0, .bool false, .int .i64 0, .slice none 0 0, .bool false]) ∧ Bk (w3.setRow w.heap.size #[.int .i64 0, .int .i64 0, .int .i64 0, .int .i64 0, .int .i64 0, .int .i64 0, .int .i64 0, .int .i64 0, .string ⟨#[]⟩, .string ⟨#[]⟩, .string ⟨#[]⟩, .string ⟨#[]⟩, .int .i64 0, .bool false, .int .i64 0, .slice none 0 0, .bool false]) w.heap.size 31 [.int .i64 0, .int .i64 0, .int .i64 0, .int .i64 0, .int .i64 0, .int .i64 0, .int .i64 0, .int .i64 0, .string ⟨#[]⟩, .string ⟨#[]⟩, .string ⟨#[]⟩, .string ⟨#[]⟩, .int .i64 0, .bool false, .int .i64 0, .slice none 0 0, .bool false]) := ⟨Q5.out.bel.trans ((only_setRow (R := fun y => y = w.heap.size) rfl _).below Q5.out.bel.size (fun b hb e => by omega)), Q5.out.kJ.setRow [.int .i64 0, .int .i64 0, .int .i64 0, .int .i64 0, .int .i64 0, .int .i64 0, .int .i64 0, .int .i64 0, .string ⟨#[]⟩, .string ⟨#[]⟩, .string ⟨#[]⟩, .string ⟨#[]⟩, .int .i64 0, .bool false, .int .i64 0, .slice none 0 0, .bool false]⟩
                        go_wp2_with (refine wpList_store_row rfl 31 _ _ rfl w.heap.size #[.int .i64 0, .int .i64 0, .int .i64 0, .int .i64 0, .int .i64 0, .int .i64 0, .int .i64 0, .int .i64 0, .string ⟨#[]⟩, .string ⟨#[]⟩, .string ⟨#[]⟩, .string ⟨#[]⟩, .int .i64 0, .bool false, .int .i64 0, .slice none 0 0, .bool false] rfl rfl 31 _ Q5.out.kJ (by kernel_rfl) rfl (by kernel_rfl) ?_)
                        try simp only [Exit.inBlock, Exit.then]
                        refine bodyPost_ret (v := .tuple #[.agg #[.int .i64 0, .int .i64 0, .int .i64 0, .int .i64 0, .int .i64 0, .int .i64 0, .int .i64 0, .int .i64 0, .string ⟨#[]⟩, .string ⟨#[]⟩, .string ⟨#[]⟩, .string ⟨#[]⟩, .int .i64 0, .bool false, .int .i64 0, .slice none 0 0, .bool false], .bool false]) ?_ rfl ?_
                        · exact results_msg_bool rfl _ _ w.heap.size rfl rfl (NE5.out.2.cell (j := 0) rfl) (NE5.out.2.cell (j := 1) rfl) (NE5.out.2.cell (j := 2) rfl) (NE5.out.2.cell (j := 3) rfl) (NE5.out.2.cell (j := 4) rfl) (NE5.out.2.cell (j := 5) rfl) (NE5.out.2.cell (j := 6) rfl) (NE5.out.2.cell (j := 7) rfl) (NE5.out.2.cell (j := 8) rfl) (NE5.out.2.cell (j := 9) rfl) (NE5.out.2.cell (j := 10) rfl) (NE5.out.2.cell (j := 11) rfl) (NE5.out.2.cell (j := 12) rfl) (NE5.out.2.cell (j := 13) rfl) (NE5.out.2.cell (j := 14) rfl) (NE5.out.2.cell (j := 15) rfl) (NE5.out.2.cell (j := 16) rfl)
                        · exact ⟨NE5.out.1, .inr ⟨HNO.out HN.out, rfl⟩⟩
                  · clear hgo hjm HL
                    obtain ⟨xy, Q5, hxy⟩ : ∃ x y, gv zs q = (x, y) := ⟨_, _, rfl⟩
                    have RA := hid (H0.out.kept HQ.out.bel)
                    have CA := hid (specGetVar_any a n c zs q _ RA.out (by omega))
                    rw [hxy] at CA
                    have HTR : Hid (Trc 9 zs ⟨x0, x1, x2, x3, x4, x5, x6, x7, s0, s1, s2, s3, y0, y1 == 1, y2, l, xy == 1⟩) := ⟨Q1, Q2, Q3, q, Q5, y1, y3, xy, HN1.out, HN2.out, HN3.out, HP.out, HLM.out, ⟨Q5, hxy, rfl⟩, (by show (y1 == 1) = decide (y1 = 1); by_cases e : y1 = 1 <;> simp [e]), (by show (xy == 1) = decide (xy = 1); by_cases e : xy = 1 <;> simp [e])⟩
                    go_wp2_with fail
                    refine CA.out.mono ?_
                    clear c11 CA RA HN1 HN2 HN3 HP HLM
                    rintro r w2 ⟨rfl, hb⟩
                    have Q2a := hid (HQ.out.below hb)
                    have O2 := hid (HW.out.below hb)
                    clear hb HQ HW
                    have u12 := Q2a.out.kV.cell (j := 12) rfl
                    have v12 := Q2a.out.kV.free 12
                    have Q2s : Hid (MQ w (w2.setCell ⟨w.heap.size + 1 + 1, 12, none⟩ (.int .i64 xy)) [.int .i64 x0, .int .i64 x1, .int .i64 x2, .int .i64 x3, .int .i64 x4, .int .i64 x5, .int .i64 x6, .int .i64 x7, .string s0, .string s1, .string s2, .string s3, .int .i64 y0, .bool (y1 == 1), .int .i64 y2, .slice va vn vc, .bool false] [.int .i64 x0, .int .i64 x1, .int .i64 x2, .int .i64 x3, .int .i64 x4, .int .i64 x5, .int .i64 x6, .int .i64 x7, .int .i64 y0, .int .i64 y1, .int .i64 y2, .int .i64 y3, .int .i64 xy] [.string s0, .string s1, .string s2, .string s3]) := Q2a.out.setVE 12 _ rfl
                    have O2s := hid (O2.out.to (only_set (R := fun y => y = w.heap.size + 1 + 1) (p := ⟨w.heap.size + 1 + 1, 12, none⟩) rfl (.int .i64 xy)) (fun y hy e => by have := O2.out.lt hy; omega))
                    go_upto_region 28 with (fail)
                    generalize w2.setCell ⟨w.heap.size + 1 + 1, 12, none⟩ (.int .i64 xy) = X2 at *
                    clear u12 v12 Q2a O2
                    have u12 := Q2s.out.kV.cell (j := 12) rfl
                    have u16 := Q2s.out.kI.cell (j := 16) rfl
                    have v16 := Q2s.out.kI.free 16
                    have Q3s : Hid (MQ w (X2.setCell ⟨w.heap.size + 1, 16, none⟩ (.bool (xy == 1))) [.int .i64 x0, .int .i64 x1, .int .i64 x2, .int .i64 x3, .int .i64 x4, .int .i64 x5, .int .i64 x6, .int .i64 x7, .string s0, .string s1, .string s2, .string s3, .int .i64 y0, .bool (y1 == 1), .int .i64 y2, .slice va vn vc, .bool (xy == 1)] [.int .i64 x0, .int .i64 x1, .int .i64 x2, .int .i64 x3, .int .i64 x4, .int .i64 x5, .int .i64 x6, .int .i64 x7, .int .i64 y0, .int .i64 y1, .int .i64 y2, .int .i64 y3, .int .i64 xy] [.string s0, .string s1, .string s2, .string s3]) := Q2s.out.setIE 16 _ rfl
                    have O3s := hid (O2s.out.to (only_set (R := fun y => y = w.heap.size + 1) (p := ⟨w.heap.size + 1, 16, none⟩) rfl (.bool (xy == 1))) (fun y hy e => by have := O2s.out.lt hy; omega))
                    go_upto_region 29 with (fail)
                    generalize X2.setCell ⟨w.heap.size + 1, 16, none⟩ (.bool (xy == 1)) = X3 at *
                    clear u12 u16 v16 Q2s O2s
                    have C2 := hid (specMsgBytes_any (fun _ => True) l x0 x1 x2 x3 x4 x5 x6 x7 s0 s1 s2 s3 y0 (y1 == 1) y2 va vn vc (xy == 1) X3 O3s.out.r)
                    go_wp2_with (refine wpList_load_row rfl 31 _ rfl (w.heap.size + 1) rfl 31 _ (0, 0) _ Q3s.out.kI Tryd.underlying31 rfl (by kernel_rfl) ?_)
                    refine C2.out.mono ?_
                    clear C2
                    intro r w3 hp
                    obtain ⟨hb3, hp⟩ := hp
                    have Q4 := hid (Q3s.out.below hb3)
                    have O4 := hid (O3s.out.below hb3)
                    clear Q3s O3s hb3
                    have HNO : Hid ((⟨x0, x1, x2, x3, x4, x5, x6, x7, s0, s1, s2, s3, y0, y1 == 1, y2, l, xy == 1⟩ : MS).bytes ≠ some zs → ∀ m' : MS, m'.bytes ≠ some zs) := fun hne m' hm' => hne (by rw [trc_bytes (by omega) HTR.out hm']; exact hm')
                    have NE : Hid (Below w.heap.size w (w3.setRow w.heap.size #[.int .i64 0, .int .i64 0, .int .i64 0, .int .i64 0, .int .i64 0, .int .i64 0, .int .i64 0, .int .i64 0, .string ⟨#[]⟩, .string ⟨#[]⟩, .string ⟨#[]⟩, .string ⟨#[]⟩, .int .i64 0, .bool false, .int .i64 0, .slice none 0 0, .bool false]) ∧ Bk (w3.setRow w.heap.size #[.int .i64 0, .int .i64 0, .int .i64 0, .int .i64 0, .int .i64 0, .int .i64 0, .int .i64 0, .int .i64 0, .string ⟨#[]⟩, .string ⟨#[]⟩, .string ⟨#[]⟩, .string ⟨#[]⟩, .int .i64 0, .bool false, .int .i64 0, .slice none 0 0, .bool false]) w.heap.size 31 [.int .i64 0, .int .i64 0, .int .i64 0, .int .i64 0, .int .i64 0, .int .i64 0, .int .i64 0, .int .i64 0, .string ⟨#[]⟩, .string ⟨#[]⟩, .string ⟨#[]⟩, .string ⟨#[]⟩, .int .i64 0, .bool false, .int .i64 0, .slice none 0 0, .bool false]) := ⟨Q4.out.bel.trans ((only_setRow (R := fun y => y = w.heap.size) rfl _).below Q4.out.bel.size (fun b hb e => by omega)), Q4.out.kJ.setRow [.int .i64 0, .int .i64 0, .int .i64 0, .int .i64 0, .int .i64 0, .int .i64 0, .int .i64 0, .int .i64 0, .string ⟨#[]⟩, .string ⟨#[]⟩, .string ⟨#[]⟩, .string ⟨#[]⟩, .int .i64 0, .bool false, .int .i64 0, .slice none 0 0, .bool false]⟩
                    rcases hp with ⟨hn, rfl⟩ | ⟨v, zs', hn, rfl, hob⟩
                    · have HN : Hid ((⟨x0, x1, x2, x3, x4, x5, x6, x7, s0, s1, s2, s3, y0, y1 == 1, y2, l, xy == 1⟩ : MS).bytes ≠ some zs) := by
                        intro e
                        have e2 : (⟨x0, x1, x2, x3, x4, x5, x6, x7, s0, s1, s2, s3, y0, y1 == 1, y2, l, xy == 1⟩ : MS).bytes = none := hn
                        rw [e2] at e
                        cases e
                      clear hn
                      go_wp2_with (refine wpList_store_row rfl 31 _ _ rfl w.heap.size #[.int .i64 0, .int .i64 0, .int .i64 0, .int .i64 0, .int .i64 0, .int .i64 0, .int .i64 0, .int .i64 0, .string ⟨#[]⟩, .string ⟨#[]⟩, .string ⟨#[]⟩, .string ⟨#[]⟩, .int .i64 0, .bool false, .int .i64 0, .slice none 0 0, .bool false] rfl rfl 31 _ Q4.out.kJ (by kernel_rfl) rfl (by kernel_rfl) ?_)
                      try simp only [Exit.inBlock, Exit.then]
                      refine bodyPost_ret (v := .tuple #[.agg #[.int .i64 0, .int .i64 0, .int .i64 0, .int .i64 0, .int .i64 0, .int .i64 0, .int .i64 0, .int .i64 0, .string ⟨#[]⟩, .string ⟨#[]⟩, .string ⟨#[]⟩, .string ⟨#[]⟩, .int .i64 0, .bool false, .int .i64 0, .slice none 0 0, .bool false], .bool false]) ?_ rfl ?_
                      · exact results_msg_bool rfl _ _ w.heap.size rfl rfl (NE.out.2.cell (j := 0) rfl) (NE.out.2.cell (j := 1) rfl) (NE.out.2.cell (j := 2) rfl) (NE.out.2.cell (j := 3) rfl) (NE.out.2.cell (j := 4) rfl) (NE.out.2.cell (j := 5) rfl) (NE.out.2.cell (j := 6) rfl) (NE.out.2.cell (j := 7) rfl) (NE.out.2.cell (j := 8) rfl) (NE.out.2.cell (j := 9) rfl) (NE.out.2.cell (j := 10) rfl) (NE.out.2.cell (j := 11) rfl) (NE.out.2.cell (j := 12) rfl) (NE.out.2.cell (j := 13) rfl) (NE.out.2.cell (j := 14) rfl) (NE.out.2.cell (j := 15) rfl) (NE.out.2.cell (j := 16) rfl)
                      · exact ⟨NE.out.1, .inr ⟨HNO.out HN.out, rfl⟩⟩
                    · have E2 : Hid ((⟨x0, x1, x2, x3, x4, x5, x6, x7, s0, s1, s2, s3, y0, y1 == 1, y2, l, xy == 1⟩ : MS).bytes = some zs') := hn
                      have HF : Hid (∀ z ∈ zs', 0 ≤ z ∧ z ≤ 255) := by
                        have := hn
                        unfold mgBytes at this
                        split at this
                        · rename_i hok
                          rw [← Option.some.inj this]
                          exact (mgOk_facts hok).byte _ _
                        · cases this
                      have HFL : Hid (zs'.length ≤ 4096) := by
                        have := hn
                        unfold mgBytes at this
                        split at this
                        · rename_i hok
                          rw [← Option.some.inj this]
                          have := (mgOk_facts hok).len (y1 == 1) (xy == 1)
                          show _ ≤ _
                          omega
                        · cases this
                      obtain ⟨xa, xc, rfl, hrx⟩ := hob.rd' HF.out HFL.out
                      have RX := hid hrx
                      have R0 := hid (H0.out.kept Q4.out.bel)
                      clear hrx hob hn
                      have CE := hid (same_any xa a zs'.length n xc c zs' zs w3 RX.out R0.out)
                      by_cases heq : zs' = zs
                      · have HEQ : Hid ((⟨x0, x1, x2, x3, x4, x5, x6, x7, s0, s1, s2, s3, y0, y1 == 1, y2, l, xy == 1⟩ : MS).bytes = some zs) := by show _ = _; rw [← heq]; exact E2.out
                        have CE2 := hid CE.out
                        rw [decide_eq_true heq] at CE2
                        clear CE heq
                        go_wp2_with fail
                        refine CE2.out.mono ?_
                        rintro r w4 ⟨rfl, rfl⟩
                        have Q5 := hid Q4.out
                        have O5 := hid O4.out
                        have NT : Hid (Below w.heap.size w (w3.setRow w.heap.size #[.int .i64 x0, .int .i64 x1, .int .i64 x2, .int .i64 x3, .int .i64 x4, .int .i64 x5, .int .i64 x6, .int .i64 x7, .string s0, .string s1, .string s2, .string s3, .int .i64 y0, .bool (y1 == 1), .int .i64 y2, .slice va vn vc, .bool (xy == 1)]) ∧ Bk (w3.setRow w.heap.size #[.int .i64 x0, .int .i64 x1, .int .i64 x2, .int .i64 x3, .int .i64 x4, .int .i64 x5, .int .i64 x6, .int .i64 x7, .string s0, .string s1, .string s2, .string s3, .int .i64 y0, .bool (y1 == 1), .int .i64 y2, .slice va vn vc, .bool (xy == 1)]) w.heap.size 31 [.int .i64 x0, .int .i64 x1, .int .i64 x2, .int .i64 x3, .int .i64 x4, .int .i64 x5, .int .i64 x6, .int .i64 x7, .string s0, .string s1, .string s2, .string s3, .int .i64 y0, .bool (y1 == 1), .int .i64 y2, .slice va vn vc, .bool (xy == 1)] ∧ oqW (w3.setRow w.heap.size #[.int .i64 x0, .int .i64 x1, .int .i64 x2, .int .i64 x3, .int .i64 x4, .int .i64 x5, .int .i64 x6, .int .i64 x7, .string s0, .string s1, .string s2, .string s3, .int .i64 y0, .bool (y1 == 1), .int .i64 y2, .slice va vn vc, .bool (xy == 1)]) w.heap.size (.slice va vn vc) l) := ⟨Q5.out.bel.trans ((only_setRow (R := fun y => y = w.heap.size) rfl _).below Q5.out.bel.size (fun b hb e => by omega)), Q5.out.kJ.setRow [.int .i64 x0, .int .i64 x1, .int .i64 x2, .int .i64 x3, .int .i64 x4, .int .i64 x5, .int .i64 x6, .int .i64 x7, .string s0, .string s1, .string s2, .string s3, .int .i64 y0, .bool (y1 == 1), .int .i64 y2, .slice va vn vc, .bool (xy == 1)], (O5.out.to (only_setRow (R := fun y => y = w.heap.size) rfl _) (fun y hy e => by have := O5.out.lt hy; omega)).base (by omega)⟩
                        go_wp2_with (first
                          | (refine wpList_load_row rfl 31 _ rfl (w.heap.size + 1) rfl 31 _ (0, 0) _ Q5.out.kI Tryd.underlying31 rfl (by kernel_rfl) ?_; go_frame)
                          | (refine wpList_store_row rfl 31 _ _ rfl w.heap.size #[.int .i64 x0, .int .i64 x1, .int .i64 x2, .int .i64 x3, .int .i64 x4, .int .i64 x5, .int .i64 x6, .int .i64 x7, .string s0, .string s1, .string s2, .string s3, .int .i64 y0, .bool (y1 == 1), .int .i64 y2, .slice va vn vc, .bool (xy == 1)] rfl rfl 31 _ Q5.out.kJ (by kernel_rfl) rfl (by kernel_rfl) ?_))
                        try simp only [Exit.inBlock, Exit.then]
                        refine bodyPost_ret (v := .tuple #[.agg #[.int .i64 x0, .int .i64 x1, .int .i64 x2, .int .i64 x3, .int .i64 x4, .int .i64 x5, .int .i64 x6, .int .i64 x7, .string s0, .string s1, .string s2, .string s3, .int .i64 y0, .bool (y1 == 1), .int .i64 y2, .slice va vn vc, .bool (xy == 1)], .bool true]) ?_ rfl ?_
                        · exact results_msg_bool rfl _ _ w.heap.size rfl rfl (NT.out.2.1.cell (j := 0) rfl) (NT.out.2.1.cell (j := 1) rfl) (NT.out.2.1.cell (j := 2) rfl) (NT.out.2.1.cell (j := 3) rfl) (NT.out.2.1.cell (j := 4) rfl) (NT.out.2.1.cell (j := 5) rfl) (NT.out.2.1.cell (j := 6) rfl) (NT.out.2.1.cell (j := 7) rfl) (NT.out.2.1.cell (j := 8) rfl) (NT.out.2.1.cell (j := 9) rfl) (NT.out.2.1.cell (j := 10) rfl) (NT.out.2.1.cell (j := 11) rfl) (NT.out.2.1.cell (j := 12) rfl) (NT.out.2.1.cell (j := 13) rfl) (NT.out.2.1.cell (j := 14) rfl) (NT.out.2.1.cell (j := 15) rfl) (NT.out.2.1.cell (j := 16) rfl)
                        · exact ⟨NT.out.1, .inl ⟨⟨x0, x1, x2, x3, x4, x5, x6, x7, s0, s1, s2, s3, y0, y1 == 1, y2, l, xy == 1⟩, va, vn, vc, HEQ.out, rfl, NT.out.2.2⟩⟩
                      · have HN : Hid ((⟨x0, x1, x2, x3, x4, x5, x6, x7, s0, s1, s2, s3, y0, y1 == 1, y2, l, xy == 1⟩ : MS).bytes ≠ some zs) := by
                          intro e
                          rw [E2.out] at e
                          exact heq (Option.some.inj e)
                        have CE2 := hid CE.out
                        rw [decide_eq_false heq] at CE2
                        clear CE heq
                        go_wp2_with fail
                        refine CE2.out.mono ?_
                        rintro r w4 ⟨rfl, rfl⟩
                        have Q5 := hid Q4.out
                        have O5 := hid O4.out
                        have NE5 : Hid (Below w.heap.size w (w3.setRow w.heap.size #[.int .i64 0, .int .i64 0, .int .i64 0, .int .i64 0, .int .i64 0, .int .i64 0, .int .i64 0, .int .i64 0, .string ⟨#[]⟩, .string ⟨#[]⟩, .string ⟨#[]⟩, .string ⟨#[]⟩, .int .i64 0, .bool false, .int .i64 0, .slice none 0 0, .bool false]) ∧ Bk (w3.setRow w.heap.size #[.int .i64 0, .int .i64 0, .int .i64 0, .int .i64 0, .int .i64 0, .int .i64 0, .int .i64 0, .int .i64 0, .string ⟨#[]⟩, .string ⟨#[]⟩, .string ⟨#[]⟩, .string ⟨#[]⟩, .int .i64 0, .bool false, .int .i64 0, .slice none 0 0, .bool false]) w.heap.size 31 [.int .i64 0, .int .i64 0, .int .i64 0, .int .i64 0, .int .i64 0, .int .i64 0, .int .i64 0, .int .i64 0, .string ⟨#[]⟩, .string ⟨#[]⟩, .string ⟨#[]⟩, .string ⟨#[]⟩, .int .i64 0, .bool false, .int .i64 0, .slice none 0 0, .bool false]) := ⟨Q5.out.bel.trans ((only_setRow (R := fun y => y = w.heap.size) rfl _).below Q5.out.bel.size (fun b hb e => by omega)), Q5.out.kJ.setRow [.int .i64 0, .int .i64 0, .int .i64 0, .int .i64 0, .int .i64 0, .int .i64 0, .int .i64 0, .int .i64 0, .string ⟨#[]⟩, .string ⟨#[]⟩, .string ⟨#[]⟩, .string ⟨#[]⟩, .int .i64 0, .bool false, .int .i64 0, .slice none 0 0, .bool false]⟩
                        go_wp2_with (refine wpList_store_row rfl 31 _ _ rfl w.heap.size #[.int .i64 0, .int .i64 0, .int .i64 0, .int .i64 0, .int .i64 0, .int .i64 0, .int .i64 0, .int .i64 0, .string ⟨#[]⟩, .string ⟨#[]⟩, .string ⟨#[]⟩, .string ⟨#[]⟩, .int .i64 0, .bool false, .int .i64 0, .slice none 0 0, .bool false] rfl rfl 31 _ Q5.out.kJ (by kernel_rfl) rfl (by kernel_rfl) ?_)
                        try simp only [Exit.inBlock, Exit.then]
                        refine bodyPost_ret (v := .tuple #[.agg #[.int .i64 0, .int .i64 0, .int .i64 0, .int .i64 0, .int .i64 0, .int .i64 0, .int .i64 0, .int .i64 0, .string ⟨#[]⟩, .string ⟨#[]⟩, .string ⟨#[]⟩, .string ⟨#[]⟩, .int .i64 0, .bool false, .int .i64 0, .slice none 0 0, .bool false], .bool false]) ?_ rfl ?_
                        · exact results_msg_bool rfl _ _ w.heap.size rfl rfl (NE5.out.2.cell (j := 0) rfl) (NE5.out.2.cell (j := 1) rfl) (NE5.out.2.cell (j := 2) rfl) (NE5.out.2.cell (j := 3) rfl) (NE5.out.2.cell (j := 4) rfl) (NE5.out.2.cell (j := 5) rfl) (NE5.out.2.cell (j := 6) rfl) (NE5.out.2.cell (j := 7) rfl) (NE5.out.2.cell (j := 8) rfl) (NE5.out.2.cell (j := 9) rfl) (NE5.out.2.cell (j := 10) rfl) (NE5.out.2.cell (j := 11) rfl) (NE5.out.2.cell (j := 12) rfl) (NE5.out.2.cell (j := 13) rfl) (NE5.out.2.cell (j := 14) rfl) (NE5.out.2.cell (j := 15) rfl) (NE5.out.2.cell (j := 16) rfl)
                        · exact ⟨NE5.out.1, .inr ⟨HNO.out HN.out, rfl⟩⟩
end Go.Proofs.YtbonkheoeohaiaaDoor
