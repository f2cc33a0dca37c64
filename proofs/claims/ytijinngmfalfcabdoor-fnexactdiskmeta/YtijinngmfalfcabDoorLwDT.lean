/-
  The law FnExactDiskMeta answers true at every disk.
-/
import Derived.Test.YtijinngmfalfcabDoorDkT
import Derived.Test.YtijinngmfalfcabDoorLwM
namespace Go.Proofs.YtijinngmfalfcabDoor
open Go.RowKit
set_option linter.unusedVariables false
set_option maxHeartbeats 8000000 in
set_option maxRecDepth 20000 in
theorem lawDiskMeta_walk (sa : Option Addr) (sn sc : Nat) (da : Option Addr) (dn dc : Nat) (d : DK) (w : World) (h : Dk w (fun _ => True) sa sn sc da dn dc d) (he : Err w 0) (he2 : Err w 1) (_l1 : 0 < w.heap.size) (_l2 : 1 < w.heap.size) :
    Calls Tryd.prog 4 #[.agg #[.slice sa sn sc, .slice da dn dc]] w fun e w' => e = .returned (.bool true) ∧ Below w.heap.size w w' := by
  have X0 := hid (DX.start h)
  have NS := hid h.hs.len.1
  have ND := hid h.hd.len.1
  have HE := hid he
  have HE2 := hid he2
  clear h _l1 _l2 he he2
  go_enter Tryd.func4, Tryd.ntmps4
  go_wp2_with fail
  refine (szDisk_any _ sa sn sc da dn dc d _ X0.out.hA).mono ?_
  generalize w.alloc (.cells #[.slice sa sn sc, .slice da dn dc] 25) = U at *
  rintro e w1 ⟨⟨x, rfl, hx1, hx2, hx3⟩, hb⟩
  have X1 := hid (X0.out.below hb)
  have HX := hid hx3
  clear hb hx3 X0
  by_cases hneg : x < 0
  · go_wp2
    go_ret
    exact ⟨rfl, X1.out.bel⟩
  · have HSM := hid (small_of_sum (HX.out (by omega))).1
    have m0 : sn ≤ 1048576 := by rw [NS.out]; exact (small_of_sum (HX.out (by omega))).2.1
    have m1 : dn ≤ 1048576 := by rw [ND.out]; exact (small_of_sum (HX.out (by omega))).2.2
    clear HX
    obtain ⟨x0, x1⟩ := X1.out.cells
    go_wp2_with fail
    refine (toDisk_any _ sa sn sc da dn dc d _ X1.out.hA m0 m1 HSM.out).mono ?_
    rintro e w2 ⟨g0, g1, V, Uu, rfl, hO, hb⟩
    have X2 := hid (X1.out.below hb)
    have C2 := hid (hO.dk (S := fun _ => True) (fun _ _ => trivial))
    clear hb X1 hO x0 x1
    go_wp2_with fail
    refine (specDiskMeta_any (fun _ => True) _ _ _ _ _ _ d _ C2.out HSM.out).mono ?_
    rintro e w3 ⟨rfl, hb⟩
    have X3 := hid (X2.out.below hb)
    clear hb X2 C2
    have hIM := hid (fun (v : World) g0 g1 (hB : Below w.heap.size w v) (hC : Dk v (fun _ => True) (some ⟨g0, 0, none⟩) sn sn (some ⟨g1, 0, none⟩) dn dn d) => implDiskMeta_any (fun _ => True) _ _ _ _ _ _ d v hC HSM.out (HE.out.below hB HE.out.lt) (HE2.out.below hB HE2.out.lt))
    clear HE HE2
    generalize (bestM d 2).1 = q1 at *
    generalize (bestM d 2).2 = q2 at *
    have hzz : ((decide (0 < q1)) != (decide (0 < q1))) = false := by simp
    generalize decide (0 < q1) = Z at *
    have X3b := hid (X3.out.below (below_new (o := .cells #[.int .i64 q1, .int .i64 q2] 41) (w := w3) (Below.refl _ _)))
    have K3 := hid (Bk.new w3 41 [.int .i64 q1, .int .i64 q2])
    obtain ⟨x0, x1⟩ := X3b.out.cells
    clear X3
    go_wp2_with fail
    refine (toDisk_any _ sa sn sc da dn dc d _ X3b.out.hA m0 m1 HSM.out).mono ?_
    generalize w3.alloc (.cells #[.int .i64 q1, .int .i64 q2] 41) = u3 at *
    generalize w3.heap.size = b3 at *
    rintro e w4 ⟨h0, h1, V4, U4, rfl, hO, hb⟩
    have hb2 := bt5 hb (below_new (o := .cells #[.slice (some ⟨h0, 0, none⟩) sn sn, .slice (some ⟨h1, 0, none⟩) dn dn] 31) (w := w4) (Below.refl _ _))
    have X5 := hid (X3b.out.below hb2)
    have K5 := hid (K3.out.below hb2)
    have D5 := hid (DB.new hO)
    clear hb hb2 hO X3b K3 x0 x1
    go_wp2_with fail
    refine (hIM.out _ _ _ X5.out.bel D5.out.dk).mono ?_
    generalize w4.alloc (.cells #[.slice (some ⟨h0, 0, none⟩) sn sn, .slice (some ⟨h1, 0, none⟩) dn dn] 31) = w5 at *
    generalize w4.heap.size = b4 at *
    rintro e w6 ⟨rfl, hb⟩
    have hb2 := bt5 hb (below_new (o := .cells #[.int .i64 q1, .int .i64 q2] 41) (w := w6) (Below.refl _ _))
    have X6 := hid (X5.out.below hb2)
    have K6 := hid (K5.out.below hb2)
    have D6 := hid (D5.out.below hb2)
    have J6 := hid (Bk.new w6 41 [.int .i64 q1, .int .i64 q2])
    clear hb hb2 X5 K5 D5 hIM
    have k0 := K6.out.cell (j := 0) rfl
    have k1 := K6.out.cell (j := 1) rfl
    go_wp2_with fail
    refine (eqMeta_same q1 q2 _).mono ?_
    generalize w6.alloc (.cells #[.int .i64 q1, .int .i64 q2] 41) = u6 at *
    rintro e w7 ⟨rfl, hb⟩
    have X7 := hid (X6.out.below hb)
    have D7 := hid (D6.out.below hb)
    clear hb X6 K6 D6 J6 k0 k1
    obtain ⟨x0, x1⟩ := X7.out.cells
    obtain ⟨y0, y1⟩ := D7.out.cells
    have X8 := hid (X7.out.below (below_drew _))
    have D8 := hid (D7.out.below (below_drew _))
    go_wp2_with fail
    go_cut [40] (fun x v => x = .bool false ∧ Below w.heap.size w v)
    case first =>
      go_region_with (first
        | (go_at_call 8; refine (toDisk_any _ sa sn sc da dn dc d _ X8.out.hA m0 m1 HSM.out).mono ?_; rintro e w8 ⟨f0, f1, V8, U8, rfl, hO8, hb8⟩; have z0 := (D8.out.below hb8).cells.1; have z1 := (D8.out.below hb8).cells.2)
        | (go_at_call 11; refine (eqDisk_any (fun _ => True) (fun _ => True) _ _ _ _ _ _ d _ _ _ _ _ _ d _ (D8.out.below hb8).dk (hO8.dk (S := fun _ => True) (fun _ _ => trivial)) HSM.out HSM.out).mono ?_; rintro e w9 ⟨rfl, hb9⟩))
      all_goals (go_wp2_with fail; go_meet)
      all_goals exact ⟨by simp, bt5 (bt5 X8.out.bel hb8) hb9⟩
    case rest =>
      obtain ⟨rfl, hbf⟩ := hcut
      have BF := hid hbf
      clear hbf
      go_wp2
      go_ret
      exact ⟨rfl, BF.out⟩
end Go.Proofs.YtijinngmfalfcabDoor

