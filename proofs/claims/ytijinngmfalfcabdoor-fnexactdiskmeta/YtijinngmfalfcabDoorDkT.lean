/-
  DiskMeta of the specification and of the program.
-/
import Derived.Test.YtijinngmfalfcabDoorLwDR
import Derived.Test.YtijinngmfalfcabDoorMtR
import Derived.Test.YtijinngmfalfcabDoorMtT
import Derived.Test.YtijinngmfalfcabDoorMtJ
namespace Go.Proofs.YtijinngmfalfcabDoor
open Go.RowKit
set_option linter.unusedVariables false
/-- The meta that a sheet tells. -/
def shMeta (d : DK) (t : Nat) : Option (Int × Int) := mrd ((rdV d (t : Int)).getD [])
/-- One step: the meta of sheet t counts where its number is the remainder and its Gen is greater. -/
def stepM (o : Option (Int × Int)) (t : Nat) (b : Int × Int) : Int × Int := match o with
  | none => b
  | some m => if m.1 % 2 = (t : Int) ∧ b.1 < m.1 then m else b
def bestM (d : DK) : Nat → Int × Int
  | 0 => (0, 0)
  | k + 1 => stepM (shMeta d k) k (bestM d k)
theorem mrd_nil : mrd [] = none := by simp [mrd]
theorem mrd_gen {zs : List Int} {g r : Int} (h : mrd zs = some (g, r)) : 1 ≤ g ∧ g ≤ 1099511627775 := by
  have := (mrd_iff zs g r).1 h
  unfold mtBytes at this
  split at this
  · rename_i hh
    simp only [mtOk, Bool.and_eq_true, decide_eq_true_eq] at hh
    exact hh.1
  · cases this
/-- The boxes of DiskMeta: the disk, the result, the best so far. -/
structure Mx5 (w v : World) (sa : Option Addr) (sn sc : Nat) (da : Option Addr) (dn dc : Nat) (b : Int × Int) : Prop where
  bel : Below w.heap.size w v
  k0 : Bk v w.heap.size 31 [.slice sa sn sc, .slice da dn dc]
  k1 : Bk v (w.heap.size + 1) 41 [.int .i64 0, .int .i64 0]
  k2 : Bk v (w.heap.size + 1 + 1) 41 [.int .i64 b.1, .int .i64 b.2]
theorem Mx5.below {w v v' : World} {sa : Option Addr} {sn sc : Nat} {da : Option Addr} {dn dc : Nat} {b : Int × Int} (h : Mx5 w v sa sn sc da dn dc b) (hb : Below v.heap.size v v') : Mx5 w v' sa sn sc da dn dc b := ⟨bt6 h.bel hb, h.k0.below hb, h.k1.below hb, h.k2.below hb⟩
theorem Mx5.set {w v : World} {sa : Option Addr} {sn sc : Nat} {da : Option Addr} {dn dc : Nat} {b : Int × Int} (h : Mx5 w v sa sn sc da dn dc b) (g r : Int) : Mx5 w ((v.setCell ⟨w.heap.size + 1 + 1, 0, none⟩ (.int .i64 g)).setCell ⟨w.heap.size + 1 + 1, 1, none⟩ (.int .i64 r)) sa sn sc da dn dc (g, r) :=
  ⟨(h.bel.setCell (p := ⟨w.heap.size + 1 + 1, 0, none⟩) (by show w.heap.size ≤ w.heap.size + 1 + 1; omega) _).setCell (p := ⟨w.heap.size + 1 + 1, 1, none⟩) (by show w.heap.size ≤ w.heap.size + 1 + 1; omega) _, (h.k0.setOther (by omega) _ _).setOther (by omega) _ _, (h.k1.setOther (by omega) _ _).setOther (by omega) _ _, (h.k2.set 0 _).set 1 _⟩
theorem Mx5.start (w : World) (sa : Option Addr) (sn sc : Nat) (da : Option Addr) (dn dc : Nat) : Mx5 w (((w.alloc (.cells #[.slice sa sn sc, .slice da dn dc] 31)).alloc (.cells #[.int .i64 0, .int .i64 0] 41)).alloc (.cells #[.int .i64 0, .int .i64 0] 41)) sa sn sc da dn dc (0, 0) := by
  refine ⟨below_new (below_new (below_new (Below.refl _ _))), ((Bk.new w 31 [.slice sa sn sc, .slice da dn dc]).alloc _).alloc _, ?_, ?_⟩
  · have := (Bk.new (w.alloc (.cells #[.slice sa sn sc, .slice da dn dc] 31)) 41 [.int .i64 0, .int .i64 0]).alloc (.cells #[.int .i64 0, .int .i64 0] 41)
    simpa using this
  · have := Bk.new ((w.alloc (.cells #[.slice sa sn sc, .slice da dn dc] 31)).alloc (.cells #[.int .i64 0, .int .i64 0] 41)) 41 [.int .i64 0, .int .i64 0]
    simpa using this
theorem below_drew' {B : Nat} (w : World) : Below B w w.drew := Below.drewN' (Below.refl _ _) 1
set_option maxHeartbeats 8000000 in
set_option maxRecDepth 20000 in
theorem specDiskMeta_any (S : Nat → Prop) (sa : Option Addr) (sn sc : Nat) (da : Option Addr) (dn dc : Nat) (d : DK) (w : World) (h : Dk w S sa sn sc da dn dc d) (hsm : smallD d) :
    Calls Tryd.prog 16 #[.agg #[.slice sa sn sc, .slice da dn dc]] w fun e w' => e = .returned (.tuple #[.agg #[.int .i64 (bestM d 2).1, .int .i64 (bestM d 2).2], .bool (decide (0 < (bestM d 2).1))]) ∧ Below w.heap.size w w' := by
  have HH := hid h
  have HSM := hid hsm
  have HBY := hid h.bytes
  have M0 := hid (Mx5.start w sa sn sc da dn dc)
  clear h hsm
  go_enter Tryd.func16, Tryd.ntmps16
  go_wp2_with fail
  go_loopw [5] (fun i wr => ∃ k : Nat, k ≤ 2 ∧ i = .int .i64 k ∧ Hid (Mx5 w wr sa sn sc da dn dc (bestM d k))) (fun i _ => 2 - (intOf i).toNat)
  case atStart => exact ⟨0, by omega, rfl, M0.out⟩
  case round =>
    obtain ⟨k, hk, rfl, MM⟩ := hrel
    clear M0
    by_cases hlt : k < 2
    · have hlt' : (k : Int) < 2 := by omega
      have d0 := MM.out.k0.cell (j := 0) rfl
      have d1 := MM.out.k0.cell (j := 1) rfl
      go_wp2_with fail
      refine (specDiskRead_any S sa sn sc da dn dc d (k : Int) wr (HH.out.below MM.out.bel) HSM.out).mono ?_
      rintro e w2 ⟨a2, n2, c2, rfl, hO, hb⟩
      have M2 := hid (MM.out.below hb)
      have HRD := hid (ob_rd hO (rdV_facts HBY.out (k : Int)).1 (by have := (rdV_facts HBY.out (k : Int)).2; omega)).1
      have HST : Hid (bestM d (k + 1) = stepM (mrd ((rdV d (k : Int)).getD [])) k (bestM d k)) := rfl
      have HNO : Hid ((rdV d (k : Int)).isSome = false → mrd ((rdV d (k : Int)).getD []) = none) := fun e => by
        cases e2 : rdV d (k : Int) with
        | none => exact mrd_nil
        | some z => rw [e2] at e; cases e
      clear hO hb d0 d1 MM
      generalize (rdV d (k : Int)).isSome = Z at *
      generalize (rdV d (k : Int)).getD [] = zs at *
      go_wp2_with fail
      refine (specMetaRead_any a2 n2 c2 zs _ HRD.out).mono ?_
      rintro e w3 ⟨hb, hor⟩
      have M3 := hid (M2.out.below hb)
      clear hb M2 HRD
      rcases hor with ⟨hn, rfl⟩ | ⟨g, r, hs, rfl⟩
      · have M4 := hid (M3.out.below (below_new (o := .cells #[.int .i64 0, .int .i64 0] 41) (w := w3) (Below.refl _ _)))
        have HS2 : Hid (bestM d (k + 1) = bestM d k) := by show _ = _; rw [HST.out, hn]; rfl
        clear hn M3 HST HNO
        cases Z with
        | true =>
          go_wp2
          go_roundw
          case rel => exact ⟨k + 1, by omega, by go_num, by rw [HS2.out]; exact M4.out⟩
          case measure => simp [intOf]; omega
        | false =>
          go_wp2
          go_roundw
          case rel => exact ⟨k + 1, by omega, by go_num, by rw [HS2.out]; exact M4.out⟩
          case measure => simp [intOf]; omega
      · have hZ : Z = true := by
          cases Z with
          | true => rfl
          | false => rw [HNO.out rfl] at hs; cases hs
        subst hZ
        have hg := mrd_gen hs
        have hmod : g.tmod 2 = g % 2 := Int.tmod_eq_emod_of_nonneg (by omega)
        have M4 := hid (M3.out.below (below_new (o := .cells #[.int .i64 g, .int .i64 r] 41) (w := w3) (Below.refl _ _)))
        have K4 := hid (Bk.new w3 41 [.int .i64 g, .int .i64 r])
        rw [hs] at HST
        have HS2 : Hid (bestM d (k + 1) = if g % 2 = (k : Int) ∧ (bestM d k).1 < g then (g, r) else bestM d k) := HST
        have S4 : Hid (w.heap.size + 1 + 1 < w3.heap.size) := M3.out.k2.lt
        clear hs HST HNO
        generalize g % 2 = p at *
        by_cases e1 : p = (k : Int)
        · have e1' : (p == (k : Int)) = true := by simp [e1]
          have b0 := M3.out.k2.cell (j := 0) rfl
          have b1 := M3.out.k2.cell (j := 1) rfl
          have f0 := M3.out.k2.free 0
          have f1 := M3.out.k2.free 1
          by_cases e2 : (bestM d k).1 < g
          · have HS3 : Hid (bestM d (k + 1) = (g, r)) := by show _ = _; rw [HS2.out, if_pos ⟨e1, e2⟩]
            have M5 := hid ((M3.out.set g r).below (below_new (o := .cells #[.int .i64 g, .int .i64 r] 41) (Below.refl _ _)))
            clear HS2 e1 M3 M4 K4
            generalize (bestM d k).1 = q1 at *
            generalize (bestM d k).2 = q2 at *
            have s4 := S4.out
            go_wp2
            go_roundw
            case rel => exact ⟨k + 1, by omega, by go_num, by rw [HS3.out]; exact M5.out⟩
            case measure => simp [intOf]; omega
          · have HS3 : Hid (bestM d (k + 1) = bestM d k) := by show _ = _; rw [HS2.out, if_neg (fun h => e2 h.2)]
            clear HS2 e1 M3 K4
            have HM4 : Hid (Mx5 w (w3.alloc (.cells #[.int .i64 g, .int .i64 r] 41)) sa sn sc da dn dc (bestM d (k + 1))) := by rw [HS3.out]; exact M4.out
            clear M4 HS3
            generalize (bestM d k).1 = q1 at *
            have s4 := S4.out
            go_wp2
            go_roundw
            case rel => exact ⟨k + 1, by omega, by go_num, HM4.out⟩
            case measure => simp [intOf]; omega
        · have e1' : (p == (k : Int)) = false := by simp [e1]
          have HS3 : Hid (bestM d (k + 1) = bestM d k) := by show _ = _; rw [HS2.out, if_neg (fun h => e1 h.1)]
          have HM4 : Hid (Mx5 w (w3.alloc (.cells #[.int .i64 g, .int .i64 r] 41)) sa sn sc da dn dc (bestM d (k + 1))) := by rw [HS3.out]; exact M4.out
          clear HS2 HS3 M4 M3 K4
          go_wp2
          go_roundw
          case rel => exact ⟨k + 1, by omega, by go_num, HM4.out⟩
          case measure => simp [intOf]; omega
    · have hk2 : k = 2 := by omega
      subst hk2
      have b0 := MM.out.k2.cell (j := 0) rfl
      have b1 := MM.out.k2.cell (j := 1) rfl
      have r0 := MM.out.k1.cell (j := 0) rfl
      have r1 := MM.out.k1.cell (j := 1) rfl
      have f0 := MM.out.k1.free 0
      have f1 := MM.out.k1.free 1
      generalize hq1 : (bestM d 2).1 = q1 at *
      generalize hq2 : (bestM d 2).2 = q2 at *
      have HB := hid MM.out.bel
      have HQ1 := hid hq1
      have HQ2 := hid hq2
      clear MM hq1 hq2
      go_wp2_with fail
      go_region_held3 (fun v => v.cell? ⟨w.heap.size + 1 + 1, 0, none⟩ = some (.int .i64 q1) ∧ v.cell? ⟨w.heap.size + 1 + 1, 1, none⟩ = some (.int .i64 q2))
        (first | assumption | (refine ⟨?_, ?_⟩ <;> go_simp))
        (first | fail)
      all_goals go_wp2
      all_goals try simp only [Exit.inBlock, Exit.then]
      all_goals refine bodyPost_ret (v := .tuple #[.agg #[.int .i64 q1, .int .i64 q2], .bool (decide (0 < q1))]) ?_ rfl ?_
      all_goals first
        | exact results_mt2 rfl _ _ _ rfl rfl (by go_simp) (by go_simp)
        | exact ⟨by rw [HQ1.out, HQ2.out], ((HB.out.setCell (p := ⟨w.heap.size + 1, 0, none⟩) (Nat.le_succ _) _).setCell (p := ⟨w.heap.size + 1, 1, none⟩) (Nat.le_succ _) _).trans (below_drew' _)⟩
theorem metaPlace_any (g : Int) (w : World) (h : 0 ≤ g) : Calls Tryd.prog 42 #[.int .i64 g] w fun e w' => e = .returned (.int .i64 (g % 2)) ∧ w' = w := by
  have hmod : g.tmod 2 = g % 2 := Int.tmod_eq_emod_of_nonneg h
  have hr : 0 ≤ g % 2 ∧ g % 2 < 2 := by omega
  generalize g % 2 = p at *
  go_enter Tryd.func42, Tryd.ntmps42
  go_wp2
  go_ret
  exact ⟨by simp, rfl⟩
set_option maxHeartbeats 8000000 in
set_option maxRecDepth 20000 in
theorem implDiskMeta_any (S : Nat → Prop) (sa : Option Addr) (sn sc : Nat) (da : Option Addr) (dn dc : Nat) (d : DK) (w : World) (h : Dk w S sa sn sc da dn dc d) (hsm : smallD d) (he : Err w 0) (he2 : Err w 1) :
    Calls Tryd.prog 17 #[.agg #[.slice sa sn sc, .slice da dn dc]] w fun e w' => e = .returned (.tuple #[.agg #[.int .i64 (bestM d 2).1, .int .i64 (bestM d 2).2], .bool (decide (0 < (bestM d 2).1))]) ∧ Below w.heap.size w w' := by
  have HH := hid h
  have HSM := hid hsm
  have HBY := hid h.bytes
  have M0 := hid (Mx5.start w sa sn sc da dn dc)
  have HE := hid he
  have HE2 := hid he2
  clear h hsm he he2
  go_enter Tryd.func17, Tryd.ntmps17
  go_wp2_with fail
  go_loopw [10] (fun i wr => ∃ k : Nat, k ≤ 2 ∧ i = .int .i64 k ∧ Hid (Mx5 w wr sa sn sc da dn dc (bestM d k))) (fun i _ => 2 - (intOf i).toNat)
  case atStart => exact ⟨0, by omega, rfl, M0.out⟩
  case round =>
    obtain ⟨k, hk, rfl, MM⟩ := hrel
    clear M0
    by_cases hlt : k < 2
    · have hlt' : (k : Int) < 2 := by omega
      have d0 := MM.out.k0.cell (j := 0) rfl
      have d1 := MM.out.k0.cell (j := 1) rfl
      go_wp2_with fail
      refine (implDiskRead_any S sa sn sc da dn dc d (k : Int) wr (HH.out.below MM.out.bel) HSM.out (HE.out.below MM.out.bel HE.out.lt) (HE2.out.below MM.out.bel HE2.out.lt)).mono ?_
      rintro e w2 ⟨a2, n2, c2, rfl, hO, hb⟩
      have M2 := hid (MM.out.below hb)
      have HRD := hid (ob_rd hO (rdV_facts HBY.out (k : Int)).1 (by have := (rdV_facts HBY.out (k : Int)).2; omega)).1
      have HST : Hid (bestM d (k + 1) = stepM (mrd ((rdV d (k : Int)).getD [])) k (bestM d k)) := rfl
      have HNO : Hid ((rdV d (k : Int)).isSome = false → mrd ((rdV d (k : Int)).getD []) = none) := fun e => by
        cases e2 : rdV d (k : Int) with
        | none => exact mrd_nil
        | some z => rw [e2] at e; cases e
      clear hO hb d0 d1 MM
      generalize (rdV d (k : Int)).isSome = Z at *
      generalize (rdV d (k : Int)).getD [] = zs at *
      go_wp2_with fail
      refine (implMetaRead_any a2 n2 c2 zs _ HRD.out (HE.out.below M2.out.bel HE.out.lt) (HE2.out.below M2.out.bel HE2.out.lt)).mono ?_
      rintro e w3 ⟨hb, hor⟩
      have M3 := hid (M2.out.below hb)
      clear hb M2 HRD
      rcases hor with ⟨hn, rfl⟩ | ⟨g, r, hs, rfl⟩
      · have M4 := hid (M3.out.below (below_new (o := .cells #[.int .i64 0, .int .i64 0] 41) (w := w3) (Below.refl _ _)))
        have HS2 : Hid (bestM d (k + 1) = bestM d k) := by show _ = _; rw [HST.out, hn]; rfl
        clear hn M3 HST HNO
        cases Z with
        | true =>
          go_wp2
          go_roundw
          case rel => exact ⟨k + 1, by omega, by go_num, by rw [HS2.out]; exact M4.out⟩
          case measure => simp [intOf]; omega
        | false =>
          go_wp2
          go_roundw
          case rel => exact ⟨k + 1, by omega, by go_num, by rw [HS2.out]; exact M4.out⟩
          case measure => simp [intOf]; omega
      · have hZ : Z = true := by
          cases Z with
          | true => rfl
          | false => rw [HNO.out rfl] at hs; cases hs
        subst hZ
        have hg := mrd_gen hs
        have hmod : g.tmod 2 = g % 2 := Int.tmod_eq_emod_of_nonneg (by omega)
        have M4 := hid (M3.out.below (below_new (o := .cells #[.int .i64 g, .int .i64 r] 41) (w := w3) (Below.refl _ _)))
        have K4 := hid (Bk.new w3 41 [.int .i64 g, .int .i64 r])
        rw [hs] at HST
        have HS2 : Hid (bestM d (k + 1) = if g % 2 = (k : Int) ∧ (bestM d k).1 < g then (g, r) else bestM d k) := HST
        have S4 : Hid (w.heap.size + 1 + 1 < w3.heap.size) := M3.out.k2.lt
        clear hs HST HNO
        have HMP := hid (metaPlace_any g (w3.alloc (.cells #[.int .i64 g, .int .i64 r] 41)) (by omega))
        generalize g % 2 = p at *
        go_wp2_with fail
        refine HMP.out.mono ?_
        rintro e w4' ⟨rfl, rfl⟩
        clear hmod
        by_cases e1 : p = (k : Int)
        · have e1' : (p == (k : Int)) = true := by simp [e1]
          have b0 := M3.out.k2.cell (j := 0) rfl
          have b1 := M3.out.k2.cell (j := 1) rfl
          have f0 := M3.out.k2.free 0
          have f1 := M3.out.k2.free 1
          by_cases e2 : (bestM d k).1 < g
          · have HS3 : Hid (bestM d (k + 1) = (g, r)) := by show _ = _; rw [HS2.out, if_pos ⟨e1, e2⟩]
            have M5 := hid ((M3.out.set g r).below (below_new (o := .cells #[.int .i64 g, .int .i64 r] 41) (Below.refl _ _)))
            clear HS2 e1 M3 M4 K4
            generalize (bestM d k).1 = q1 at *
            generalize (bestM d k).2 = q2 at *
            have s4 := S4.out
            go_wp2
            go_roundw
            case rel => exact ⟨k + 1, by omega, by go_num, by rw [HS3.out]; exact M5.out⟩
            case measure => simp [intOf]; omega
          · have HS3 : Hid (bestM d (k + 1) = bestM d k) := by show _ = _; rw [HS2.out, if_neg (fun h => e2 h.2)]
            clear HS2 e1 M3 K4
            have HM4 : Hid (Mx5 w (w3.alloc (.cells #[.int .i64 g, .int .i64 r] 41)) sa sn sc da dn dc (bestM d (k + 1))) := by rw [HS3.out]; exact M4.out
            clear M4 HS3
            generalize (bestM d k).1 = q1 at *
            have s4 := S4.out
            go_wp2
            go_roundw
            case rel => exact ⟨k + 1, by omega, by go_num, HM4.out⟩
            case measure => simp [intOf]; omega
        · have e1' : (p == (k : Int)) = false := by simp [e1]
          have HS3 : Hid (bestM d (k + 1) = bestM d k) := by show _ = _; rw [HS2.out, if_neg (fun h => e1 h.1)]
          have HM4 : Hid (Mx5 w (w3.alloc (.cells #[.int .i64 g, .int .i64 r] 41)) sa sn sc da dn dc (bestM d (k + 1))) := by rw [HS3.out]; exact M4.out
          clear HS2 HS3 M4 M3 K4
          go_wp2
          go_roundw
          case rel => exact ⟨k + 1, by omega, by go_num, HM4.out⟩
          case measure => simp [intOf]; omega
    · have hk2 : k = 2 := by omega
      subst hk2
      have b0 := MM.out.k2.cell (j := 0) rfl
      have b1 := MM.out.k2.cell (j := 1) rfl
      have r0 := MM.out.k1.cell (j := 0) rfl
      have r1 := MM.out.k1.cell (j := 1) rfl
      have f0 := MM.out.k1.free 0
      have f1 := MM.out.k1.free 1
      generalize hq1 : (bestM d 2).1 = q1 at *
      generalize hq2 : (bestM d 2).2 = q2 at *
      have HB := hid MM.out.bel
      have HQ1 := hid hq1
      have HQ2 := hid hq2
      clear MM hq1 hq2
      go_wp2_with fail
      go_region_held3 (fun v => v.cell? ⟨w.heap.size + 1 + 1, 0, none⟩ = some (.int .i64 q1) ∧ v.cell? ⟨w.heap.size + 1 + 1, 1, none⟩ = some (.int .i64 q2))
        (first | assumption | (refine ⟨?_, ?_⟩ <;> go_simp))
        (first | fail)
      all_goals go_wp2
      all_goals try simp only [Exit.inBlock, Exit.then]
      all_goals refine bodyPost_ret (v := .tuple #[.agg #[.int .i64 q1, .int .i64 q2], .bool (decide (0 < q1))]) ?_ rfl ?_
      all_goals first
        | exact results_mt2 rfl _ _ _ rfl rfl (by go_simp) (by go_simp)
        | exact ⟨by rw [HQ1.out, HQ2.out], ((HB.out.setCell (p := ⟨w.heap.size + 1, 0, none⟩) (Nat.le_succ _) _).setCell (p := ⟨w.heap.size + 1, 1, none⟩) (Nat.le_succ _) _).trans (below_drew' _)⟩
end Go.Proofs.YtijinngmfalfcabDoor

