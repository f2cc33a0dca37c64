/-
  The law FnExactDiskRead answers true at every disk and place.
-/
import Derived.Test.YtijinngmfalfcaaDoorLwDN
import Derived.Test.YtijinngmfalfcaaDoorDkS
import Derived.Test.YtijinngmfalfcaaDoorLwT
namespace Go.Proofs.YtijinngmfalfcaaDoor
open Go.RowKit
set_option linter.unusedVariables false
theorem byt_nil : byt [] := fun i => by simp
theorem Dk.bytes {w : World} {S : Nat → Prop} {sa : Option Addr} {sn sc : Nat} {da : Option Addr} {dn dc : Nat} {d : DK} (h : Dk w S sa sn sc da dn dc d) : (∀ i, byt (shAt d.sh i)) ∧ ∀ i, byt (dwAt d.dw i).2 := by
  obtain ⟨V, h1, h2, h3⟩ := h.hs
  obtain ⟨U, k1, k2, k3⟩ := h.hd
  refine ⟨fun i => ?_, fun i => ?_⟩
  · by_cases hi : i < d.sh.length
    · exact (h3 i hi).2
    · rw [show shAt d.sh i = [] by simp [shAt, show d.sh.length ≤ i by omega]]; exact byt_nil
  · by_cases hi : i < d.dw.length
    · exact (k3 i hi).2.2
    · rw [show dwAt d.dw i = (0, []) by simp [dwAt, show d.dw.length ≤ i by omega]]; exact byt_nil
theorem byt_sheet {l : List Int} (h : byt l) : byt (sheet l) := by
  unfold sheet
  split
  · intro i
    rw [List.getElem?_replicate]
    split <;> exact ⟨by decide, by decide⟩
  · exact h
theorem lastW_facts {ds : List DW} {t : Int} (hb : ∀ i, byt (dwAt ds i).2) : ∀ k, k ≤ ds.length → (∀ i, i < ds.length → (dwAt ds i).2.length = 512) → ∀ z, lastW ds t k = some z → byt z ∧ z.length = 512 := by
  intro k
  induction k with
  | zero => intro _ _ z hz; cases hz
  | succ k ih =>
    intro hk hl z hz
    rw [lastW] at hz
    split at hz
    · cases hz; exact ⟨hb k, hl k (by omega)⟩
    · exact ih (by omega) hl z hz
theorem rdV_facts {d : DK} (hb : (∀ i, byt (shAt d.sh i)) ∧ ∀ i, byt (dwAt d.dw i).2) (t : Int) : byt ((rdV d t).getD []) ∧ ((rdV d t).getD []).length ≤ 512 := by
  unfold rdV
  split
  · rename_i hh
    obtain ⟨hok, h0, h1⟩ := hh
    have hk := (dkOk_iff d).1 hok
    rw [Option.getD_some]
    cases e : lastW d.dw t d.dw.length with
    | some z =>
      have := lastW_facts hb.2 d.dw.length (Nat.le_refl _) (fun i hi => ((wrtOk_iff _ _).1 (hk.2.2.2.2 i hi)).2.2) z e
      exact ⟨this.1, by rw [Option.getD_some]; omega⟩
    | none =>
      rw [Option.getD_none]
      exact ⟨byt_sheet (hb.1 _), Nat.le_of_eq (sheet_len (by rw [shOk_sht]; exact hk.2.2.2.1 _ (by omega)))⟩
  · exact ⟨byt_nil, by simp⟩
theorem ob_rd {w : World} {B : Nat} {a : Option Addr} {n c : Nat} {zs : List Int} (h : Ob w B (.slice a n c) zs) (hb : byt zs) (hl : zs.length ≤ 1048576) : Rd w a n c zs ∧ n = zs.length := by
  obtain ⟨a', c', e, hr, _⟩ := Ob.rd h hb (by omega)
  cases e
  exact ⟨hr, rfl⟩
theorem ob_to {w w' : World} {B : Nat} {R : Nat → Prop} {v : Value} {zs : List Int} (h : Ob w B v zs) (ho : Only R w w') (hR : ∀ y, v.ownBlock = some y → ¬ R y) : Ob w' B v zs := own_kept h ho hR
theorem ob_bel {w w' : World} {B : Nat} {v : Value} {zs : List Int} (h : Ob w B v zs) (hb : Below w.heap.size w w') : Ob w' B v zs := own_kept h (only_of_below hb (fun _ => False)) (fun _ _ h => h)
set_option maxHeartbeats 8000000 in
set_option maxRecDepth 20000 in
theorem lawDiskRead_walk (sa : Option Addr) (sn sc : Nat) (da : Option Addr) (dn dc : Nat) (d : DK) (t : Int) (w : World) (h : Dk w (fun _ => True) sa sn sc da dn dc d) (_ht : (Lit.int .i64 t).wf = true) (he : Err w 1) (he2 : Err w 0) (_l1 : 1 < w.heap.size) (_l2 : 0 < w.heap.size) :
    Calls Tryd.prog 3 #[.agg #[.slice sa sn sc, .slice da dn dc], .int .i64 t] w fun e w' => e = .returned (.bool true) ∧ Below w.heap.size w w' := by
  have X0 := hid (DX.start h)
  have NS := hid h.hs.len.1
  have ND := hid h.hd.len.1
  have HRF := hid (rdV_facts h.bytes t)
  have HE := hid he
  have HE2 := hid he2
  clear h _ht _l1 _l2 he he2
  go_enter Tryd.func3, Tryd.ntmps3
  go_wp2_with fail
  refine (szDisk_any _ sa sn sc da dn dc d _ X0.out.hA).mono ?_
  generalize w.alloc (.cells #[.slice sa sn sc, .slice da dn dc] 25) = U at *
  rintro e w1 ⟨⟨x, rfl, hx1, hx2, hx3⟩, hb⟩
  have X1 := hid (X0.out.below hb)
  have HX := hid hx3
  clear hb hx3 X0
  by_cases hneg : x < 0
  · go_wp2
    go_ret
    exact ⟨rfl, X1.out.bel⟩
  · have HSM := hid (small_of_sum (HX.out (by omega))).1
    have HTO := hid (tot_of_sum (HX.out (by omega)))
    have m0 : sn ≤ 1048576 := by rw [NS.out]; exact (small_of_sum (HX.out (by omega))).2.1
    have m1 : dn ≤ 1048576 := by rw [ND.out]; exact (small_of_sum (HX.out (by omega))).2.2
    clear HX
    have HSP : Hid (∀ (v : World) g0 g1 V Uu, DO v 0 (.slice (some ⟨g0, 0, none⟩) sn sn) V (.slice (some ⟨g1, 0, none⟩) dn dn) Uu d → Calls Tryd.prog 5 #[.agg #[.slice (some ⟨g0, 0, none⟩) sn sn, .slice (some ⟨g1, 0, none⟩) dn dn], .int .i64 t] v fun e w' => RdPost (rdV d t) v e w') := fun v g0 g1 V Uu hO => specDiskRead_any (fun _ => True) _ _ _ _ _ _ d t v (hO.dk (fun _ _ => trivial)) HSM.out
    have HIM : Hid (∀ (v : World) g0 g1 V Uu, DO v 0 (.slice (some ⟨g0, 0, none⟩) sn sn) V (.slice (some ⟨g1, 0, none⟩) dn dn) Uu d → Below w.heap.size w v → Calls Tryd.prog 7 #[.agg #[.slice (some ⟨g0, 0, none⟩) sn sn, .slice (some ⟨g1, 0, none⟩) dn dn], .int .i64 t] v fun e w' => RdPost (rdV d t) v e w') := fun v g0 g1 V Uu hO hB => implDiskRead_any (fun _ => True) _ _ _ _ _ _ d t v (hO.dk (fun _ _ => trivial)) HSM.out (HE.out.below hB HE.out.lt) (HE2.out.below hB HE2.out.lt)
    generalize rdV d t = o at *
    have hoo : (o.isSome != o.isSome) = false := by simp
    generalize hZ : o.isSome = Z at *
    have HZ := hid hZ
    generalize hdd : o.getD [] = out at *
    have HDD := hid hdd
    clear hZ hdd HE HE2
    obtain ⟨x0, x1⟩ := X1.out.cells
    go_wp2_with fail
    refine (toDisk_any _ sa sn sc da dn dc d _ X1.out.hA m0 m1 HSM.out).mono ?_
    rintro e w2 ⟨g0, g1, V, Uu, rfl, hO, hb⟩
    have X2 := hid (X1.out.below hb)
    have C2 := hid (hO.base (Nat.zero_le _))
    clear hb X1 hO x0 x1
    go_wp2_with fail
    refine (HSP.out _ _ _ _ _ C2.out).mono ?_
    rintro e w3 ⟨a0, n0, c0, rfl, hO, hb⟩
    rw [HDD.out] at hO
    rw [HZ.out]
    have X3 := hid (X2.out.below hb)
    have W3 := hid hO
    clear hb X2 C2 hO HSP
    obtain ⟨x0, x1⟩ := X3.out.cells
    go_wp2_with fail
    refine (toDisk_any _ sa sn sc da dn dc d _ X3.out.hA m0 m1 HSM.out).mono ?_
    rintro e w4 ⟨h0, h1, V4, U4, rfl, hO, hb⟩
    have hb2 := bt5 hb (below_new (o := .cells #[.slice (some ⟨h0, 0, none⟩) sn sn, .slice (some ⟨h1, 0, none⟩) dn dn] 33) (w := w4) (Below.refl _ _))
    have X5 := hid (X3.out.below hb2)
    have W5 := hid (ob_bel W3.out hb2)
    have D5 := hid (DB.new hO)
    have SW : Hid (∀ y, (Value.slice a0 n0 c0).ownBlock = some y → y < w3.heap.size) := fun y e => (World.ownsRow.lt W3.out y e).2
    have S3 : Hid (w.heap.size < w3.heap.size) := X3.out.kA.lt
    clear hb hb2 hO X3 x0 x1 W3
    go_wp2_with fail
    refine (HIM.out _ _ _ _ _ (D5.out.own.base (Nat.zero_le _)) X5.out.bel).mono ?_
    generalize w4.alloc (.cells #[.slice (some ⟨h0, 0, none⟩) sn sn, .slice (some ⟨h1, 0, none⟩) dn dn] 33) = w5 at *
    generalize w4.heap.size = b4 at *
    rintro e w6 ⟨a1, n1, c1, rfl, hO, hb⟩
    rw [HDD.out] at hO
    rw [HZ.out]
    have X6 := hid (X5.out.below hb)
    have W6 := hid (ob_bel W5.out hb)
    have D6 := hid (D5.out.below hb)
    have G6 := hid hO
    have SD : Hid (∀ y, dbl (.slice (some ⟨h0, 0, none⟩) sn sn) V4 (.slice (some ⟨h1, 0, none⟩) dn dn) U4 y → y < w5.heap.size) := fun y e => (D5.out.own.lt e).2
    have SB : Hid (b4 < w5.heap.size) := D5.out.box.lt
    have S35 : Hid (w3.heap.size ≤ w5.heap.size) := by
      have h1 := D5.out.own.lt (y := h0) (.inl (.inl rfl))
      show _ ≤ _
      omega
    have SG : Hid (∀ y, (Value.slice a1 n1 c1).ownBlock = some y → w5.heap.size ≤ y) := fun y e => (World.ownsRow.lt hO y e).1
    clear hb hO X5 W5 D5
    have HQ : Hid (byt out ∧ out.length ≤ 1048576) := ⟨HRF.out.1, by have := HRF.out.2; omega⟩
    go_wp2_with fail
    refine (eqByteS_same a1 a0 n1 n0 c1 c0 out _ (ob_rd G6.out HQ.out.1 HQ.out.2).1 (ob_rd W6.out HQ.out.1 HQ.out.2).1).mono ?_
    rintro e w7 ⟨rfl, q7, hw7⟩
    have hb : Below w6.heap.size w6 w7 := by rw [hw7]; exact Below.drewN' (Below.refl _ _) q7
    have X7 := hid (X6.out.below hb)
    have W7 := hid (ob_bel W6.out hb)
    have D7 := hid (D6.out.below hb)
    have G7 := hid (ob_bel G6.out hb)
    clear hb hw7 X6 W6 D6 G6
    obtain ⟨x0, x1⟩ := X7.out.cells
    obtain ⟨y0, y1⟩ := D7.out.cells
    have X8 := hid (X7.out.below (below_drew _))
    have D8 := hid (D7.out.below (below_drew _))
    have W8 := hid (ob_bel W7.out (below_drew _))
    have G8 := hid (ob_bel G7.out (below_drew _))
    go_wp2_with fail
    go_cut [49] (fun x v => x = .bool false ∧ DX w v sa sn sc da dn dc d ∧ DB v b4 w3.heap.size (some ⟨h0, 0, none⟩) sn sn (some ⟨h1, 0, none⟩) dn dn V4 U4 d ∧ Ob v w2.heap.size (.slice a0 n0 c0) out ∧ Ob v w5.heap.size (.slice a1 n1 c1) out)
    case first =>
      go_region_with (first
        | (go_at_call 6; refine (toDisk_any _ sa sn sc da dn dc d _ X8.out.hA m0 m1 HSM.out).mono ?_; rintro e w8 ⟨f0, f1, V8, U8, rfl, hO8, hb8⟩; have z0 := (D8.out.below hb8).cells.1; have z1 := (D8.out.below hb8).cells.2)
        | (go_at_call 9; refine (eqDisk_any (fun _ => True) (fun _ => True) _ _ _ _ _ _ d _ _ _ _ _ _ d _ (D8.out.below hb8).dk (hO8.dk (S := fun _ => True) (fun _ _ => trivial)) HSM.out HSM.out).mono ?_; rintro e w9 ⟨rfl, hb9⟩))
      all_goals (go_wp2_with fail; go_meet)
      all_goals exact ⟨by simp, (X8.out.below hb8).below hb9, (D8.out.below hb8).below hb9, ob_bel (ob_bel W8.out hb8) hb9, ob_bel (ob_bel G8.out hb8) hb9⟩
    case rest =>
      rename_i vN
      obtain ⟨rfl, hX, hD, hW, hG⟩ := hcut
      have X9 := hid hX
      have D9 := hid hD
      have W9 := hid hW
      have G9 := hid hG
      clear hX hD hW hG X7 W7 D7 G7 X8 D8 W8 G8 x0 x1 y0 y1
      obtain ⟨y0, y1⟩ := D9.out.cells
      go_wp2_with fail
      refine (markDisk_ex _ _ _ _ _ _ _ 1 V4 U4 d _ D9.out.own HTO.out (by omega) (by omega)).mono ?_
      rintro e w10 ⟨rfl, hm, ho⟩
      have X10 := hid (X9.out.only ho (fun b hb => by have h1 := (D9.out.own.lt hb).1; have h3 := S3.out; omega))
      have W10 := hid (ob_to W9.out ho (fun y e e2 => by have h1 := SW.out y e; have h2 := (D9.out.own.lt e2).1; omega))
      have G10 := hid (ob_to G9.out ho (fun y e e2 => by have h1 := SG.out y e; have h2 := SD.out y e2; omega))
      clear hm ho X9 D9 W9 G9 y0 y1
      have hkn : ¬ ((1 + dkTot d : Nat) : Int) < 0 := by omega
      generalize 1 + dkTot d = kk at *
      go_wp2_with fail
      refine (eqByteS_same a1 a0 n1 n0 c1 c0 out _ (ob_rd G10.out HQ.out.1 HQ.out.2).1 (ob_rd W10.out HQ.out.1 HQ.out.2).1).mono ?_
      rintro e w11 ⟨rfl, q11, hw11⟩
      have hb : Below w10.heap.size w10 w11 := by rw [hw11]; exact Below.drewN' (Below.refl _ _) q11
      have X11 := hid (X10.out.below hb)
      have W11 := hid (ob_bel W10.out hb)
      have G11 := hid (ob_bel G10.out hb)
      clear hb hw11 X10 W10 G10
      have HN1 : Hid (n1 ≤ 1048576) := by show n1 ≤ _; rw [(ob_rd G11.out HQ.out.1 HQ.out.2).2]; exact HQ.out.2
      have hn1 := HN1.out
      go_wp2_with fail
      refine (mark_any a1 n1 c1 out 1 _ (ob_rd G11.out HQ.out.1 HQ.out.2).1 (Ob.wb G11.out rfl n1) (by omega) (by omega)).mono ?_
      rintro e w12 ⟨rfl, hr12, hg12⟩
      have ho : Only (fun y => (Value.slice a1 n1 c1).ownBlock = some y) w11 w12 := only_of_grown hg12 (fun k e => by rw [ownBlock_map]; exact e)
      have X12 := hid (X11.out.only ho (fun b hb => by have h1 := SG.out b hb; have h2 := S35.out; have h3 := S3.out; omega))
      have W12 := hid (ob_to W11.out ho (fun y e e2 => by have h1 := SW.out y e; have h2 := SG.out y e2; have h3 := S35.out; omega))
      have R12 := hid hr12
      clear ho hr12 hg12 X11 W11 G11
      have hq0 : ¬ ((1 : Int) + (n1 : Int)) < 0 := by omega
      have hqq : (((1 : Int) + (n1 : Int)) != ((1 : Int) + (n1 : Int))) = false := by simp
      go_wp2_with fail
      refine (held_any a1 n1 c1 1 _ R12.out (by omega) (by omega)).mono ?_
      rintro e w12' ⟨rfl, rfl⟩
      obtain ⟨x0, x1⟩ := X12.out.cells
      go_wp2_with fail
      refine (toDisk_any _ sa sn sc da dn dc d _ X12.out.hA m0 m1 HSM.out).mono ?_
      rintro e w13 ⟨f0, f1, V13, U13, rfl, hO, hb⟩
      have X13 := hid (X12.out.below hb)
      have W13 := hid (ob_bel W12.out hb)
      have R13 := hid (R12.out.kept hb)
      have C13 := hid (hO.base (Nat.zero_le _))
      clear hO hb X12 W12 R12 x0 x1
      go_wp2_with fail
      refine (HIM.out _ _ _ _ _ C13.out X13.out.bel).mono ?_
      rintro e w14 ⟨a2, n2, c2, rfl, hO, hb⟩
      rw [HDD.out] at hO
      rw [HZ.out]
      have X14 := hid (X13.out.below hb)
      have W14 := hid (ob_bel W13.out hb)
      have R14 := hid (R13.out.kept hb)
      have H14 := hid hO
      clear hO hb X13 W13 R13 C13
      go_wp2_with fail
      refine (eqByteS_same a2 a0 n2 n0 c2 c0 out _ (ob_rd H14.out HQ.out.1 HQ.out.2).1 (ob_rd W14.out HQ.out.1 HQ.out.2).1).mono ?_
      rintro e w15 ⟨rfl, q15, hw15⟩
      have hb : Below w14.heap.size w14 w15 := by rw [hw15]; exact Below.drewN' (Below.refl _ _) q15
      have X15 := hid (X14.out.below hb)
      have R15 := hid (R14.out.kept hb)
      clear hb hw15 X14 W14 R14 H14
      go_wp2_with fail
      refine (held_any a1 n1 c1 1 _ R15.out (by omega) (by omega)).mono ?_
      rintro e w16 ⟨rfl, rfl⟩
      go_wp2
      go_ret
      exact ⟨rfl, X15.out.bel⟩
end Go.Proofs.YtijinngmfalfcaaDoor

