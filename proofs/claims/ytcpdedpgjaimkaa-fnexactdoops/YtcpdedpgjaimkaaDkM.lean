/-
  What the law's helpers do with disks: copied whole.
-/
import Derived.Test.YtcpdedpgjaimkaaDkL
namespace Go.Proofs.Ytcpdedpgjaimkaa
open Go.RowKit
set_option linter.unusedVariables false
/-- Of the byte lists behind a row's cells the first k are there, each its own and apart. -/
structure SL (w : World) (B k : Nat) (V : List Value) (ss : List (List Int)) : Prop where
  own : ∀ i, i < k → Ob w B (uAt V i) (shAt ss i) ∧ byt (shAt ss i)
  apart : ∀ i j, i < k → j < k → i ≠ j → ∀ y, (uAt V i).ownBlock = some y → (uAt V j).ownBlock ≠ some y
theorem sl_zero (w : World) (B : Nat) (V : List Value) (ss : List (List Int)) : SL w B 0 V ss := ⟨fun i hi => absurd hi (Nat.not_lt_zero _), fun i j hi => absurd hi (Nat.not_lt_zero _)⟩
theorem SL.put {w w1 w2 : World} {B k g0 : Nat} {V : List Value} {ss : List (List Int)} {p : Value} (h : SL w B k V ss) (hb : Below w.heap.size w w1) (hp : Ob w1 w.heap.size p (shAt ss k)) (hby : byt (shAt ss k)) (o : Only (fun y => y = g0) w1 w2) (hg : g0 < B) (hB : B ≤ w.heap.size) (hk : k < V.length) : SL w2 B (k + 1) (V.set k p) ss := by
  have hnew : ∀ y, p.ownBlock = some y → w.heap.size ≤ y := fun y e => (World.ownsRow.lt hp y e).1
  have hold : ∀ i, i < k → ∀ y, (uAt V i).ownBlock = some y → B ≤ y ∧ y < w.heap.size := fun i hi y e => World.ownsRow.lt (h.own i hi).1 y e
  refine ⟨fun i hi => ?_, fun i j hi hj hij y hy hz => ?_⟩
  · by_cases e : i = k
    · subst e
      rw [uAt_set hk]
      exact ⟨ownD_base (own_kept hp o (fun y e e2 => by have := hnew y e; omega)) hB, hby⟩
    · rw [uAt_other e]
      exact ⟨own_kept (own_kept (h.own i (by omega)).1 (only_of_below hb (fun _ => False)) (fun _ _ h => h)) o (fun y e e2 => by have := (hold i (by omega) y e).1; omega), (h.own i (by omega)).2⟩
  · by_cases e : i = k
    · subst e
      rw [uAt_set hk] at hy
      rw [uAt_other (Ne.symm hij)] at hz
      have := hnew y hy
      have := (hold j (by omega) y hz).2
      omega
    · rw [uAt_other e] at hy
      by_cases e2 : j = k
      · subst e2
        rw [uAt_set hk] at hz
        have := hnew y hz
        have := (hold i (by omega) y hy).2
        omega
      · rw [uAt_other e2] at hz
        exact h.apart i j (by omega) (by omega) hij y hy hz
theorem SL.so {w : World} {B g n : Nat} {V : List Value} {ss : List (List Int)} (h : SL w B n V ss) (hn : n = ss.length) (hl : V.length = n) (hk : Bk w g 119 V) (hg : g < B) (hn2 : n ≤ 1048576) : SOw w g (.slice (some ⟨g, 0, none⟩) n n) V ss := by
  subst hn
  refine ⟨hl, bk_own hk (by omega) hn2 (Nat.le_refl _), fun i hi => ⟨ownD_base (h.own i hi).1 (by omega), (h.own i hi).2⟩, h.apart, fun i hi y hy e => ?_⟩
  have := (World.ownsRow.lt (h.own i hi).1 y hy).1
  have e' : g = y := by simpa [Value.ownBlock] using e
  omega
theorem uAt_map (U : List (Int × Value)) (i : Nat) : uAt (U.map Prod.snd) i = (xAt U i).2 := by
  simp only [uAt, xAt, List.getElem?_map]
  cases U[i]? <;> rfl
theorem shAt_map (ds : List DW) (i : Nat) : shAt (ds.map Prod.snd) i = (dwAt ds i).2 := by
  simp only [shAt, dwAt, List.getElem?_map]
  cases ds[i]? <;> rfl
theorem SL.wo {w : World} {B g n : Nat} {U : List (Int × Value)} {ds : List DW} (h : SL w B n (U.map Prod.snd) (ds.map Prod.snd)) (ht : ∀ i, i < n → (xAt U i).1 = (dwAt ds i).1) (hn : n = ds.length) (hl : U.length = n) (hk : Bk w g 109 (wcs U)) (hg : g < B) (hn2 : n ≤ 1048576) : WO w g (.slice (some ⟨g, 0, none⟩) n n) U ds := by
  subst hn
  refine ⟨hl, bk_own hk (by rw [wcs_length, hl]) hn2 (Nat.le_refl _), fun i hi => ?_, fun i j hi hj hij y hy => ?_, fun i hi y hy e => ?_⟩
  · have := h.own i hi
    rw [uAt_map, shAt_map] at this
    exact ⟨ht i hi, ownD_base this.1 (by omega), this.2⟩
  · have := h.apart i j hi hj hij y
    rw [uAt_map, uAt_map] at this
    exact this hy
  · have := (h.own i hi).1
    rw [uAt_map] at this
    have := (World.ownsRow.lt this y hy).1
    have e' : g = y := by simpa [Value.ownBlock] using e
    omega
set_option maxHeartbeats 4000000 in
theorem toSheetS_at (S : Nat → Prop) (a : Option Addr) (n c : Nat) (ss : List (List Int)) (w : World) (h : Shr w S (.slice a n c) ss) (hnm : n ≤ 1048576) (hsm : ∀ i, i < ss.length → (shAt ss i).length ≤ 1048576) :
    Calls Try.prog 56 #[.slice a n c] w fun e w' => ∃ V, e = .returned (.slice (some ⟨w.heap.size, 0, none⟩) n n) ∧ SOw w' w.heap.size (.slice (some ⟨w.heap.size, 0, none⟩) n n) V ss ∧ Below w.heap.size w w' := by
  have HN := hid h.len.1
  have H0 := hid h
  have HSM := hid hsm
  clear h hsm
  have hmk := run_make_n (P := Try.prog) 43 119 (.agg #[.slice none 0 0]) 1 24 Try.underlying43 infoSheetI n (by omega) (by omega)
  rw [made_sheets] at hmk
  have h63 : n ≤ 9223372036854775807 := by omega
  have HV0 : Hid ((List.replicate n (Value.slice none 0 0)).length = n) := by show _ = _; simp
  generalize List.replicate n (Value.slice none 0 0) = V0 at *
  go_enter Try.func56, Try.ntmps56
  go_wp2
  go_loopw [4] (fun i wr => ∃ (k : Nat) (V : List Value), k ≤ n ∧ i = .int .i64 k ∧ Hid (V.length = n) ∧ Hid (Bk wr w.heap.size 119 V) ∧ Hid (SL wr (w.heap.size + 1) k V ss) ∧ Hid (Below w.heap.size w wr)) (fun i _ => n - (intOf i).toNat)
  case atStart => exact ⟨0, V0, Nat.zero_le _, rfl, HV0.out, Bk.new _ _ _, sl_zero _ _ _ _, (Below.refl _ _).alloc (Nat.le_refl _) _⟩
  case round =>
    obtain ⟨k, V, hk, rfl, HV, HK, HA, HB⟩ := hrel
    by_cases hlt : k < n
    · have hlt' : (k : Int) < (n : Int) := by omega
      have HP := hid (H0.out.below HB.out)
      obtain ⟨b, off, rfl, _, hbw, hcell⟩ := HP.out.at (by omega)
      obtain ⟨ap, np, cp, c0, hp⟩ := hcell k hlt
      have l0 := hid hp.len.1
      have b0 : np ≤ 1048576 := by rw [l0.out]; exact HSM.out k (by rw [← HN.out]; exact hlt)
      have HPp := hid (hp.rd b0)
      have HBY := hid hp.2
      have HWL : Hid (w.heap.size < wr.heap.size) := HK.out.lt
      clear hcell hbw HP hp
      go_wp2_with fail
      refine (toSheet_any ap np cp (shAt ss k) wr HPp.out).mono ?_
      rintro e w1 ⟨g0, rfl, e0, k0, hb1⟩
      have HK1 := hid (HK.out.below hb1)
      have HB1 := hid (HB.out.trans (hb1.mono HB.out.size))
      have HOB : Hid (Ob w1 wr.heap.size (.slice (some ⟨g0, 0, none⟩) np np) (shAt ss k)) := by
        have := bk_ob (B := wr.heap.size) k0 (by rw [← l0.out]; exact b0) e0
        rw [← l0.out] at this
        exact this
      have HBW := hid hb1
      clear hb1 HB k0 e0 c0 HPp
      have c0 := HK1.out.cell (j := k) (uAt_some (by rw [HV.out]; exact hlt))
      have f0 := HK1.out.free k
      have HK2 := hid (HK1.out.set k (.slice (some ⟨g0, 0, none⟩) np np))
      have HB2 : Hid (Below w.heap.size w (w1.setCell ⟨w.heap.size, k, none⟩ (.slice (some ⟨g0, 0, none⟩) np np))) := HB1.out.setCell (Nat.le_refl _) _
      have HA2 : Hid (SL (w1.setCell ⟨w.heap.size, k, none⟩ (.slice (some ⟨g0, 0, none⟩) np np)) (w.heap.size + 1) (k + 1) (V.set k (.slice (some ⟨g0, 0, none⟩) np np)) ss) :=
        HA.out.put HBW.out HOB.out HBY.out (only_set (R := fun y => y = w.heap.size) rfl _) (Nat.lt_succ_self _) HWL.out (by rw [HV.out]; exact hlt)
      have HV2 : Hid ((V.set k (.slice (some ⟨g0, 0, none⟩) np np)).length = n) := by show _ = _; rw [List.length_set]; exact HV.out
      clear HA HB1 HK1 HOB HBW
      generalize uAt V k = o0 at c0
      go_wp2
      go_roundw
      case rel => exact ⟨k + 1, _, by omega, by go_num, HV2.out, HK2.out, HA2.out, HB2.out⟩
      case measure => simp [intOf]; omega
    · have hk' : k = n := by omega
      have HR : Hid (SOw wr w.heap.size (.slice (some ⟨w.heap.size, 0, none⟩) n n) V ss) := by
        subst hk'
        exact HA.out.so HN.out HV.out HK.out (Nat.lt_succ_self _) hnm
      clear hk'
      go_wp2
      go_ret
      exact ⟨V, rfl, HR.out, HB.out⟩
set_option maxHeartbeats 4000000 in
theorem toWriteS_at (S : Nat → Prop) (a : Option Addr) (n c : Nat) (ds : List DW) (w : World) (h : Wrr w S (.slice a n c) ds) (hnm : n ≤ 1048576) (hsm : ∀ i, i < ds.length → (dwAt ds i).2.length ≤ 1048576) :
    Calls Try.prog 57 #[.slice a n c] w fun e w' => ∃ U, e = .returned (.slice (some ⟨w.heap.size, 0, none⟩) n n) ∧ WO w' w.heap.size (.slice (some ⟨w.heap.size, 0, none⟩) n n) U ds ∧ Below w.heap.size w w' := by
  have HN := hid h.len.1
  have H0 := hid h
  have HSM := hid hsm
  clear h hsm
  have hmk := run_make_n (P := Try.prog) 44 109 (.agg #[.int .i64 0, .slice none 0 0]) 2 32 Try.underlying44 infoWriteI n (by omega) (by omega)
  rw [made_writes] at hmk
  have h63 : n ≤ 9223372036854775807 := by omega
  have HV0 : Hid ((List.replicate n ((0, .slice none 0 0) : Int × Value)).length = n) := by show _ = _; simp
  generalize List.replicate n ((0, .slice none 0 0) : Int × Value) = V0 at *
  go_enter Try.func57, Try.ntmps57
  go_wp2
  go_loopw [4] (fun i wr => ∃ (k : Nat) (V : List (Int × Value)), k ≤ n ∧ i = .int .i64 k ∧ Hid (V.length = n) ∧ Hid (Bk wr w.heap.size 109 (wcs V)) ∧ Hid (SL wr (w.heap.size + 1) k (V.map Prod.snd) (ds.map Prod.snd)) ∧ Hid (∀ i, i < k → (xAt V i).1 = (dwAt ds i).1) ∧ Hid (Below w.heap.size w wr)) (fun i _ => n - (intOf i).toNat)
  case atStart => exact ⟨0, V0, Nat.zero_le _, rfl, HV0.out, Bk.new _ _ _, sl_zero _ _ _ _, fun i hi => absurd hi (Nat.not_lt_zero _), (Below.refl _ _).alloc (Nat.le_refl _) _⟩
  case round =>
    obtain ⟨k, V, hk, rfl, HV, HK, HA, HT, HB⟩ := hrel
    by_cases hlt : k < n
    · have hlt' : (k : Int) < (n : Int) := by omega
      have HP := hid (H0.out.below HB.out)
      obtain ⟨b, off, rfl, _, hbw, hcell⟩ := HP.out.at (by omega)
      obtain ⟨ap, np, cp, ct, c0, hp⟩ := hcell k hlt
      have l0 := hid hp.len.1
      have b0 : np ≤ 1048576 := by rw [l0.out]; exact HSM.out k (by rw [← HN.out]; exact hlt)
      have HPp := hid (hp.rd b0)
      have HBY := hid hp.2
      have HWL : Hid (w.heap.size < wr.heap.size) := HK.out.lt
      have HSA := hid (shAt_map ds k)
      clear hcell hbw HP hp
      generalize htt : (dwAt ds k).1 = tt at *
      have HTT := hid htt
      clear htt
      go_wp2_with fail
      refine (toWrite_any tt ap np cp (dwAt ds k).2 wr HPp.out).mono ?_
      rintro e w1 ⟨g0, rfl, e0, k0, hb1⟩
      have HK1 := hid (HK.out.below hb1)
      have HB1 := hid (HB.out.trans (hb1.mono HB.out.size))
      have HOB : Hid (Ob w1 wr.heap.size (.slice (some ⟨g0, 0, none⟩) np np) (dwAt ds k).2) := by
        have := bk_ob (B := wr.heap.size) k0 (by rw [← l0.out]; exact b0) e0
        rw [← l0.out] at this
        exact this
      have HBW := hid hb1
      clear hb1 HB k0 e0 c0 ct HPp
      obtain ⟨d0, d1⟩ := wcs_at V k (by rw [HV.out]; exact hlt)
      have c0 := HK1.out.cell d0
      have c1 := HK1.out.cell d1
      have f0 := HK1.out.free (k * 2)
      have f1 := HK1.out.free (k * 2 + 1)
      clear d0 d1
      have HK2 : Hid (Bk ((w1.setCell ⟨w.heap.size, k * 2, none⟩ (.int .i64 tt)).setCell ⟨w.heap.size, k * 2 + 1, none⟩ (.slice (some ⟨g0, 0, none⟩) np np)) w.heap.size 109 (wcs (V.set k (tt, .slice (some ⟨g0, 0, none⟩) np np)))) := by
        show Bk _ _ _ _
        rw [wcs_set _ _ _ (by rw [HV.out]; exact hlt)]
        exact (HK1.out.set _ _).set _ _
      have HB2 : Hid (Below w.heap.size w ((w1.setCell ⟨w.heap.size, k * 2, none⟩ (.int .i64 tt)).setCell ⟨w.heap.size, k * 2 + 1, none⟩ (.slice (some ⟨g0, 0, none⟩) np np))) := (HB1.out.setCell (Nat.le_refl _) _).setCell (Nat.le_refl _) _
      have HA2 : Hid (SL ((w1.setCell ⟨w.heap.size, k * 2, none⟩ (.int .i64 tt)).setCell ⟨w.heap.size, k * 2 + 1, none⟩ (.slice (some ⟨g0, 0, none⟩) np np)) (w.heap.size + 1) (k + 1) ((V.set k (tt, .slice (some ⟨g0, 0, none⟩) np np)).map Prod.snd) (ds.map Prod.snd)) := by
        show SL _ _ _ _ _
        rw [List.map_set]
        exact HA.out.put HBW.out (by rw [HSA.out]; exact HOB.out) (by rw [HSA.out]; exact HBY.out) ((only_set (R := fun y => y = w.heap.size) rfl _).trans (only_set (R := fun y => y = w.heap.size) rfl _)) (Nat.lt_succ_self _) HWL.out (by rw [List.length_map, HV.out]; exact hlt)
      have HT2 : Hid (∀ i, i < k + 1 → (xAt (V.set k (tt, .slice (some ⟨g0, 0, none⟩) np np)) i).1 = (dwAt ds i).1) := by
        intro i hi
        by_cases e : i = k
        · subst e; rw [xAt_set (by rw [HV.out]; exact hlt), HTT.out]
        · rw [xAt_other e]; exact HT.out i (by omega)
      have HV2 : Hid ((V.set k (tt, .slice (some ⟨g0, 0, none⟩) np np)).length = n) := by show _ = _; rw [List.length_set]; exact HV.out
      clear HA HB1 HK1 HOB HBW HT
      generalize (xAt V k).1 = o0 at c0
      generalize (xAt V k).2 = o1 at c1
      go_wp2
      go_roundw
      case rel => exact ⟨k + 1, _, by omega, by go_num, HV2.out, HK2.out, HA2.out, HT2.out, HB2.out⟩
      case measure => simp [intOf]; omega
    · have hk' : k = n := by omega
      have HR : Hid (WO wr w.heap.size (.slice (some ⟨w.heap.size, 0, none⟩) n n) V ds) := by
        subst hk'
        exact HA.out.wo HT.out HN.out HV.out HK.out (Nat.lt_succ_self _) hnm
      clear hk'
      go_wp2
      go_ret
      exact ⟨V, rfl, HR.out, HB.out⟩
set_option maxHeartbeats 2000000 in
theorem toDisk_any (S : Nat → Prop) (sa : Option Addr) (sn sc : Nat) (da : Option Addr) (dn dc : Nat) (d : DK) (w : World) (h : Dk w S sa sn sc da dn dc d) (h1 : sn ≤ 1048576) (h2 : dn ≤ 1048576) (hsm : smallD d) :
    Calls Try.prog 15 #[.agg #[.slice sa sn sc, .slice da dn dc]] w fun e w' => ∃ g0 g1 V U, e = .returned (.agg #[.slice (some ⟨g0, 0, none⟩) sn sn, .slice (some ⟨g1, 0, none⟩) dn dn]) ∧
      DO w' w.heap.size (.slice (some ⟨g0, 0, none⟩) sn sn) V (.slice (some ⟨g1, 0, none⟩) dn dn) U d ∧ Below w.heap.size w w' := by
  have HS := hid h.hs
  have HD := hid h.hd
  have HM := hid hsm
  clear h hsm
  have HB0 : Hid (Below w.heap.size w (((w.alloc (.cells #[.slice sa sn sc, .slice da dn dc] 39)).alloc (.cells #[.slice none 0 0, .slice none 0 0] 46)).alloc (.cells #[.slice none 0 0, .slice none 0 0] 46))) := below_new (below_new (below_new (Below.refl _ _)))
  have KP : Hid (Bk (((w.alloc (.cells #[.slice sa sn sc, .slice da dn dc] 39)).alloc (.cells #[.slice none 0 0, .slice none 0 0] 46)).alloc (.cells #[.slice none 0 0, .slice none 0 0] 46)) w.heap.size 39 [.slice sa sn sc, .slice da dn dc]) := ((Bk.new w 39 [.slice sa sn sc, .slice da dn dc]).alloc _).alloc _
  have KR : Hid (Bk (((w.alloc (.cells #[.slice sa sn sc, .slice da dn dc] 39)).alloc (.cells #[.slice none 0 0, .slice none 0 0] 46)).alloc (.cells #[.slice none 0 0, .slice none 0 0] 46)) (w.heap.size + 1) 46 [.slice none 0 0, .slice none 0 0]) := by
    have := (Bk.new (w.alloc (.cells #[.slice sa sn sc, .slice da dn dc] 39)) 46 [.slice none 0 0, .slice none 0 0]).alloc (.cells #[.slice none 0 0, .slice none 0 0] 46)
    show Bk _ _ _ _
    simpa using this
  have KO : Hid (Bk (((w.alloc (.cells #[.slice sa sn sc, .slice da dn dc] 39)).alloc (.cells #[.slice none 0 0, .slice none 0 0] 46)).alloc (.cells #[.slice none 0 0, .slice none 0 0] 46)) (w.heap.size + 1 + 1) 46 [.slice none 0 0, .slice none 0 0]) := by
    have := Bk.new ((w.alloc (.cells #[.slice sa sn sc, .slice da dn dc] 39)).alloc (.cells #[.slice none 0 0, .slice none 0 0] 46)) 46 [.slice none 0 0, .slice none 0 0]
    show Bk _ _ _ _
    simpa using this
  have HZ : Hid ((((w.alloc (.cells #[.slice sa sn sc, .slice da dn dc] 39)).alloc (.cells #[.slice none 0 0, .slice none 0 0] 46)).alloc (.cells #[.slice none 0 0, .slice none 0 0] 46)).heap.size = w.heap.size + 3) := by show _ = _; simp
  go_enter Try.func15, Try.ntmps15
  go_wp2_with fail
  refine (toSheetS_at S sa sn sc d.sh _ (HS.out.below HB0.out) h1 HM.out.1).mono ?_
  generalize (((w.alloc (.cells #[.slice sa sn sc, .slice da dn dc] 39)).alloc (.cells #[.slice none 0 0, .slice none 0 0] 46)).alloc (.cells #[.slice none 0 0, .slice none 0 0] 46)) = W at *
  rintro e w1 ⟨V, rfl, K0, hb1⟩
  have HB1 := hid (HB0.out.trans (hb1.mono HB0.out.size))
  have KP1 := hid (KP.out.below hb1)
  have KR1 := hid (KR.out.below hb1)
  have KO1 := hid (KO.out.below hb1)
  have K01 := hid K0
  have HG0 : Hid (w.heap.size + 3 ≤ W.heap.size) := Nat.le_of_eq HZ.out.symm
  clear hb1 K0 KP KR KO HB0 HZ
  generalize W.heap.size = g0 at *
  have c0 := KO1.out.cell (j := 0) rfl
  have f0 := KO1.out.free 0
  have p1 := KP1.out.cell (j := 1) rfl
  have HG0' := HG0.out
  have HB2 : Hid (Below w.heap.size w (w1.setCell ⟨w.heap.size + 1 + 1, 0, none⟩ (.slice (some ⟨g0, 0, none⟩) sn sn))) := HB1.out.setCell (by show w.heap.size ≤ w.heap.size + 1 + 1; omega) _
  have KR2 := hid (KR1.out.setOther (b := w.heap.size + 1 + 1) (by omega) 0 (.slice (some ⟨g0, 0, none⟩) sn sn))
  have KO2 := hid (KO1.out.set 0 (.slice (some ⟨g0, 0, none⟩) sn sn))
  have K02 : Hid (SOw (w1.setCell ⟨w.heap.size + 1 + 1, 0, none⟩ (.slice (some ⟨g0, 0, none⟩) sn sn)) g0 (.slice (some ⟨g0, 0, none⟩) sn sn) V d.sh) := K01.out.to (only_set (R := fun y => y = w.heap.size + 1 + 1) rfl _) (fun y hy e => by have := (K01.out.lt hy).1; omega)
  clear HB1 KP1 KR1 KO1 K01 HG0'
  go_wp2_with fail
  refine (toWriteS_at S da dn dc d.dw _ (HD.out.below HB2.out) h2 HM.out.2).mono ?_
  generalize w1.setCell ⟨w.heap.size + 1 + 1, 0, none⟩ (.slice (some ⟨g0, 0, none⟩) sn sn) = W2 at *
  clear c0 f0 p1
  rintro e w2 ⟨U, rfl, K1, hb2⟩
  have HB3 := hid (HB2.out.trans (hb2.mono HB2.out.size))
  have KR3 := hid (KR2.out.below hb2)
  have KO3 := hid (KO2.out.below hb2)
  have HAP : Hid (∀ y, sbl (.slice (some ⟨g0, 0, none⟩) sn sn) V y → ¬ wbl (.slice (some ⟨W2.heap.size, 0, none⟩) dn dn) U y) := fun y h1 h2 => by
    have := (K02.out.lt h1).2
    have := (K1.lt h2).1
    omega
  have HWL : Hid (w.heap.size + 3 ≤ W2.heap.size) := by
    have h3 := K02.out.lt (y := g0) (.inl rfl)
    have := HG0.out
    show _ ≤ _
    omega
  have K03 := hid (K02.out.below hb2)
  have K13 := hid K1
  clear hb2 K1 KR2 KO2 K02 HB2
  generalize W2.heap.size = g1 at *
  have c0 := KO3.out.cell (j := 0) rfl
  have c1 := KO3.out.cell (j := 1) rfl
  have f1 := KO3.out.free 1
  have r0 := KR3.out.cell (j := 0) rfl
  have r1 := KR3.out.cell (j := 1) rfl
  have q0 := KR3.out.free 0
  have q1 := KR3.out.free 1
  go_wp2
  try simp only [Exit.inBlock, Exit.then]
  refine bodyPost_ret (v := .agg #[.slice (some ⟨g0, 0, none⟩) sn sn, .slice (some ⟨g1, 0, none⟩) dn dn]) ?_ rfl ?_
  · refine results_dsk rfl _ _ _ rfl ?_ ?_
    · go_simp
    · go_simp
  · have HG0' := HG0.out
    have HWL' := HWL.out
    refine ⟨g0, g1, V, U, rfl, ?_, ((HB3.out.setCell (by show w.heap.size ≤ w.heap.size + 1 + 1; omega) _).setCell (by show w.heap.size ≤ w.heap.size + 1; omega) _).setCell (by show w.heap.size ≤ w.heap.size + 1; omega) _⟩
    have O1 : Only (fun y => y < w.heap.size + 3) w2 (((w2.setCell ⟨w.heap.size + 1 + 1, 1, none⟩ (.slice (some ⟨g1, 0, none⟩) dn dn)).setCell ⟨w.heap.size + 1, 0, none⟩ (.slice (some ⟨g0, 0, none⟩) sn sn)).setCell ⟨w.heap.size + 1, 1, none⟩ (.slice (some ⟨g1, 0, none⟩) dn dn)) :=
      ((only_set (R := fun y => y < w.heap.size + 3) (by show w.heap.size + 1 + 1 < w.heap.size + 3; omega) _).trans (only_set (R := fun y => y < w.heap.size + 3) (by show w.heap.size + 1 < w.heap.size + 3; omega) _)).trans (only_set (R := fun y => y < w.heap.size + 3) (by show w.heap.size + 1 < w.heap.size + 3; omega) _)
    exact ⟨(K03.out.to O1 (fun y hy e => by have := (K03.out.lt hy).1; omega)).base (by omega), (K13.out.to O1 (fun y hy e => by have := (K13.out.lt hy).1; omega)).base (by omega), HAP.out⟩
end Go.Proofs.Ytcpdedpgjaimkaa

