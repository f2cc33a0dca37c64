/-
  DiskSync of the program.
-/
import Derived.Test.YtijinngmfalfcabDoorDkI
namespace Go.Proofs.YtijinngmfalfcabDoor
open Go.RowKit
set_option linter.unusedVariables false
/-- The boxes of the program's sync and crash: the disk, the result; the row of sheets at hand, whose lists may lie anywhere but in it. -/
structure VX (w v : World) (sa : Option Addr) (sn sc : Nat) (da : Option Addr) (dn dc : Nat) (g cc : Nat) (V : List Value) (ss : List (List Int)) : Prop where
  bel : Below w.heap.size w v
  k0 : Bk v w.heap.size 31 [.slice sa sn sc, .slice da dn dc]
  k1 : Bk v (w.heap.size + 1) 31 [.slice none 0 0, .slice none 0 0]
  row : v.ownsRow (w.heap.size + 2) 59 1 (.slice (some ⟨g, 0, none⟩) sn cc) sn V
  len : V.length = sn
  ssl : ss.length = sn
  byt' : ∀ i, i < sn → By v (fun y => y ≠ g) (uAt V i) (shAt ss i)
theorem VX.below {w v v' : World} {sa : Option Addr} {sn sc : Nat} {da : Option Addr} {dn dc : Nat} {g cc : Nat} {V : List Value} {ss : List (List Int)} (h : VX w v sa sn sc da dn dc g cc V ss) (hb : Below v.heap.size v v') : VX w v' sa sn sc da dn dc g cc V ss :=
  ⟨bt7 h.bel hb, h.k0.below hb, h.k1.below hb, own_kept h.row (only_of_below hb (fun _ => False)) (fun _ _ h => h), h.len, h.ssl, fun i hi => (h.byt' i hi).below hb⟩
theorem VX.put {w v : World} {sa : Option Addr} {sn sc : Nat} {da : Option Addr} {dn dc : Nat} {g cc : Nat} {V : List Value} {ss : List (List Int)} (h : VX w v sa sn sc da dn dc g cc V ss) {k : Nat} {p : Value} {x : List Int} (hk : k < sn) (hp : By v (fun y => y ≠ g) p x) : VX w (v.setCell ⟨g, k, none⟩ p) sa sn sc da dn dc g cc (V.set k p) (ss.set k x) := by
  have hg := World.ownsRow.lt h.row g rfl
  have o : Only (fun y => y = g) v (v.setCell ⟨g, k, none⟩ p) := only_set (R := fun y => y = g) rfl _
  refine ⟨h.bel.setCell (p := ⟨g, k, none⟩) (by show w.heap.size ≤ g; omega) _, h.k0.setOther (by omega) _ _, h.k1.setOther (by omega) _ _, ownD_set h.row k p, by rw [List.length_set]; exact h.len, by rw [List.length_set]; exact h.ssl, fun i hi => ?_⟩
  by_cases e : i = k
  · subst e
    rw [uAt_set (by rw [h.len]; exact hi), shAt_set (by rw [h.ssl]; exact hi)]
    exact hp.to o (fun b hb _ e => hb e)
  · rw [uAt_other e, shAt_other e]
    exact (h.byt' i hi).to o (fun b hb _ e => hb e)
theorem VX.shr {w v : World} {sa : Option Addr} {sn sc : Nat} {da : Option Addr} {dn dc : Nat} {g cc : Nat} {V : List Value} {ss : List (List Int)} (h : VX w v sa sn sc da dn dc g cc V ss) : Shr v (fun _ => True) (.slice (some ⟨g, 0, none⟩) sn cc) ss := by
  refine ⟨V, by rw [h.len, h.ssl], ?_, fun i hi => (h.byt' i (by rw [← h.ssl]; exact hi)).mono (fun _ _ _ => trivial)⟩
  rw [h.ssl]
  exact rw_own h.row (fun _ _ _ _ => trivial)
theorem syS_facts {d : DK} (hok : dkOk d = true) (hb : (∀ i, byt (shAt d.sh i)) ∧ ∀ i, byt (dwAt d.dw i).2) : ∀ k, k ≤ d.dw.length → ∀ i, byt (shAt (syS d.sh d.dw k) i) ∧ (shAt (syS d.sh d.dw k) i).length ≤ 512 := by
  intro k hk i
  rw [← crS_all hok hb k hk]
  have h := crS_facts hok hb (List.replicate d.dw.length 512) k hk i
  refine ⟨h.1, ?_⟩
  by_cases hi : i < d.sh.length
  · have := (shtOk_iff _).1 (h.2 hi); omega
  · simp [shAt, show (crS d.sh d.dw (List.replicate d.dw.length 512) k).length ≤ i by rw [crS_len]; omega]
theorem wrr_nil (w : World) (S : Nat → Prop) : Wrr w S (.slice none 0 0) [] := ⟨[], rfl, rw_nil _ _, fun i hi => by simp at hi⟩
theorem one_slices {w : World} {S : Nat → Prop} {V : List Value} {ss : List (List Int)} (hl : V.length = ss.length) (h : ∀ i, i < ss.length → By w S (uAt V i) (shAt ss i)) : ∀ u ∈ V, u.oneCell' = true := by
  intro u hu
  obtain ⟨i, hi, rfl⟩ := List.mem_iff_getElem.1 hu
  obtain ⟨a, c, e⟩ := (h i (by omega)).1.sliceOf
  have : V[i] = uAt V i := by simp [uAt, hi]
  rw [this, e]
  rfl
theorem VX.start {w w1 w2 : World} {S : Nat → Prop} {b off sn sc : Nat} {da : Option Addr} {dn dc : Nat} {cc g : Nat} {V : List Value} {ss : List (List Int)} (hbel : Below w.heap.size w w1) (k0 : Bk w1 w.heap.size 31 [.slice (some ⟨b, off, none⟩) sn sc, .slice da dn dc]) (k1 : Bk w1 (w.heap.size + 1) 31 [.slice none 0 0, .slice none 0 0])
    (hl : V.length = ss.length) (hs : ss.length = sn) (hby : ∀ i, i < ss.length → By w1 S (uAt V i) (shAt ss i)) (hrow : w2.ownsRow w1.heap.size 59 1 (.slice (some ⟨g, 0, none⟩) sn cc) sn V) (hb : Below w1.heap.size w1 w2) :
    VX w w2 (some ⟨b, off, none⟩) sn sc da dn dc g cc V ss := by
  have hg := (World.ownsRow.lt hrow g rfl).1
  have h1 := k1.lt
  refine ⟨bt7 hbel hb, k0.below hb, k1.below hb, ownD_base hrow (by omega), by omega, hs, fun i hi => ?_⟩
  exact ((hby i (by omega)).mono (R := fun y => y ≠ g) (fun y _ hy => by omega)).below hb
/-- A row of sheets at hand, whose lists may lie anywhere but in it. -/
structure SH (v : World) (Q : Nat → Prop) (B g cc sn : Nat) (V : List Value) (ss : List (List Int)) : Prop where
  row : v.ownsRow B 59 1 (.slice (some ⟨g, 0, none⟩) sn cc) sn V
  len : V.length = sn
  ssl : ss.length = sn
  byt' : ∀ i, i < sn → By v Q (uAt V i) (shAt ss i)
  off : ¬ Q g
theorem SH.below {v v' : World} {Q : Nat → Prop} {B g cc sn : Nat} {V : List Value} {ss : List (List Int)} (h : SH v Q B g cc sn V ss) (hb : Below v.heap.size v v') : SH v' Q B g cc sn V ss :=
  ⟨own_kept h.row (only_of_below hb (fun _ => False)) (fun _ _ h => h), h.len, h.ssl, fun i hi => (h.byt' i hi).below hb, h.off⟩
theorem SH.put {v : World} {Q : Nat → Prop} {B g cc sn : Nat} {V : List Value} {ss : List (List Int)} (h : SH v Q B g cc sn V ss) {k : Nat} {p : Value} {x : List Int} (hk : k < sn) (hp : By v Q p x) : SH (v.setCell ⟨g, k, none⟩ p) Q B g cc sn (V.set k p) (ss.set k x) := by
  have o : Only (fun y => y = g) v (v.setCell ⟨g, k, none⟩ p) := only_set (R := fun y => y = g) rfl _
  refine ⟨ownD_set h.row k p, by rw [List.length_set]; exact h.len, by rw [List.length_set]; exact h.ssl, fun i hi => ?_, h.off⟩
  by_cases e : i = k
  · subst e
    rw [uAt_set (by rw [h.len]; exact hi), shAt_set (by rw [h.ssl]; exact hi)]
    exact hp.to o (fun b hb _ e => h.off (e ▸ hb))
  · rw [uAt_other e, shAt_other e]
    exact (h.byt' i hi).to o (fun b hb _ e => h.off (e ▸ hb))
theorem SH.shr {v : World} {Q : Nat → Prop} {B g cc sn : Nat} {V : List Value} {ss : List (List Int)} (h : SH v Q B g cc sn V ss) : Shr v (fun _ => True) (.slice (some ⟨g, 0, none⟩) sn cc) ss := by
  refine ⟨V, by rw [h.len, h.ssl], ?_, fun i hi => (h.byt' i (by rw [← h.ssl]; exact hi)).mono (fun _ _ _ => trivial)⟩
  rw [h.ssl]
  exact rw_own h.row (fun _ _ _ _ => trivial)
theorem VX.sh {w v : World} {sa : Option Addr} {sn sc : Nat} {da : Option Addr} {dn dc : Nat} {g cc : Nat} {V : List Value} {ss : List (List Int)} (h : VX w v sa sn sc da dn dc g cc V ss) : SH v (fun y => y ≠ g) (w.heap.size + 2) g cc sn V ss := ⟨h.row, h.len, h.ssl, h.byt', fun h => h rfl⟩
theorem VX.turn {w v v' : World} {sa : Option Addr} {sn sc : Nat} {da : Option Addr} {dn dc : Nat} {g cc : Nat} {V V' : List Value} {ss ss' : List (List Int)} (h : VX w v sa sn sc da dn dc g cc V ss) (h' : SH v' (fun y => y ≠ g) (w.heap.size + 2) g cc sn V' ss') (o : Only (fun y => y = g) v v') : VX w v' sa sn sc da dn dc g cc V' ss' := by
  have hg := World.ownsRow.lt h.row g rfl
  exact ⟨h.bel.trans (o.below h.bel.size (fun y hy e => by omega)), h.k0.to o (by omega), h.k1.to o (by omega), h'.row, h'.len, h'.ssl, h'.byt'⟩
theorem syS_zero (ss : List (List Int)) (ds : List DW) : syS ss ds 0 = ss := rfl
/-- The slice value v leads to the writes ds: where the row lies, where the bytes lie. -/
def Wr2 (w : World) (R Q : Nat → Prop) (v : Value) (ds : List DW) : Prop := ∃ U : List (Int × Value), U.length = ds.length ∧ Rw w R v ds.length (wcs U) ∧ ∀ i, i < ds.length → (xAt U i).1 = (dwAt ds i).1 ∧ By w Q (xAt U i).2 (dwAt ds i).2
theorem Wrr.two {w : World} {S : Nat → Prop} {v : Value} {ds : List DW} (h : Wrr w S v ds) : Wr2 w S S v ds := h
theorem Wr2.to {w w' : World} {R Q P : Nat → Prop} {v : Value} {ds : List DW} (h : Wr2 w R Q v ds) (ho : Only P w w') (hR : ∀ b, R b → b < w.heap.size → ¬ P b) (hQ : ∀ b, Q b → b < w.heap.size → ¬ P b) : Wr2 w' R Q v ds := by
  obtain ⟨V, h1, h2, h3⟩ := h
  exact ⟨V, h1, h2.to ho hR, fun i hi => ⟨(h3 i hi).1, (h3 i hi).2.to ho hQ⟩⟩
theorem Wr2.len {w : World} {R Q : Nat → Prop} {a : Option Addr} {n c : Nat} {ds : List DW} (h : Wr2 w R Q (.slice a n c) ds) : n = ds.length ∧ n ≤ c ∧ c ≤ 9223372036854775807 := by
  obtain ⟨V, h1, h2, h3⟩ := h
  exact Rw.len h2
theorem Wr2.at {w : World} {R Q : Nat → Prop} {a : Option Addr} {n c : Nat} {ds : List DW} (h : Wr2 w R Q (.slice a n c) ds) (hp : 0 < n) : ∃ b off, a = some ⟨b, off, none⟩ ∧ R b ∧ b < w.heap.size ∧ ∀ i, i < n → ∃ ap np cp,
    w.cell? ⟨b, off + i * 2, none⟩ = some (.int .i64 (dwAt ds i).1) ∧ w.cell? ⟨b, off + i * 2 + 1, none⟩ = some (.slice ap np cp) ∧ By w Q (.slice ap np cp) (dwAt ds i).2 := by
  obtain ⟨V, h1, h2, h3⟩ := h
  have hn := (Rw.len h2).1
  obtain ⟨b, off, e1, e2, e3, e4⟩ := h2.at hp
  refine ⟨b, off, e1, e2, e3, fun i hi => ?_⟩
  obtain ⟨k0, k1⟩ := h3 i (by omega)
  obtain ⟨c0, c1⟩ := wcs_at V i (by omega)
  have d0 := e4 _ _ c0
  have d1 := e4 _ _ c1
  obtain ⟨ap, cp, g0⟩ := k1.1.sliceOf
  rw [g0] at d1 k1
  rw [k0] at d0
  exact ⟨ap, _, cp, d0, d1, k1⟩
set_option maxHeartbeats 8000000 in
set_option maxRecDepth 20000 in
theorem writeDown_any (Q : Nat → Prop) (B g cc sn : Nat) (V : List Value) (ss : List (List Int)) (da : Option Addr) (dn dc : Nat) (ds : List DW) (w : World) (h : SH w Q B g cc sn V ss) (hd : Wr2 w (fun y => y ≠ g) Q (.slice da dn dc) ds) (hok : ∀ i, i < ds.length → wrtOk sn (dwAt ds i) = true) (hn : dn ≤ 1048576) (hs : sn ≤ 1048576) :
    Calls Tryd.prog 45 #[.slice (some ⟨g, 0, none⟩) sn cc, .slice da dn dc] w fun e w' => e = .returned (.tuple #[]) ∧ Only (fun y => y = g) w w' ∧ ∃ V', SH w' Q B g cc sn V' (syS ss ds ds.length) := by
  have HD := hid hd
  have HOK := hid hok
  have H0 := hid h
  have H0f := hid h.off
  have hcc := (own_at h.row).2.1
  have hcc' := (own_at h.row).2.2.1
  have HND := hid hd.len.1
  have hdc := hd.len.2
  clear h hd hok
  go_enter Tryd.func45, Tryd.ntmps45
  go_wp2_with fail
  go_loopw [8] (fun i wr => ∃ (k : Nat) (V : List Value), k ≤ dn ∧ i = .int .i64 k ∧ Hid (SH wr Q B g cc sn V (syS ss ds k)) ∧ Hid (Only (fun y => y = g) w wr)) (fun i _ => dn - (intOf i).toNat)
  case atStart => exact ⟨0, V, Nat.zero_le _, rfl, H0.out, Only.refl _ _⟩
  case round =>
    clear H0
    obtain ⟨k, V, hk, rfl, VV, OO⟩ := hrel
    by_cases hlt : k < dn
    · have hlt' : (k : Int) < (dn : Int) := by omega
      obtain ⟨b2, off2, rfl, hb2, hbw, hcell⟩ := (HD.out.to OO.out (fun y hy _ e => hy e) (fun y hy _ e => H0f.out (e ▸ hy))).at (by omega)
      obtain ⟨ap, np, cp, mt, m0, hp⟩ := hcell k hlt
      have hkl : k < ds.length := by rw [← HND.out]; exact hlt
      have hwk := (wrtOk_iff _ _).1 (HOK.out k hkl)
      obtain ⟨u, hu⟩ : ∃ u : Nat, (dwAt ds k).1 = (u : Int) := ⟨(dwAt ds k).1.toNat, by omega⟩
      have hus : u < sn := by omega
      have hus' : (u : Int) < (sn : Int) := by omega
      rw [hu] at mt
      have HSY : Hid (syS ss ds (k + 1) = (syS ss ds k).set u (dwAt ds k).2) := by show _ = _; rw [syS, hu]; rfl
      have hb0 := below_new (o := .cells #[.int .i64 (u : Int), .slice ap np cp] 56) (w := wr) (Below.refl _ _)
      have hgg := World.ownsRow.lt VV.out.row g rfl
      have V2 : Hid (SH ((wr.alloc (.cells #[.int .i64 (u : Int), .slice ap np cp] 56)).setCell ⟨g, u, none⟩ (.slice ap np cp)) Q B g cc sn (V.set u (.slice ap np cp)) (syS ss ds (k + 1))) := by
        rw [HSY.out]
        exact (VV.out.below hb0).put hus (hp.below hb0)
      have O2 : Hid (Only (fun y => y = g) w ((wr.alloc (.cells #[.int .i64 (u : Int), .slice ap np cp] 56)).setCell ⟨g, u, none⟩ (.slice ap np cp))) := (OO.out.trans (only_of_below hb0 _)).trans (only_set (R := fun y => y = g) rfl _)
      have V2' : Hid (SH ((wr.setCell ⟨g, u, none⟩ (.slice ap np cp)).alloc (.cells #[.int .i64 (u : Int), .slice ap np cp] 56)) Q B g cc sn (V.set u (.slice ap np cp)) (syS ss ds (k + 1))) := by
        rw [HSY.out]
        exact (VV.out.put hus hp).below (below_new (Below.refl _ _))
      have O2' : Hid (Only (fun y => y = g) w ((wr.setCell ⟨g, u, none⟩ (.slice ap np cp)).alloc (.cells #[.int .i64 (u : Int), .slice ap np cp] 56))) := (OO.out.trans (only_set (R := fun y => y = g) rfl _)).trans (only_of_below (below_new (Below.refl _ _)) _)
      obtain ⟨-, -, -, hr⟩ := own_at VV.out.row
      obtain ⟨g', e', -, -, hf, hcl⟩ := hr (by omega)
      cases e'
      have n0 := hcl u _ (uAt_some (by rw [VV.out.len]; exact hus))
      have f0 := hf u
      generalize uAt V u = o0 at *
      have sg := hgg.2
      clear hcell hbw hp hwk hu hr hf hcl hb0 VV OO HSY hgg hb2
      go_wp2
      go_roundw
      case rel => exact ⟨k + 1, _, by omega, by go_num, (by first | exact V2.out | exact V2'.out), (by first | exact O2.out | exact O2'.out)⟩
      case measure => simp [intOf]; omega
    · have HKD : Hid (k = ds.length) := by show _ = _; rw [← HND.out]; omega
      go_wp2
      go_end0
      exact ⟨rfl, OO.out, V, by rw [← HKD.out]; exact VV.out⟩
set_option maxHeartbeats 8000000 in
set_option maxRecDepth 20000 in
theorem implDiskSync_any (S : Nat → Prop) (sa : Option Addr) (sn sc : Nat) (da : Option Addr) (dn dc : Nat) (d : DK) (w : World) (h : Dk w S sa sn sc da dn dc d) (hsm : smallD d) (h1 : sn ≤ 1048576) (h2 : dn ≤ 1048576) :
    Calls Tryd.prog 20 #[.agg #[.slice sa sn sc, .slice da dn dc]] w fun e w' => DkPost1 (dsV d) w e w' := by
  have HH := hid h
  have HSM := hid hsm
  have HBY := hid h.bytes'
  have hsc := h.hs.len.2
  have hdc := h.hd.len.2
  have HNS := hid h.hs.len.1
  have HND := hid h.hd.len.1
  have HB0 : Hid (Below w.heap.size w ((w.alloc (.cells #[.slice sa sn sc, .slice da dn dc] 31)).alloc (.cells #[.slice none 0 0, .slice none 0 0] 31))) := below_new (below_new (Below.refl _ _))
  have K0 := hid ((Bk.new w 31 [.slice sa sn sc, .slice da dn dc]).alloc (.cells #[.slice none 0 0, .slice none 0 0] 31))
  have K1 : Hid (Bk ((w.alloc (.cells #[.slice sa sn sc, .slice da dn dc] 31)).alloc (.cells #[.slice none 0 0, .slice none 0 0] 31)) (w.heap.size + 1) 31 [.slice none 0 0, .slice none 0 0]) := by
    have := Bk.new (w.alloc (.cells #[.slice sa sn sc, .slice da dn dc] 31)) 31 [.slice none 0 0, .slice none 0 0]
    show Bk _ _ _ _
    simpa using this
  have HOK := hid (implDiskOk_any S sa sn sc da dn dc d _ (h.below HB0.out))
  have HDV : Hid (dsV d = if dkOk d = true then ⟨syS d.sh d.dw d.dw.length, []⟩ else emD) := rfl
  clear h hsm
  go_enter Tryd.func20, Tryd.ntmps20
  go_wp2_with fail
  refine HOK.out.mono ?_
  generalize (w.alloc (.cells #[.slice sa sn sc, .slice da dn dc] 31)).alloc (.cells #[.slice none 0 0, .slice none 0 0] 31) = W0 at *
  rintro e w1 ⟨rfl, hb⟩
  have J0 := hid (K0.out.below hb)
  have J1 := hid (K1.out.below hb)
  have B1 := hid (bt7 HB0.out hb)
  clear hb HB0 K0 K1 HOK
  cases hok : dkOk d with
  | false =>
    have HF : Hid (dsV d = emD) := by show _ = _; rw [HDV.out, hok]; rfl
    have r0 := J1.out.cell (j := 0) rfl
    have r1 := J1.out.cell (j := 1) rfl
    have f0 := J1.out.free 0
    have f1 := J1.out.free 1
    go_wp2
    try simp only [Exit.inBlock, Exit.then]
    refine bodyPost_ret (v := .agg #[.slice none 0 0, .slice none 0 0]) ?_ rfl ?_
    · exact results_dsk rfl _ _ _ rfl (by go_simp) (by go_simp)
    · rw [HF.out]
      exact ⟨_, _, _, _, _, _, _, _, rfl, do_nil _ _, (B1.out.setCell (p := ⟨w.heap.size + 1, 0, none⟩) (Nat.le_succ _) _).setCell (p := ⟨w.heap.size + 1, 1, none⟩) (Nat.le_succ _) _⟩
  | true =>
    have HF : Hid (dsV d = ⟨syS d.sh d.dw d.dw.length, []⟩) := by show _ = _; rw [HDV.out, hok]; rfl
    have HOK := hid hok
    have hsn : 2 ≤ sn ∧ sn ≤ 400 := by have := (dkOk_iff d).1 hok; rw [HNS.out]; exact ⟨this.1, this.2.1⟩
    clear hok HDV
    obtain ⟨V, hVl, hVr, hVb⟩ := HH.out.hs.below B1.out
    rw [← HNS.out] at hVr
    obtain ⟨b, off, rfl, -⟩ := Rw.at hVr (by omega)
    have HCL := hid (cloneS_any S b off sn sc V w1 hVr (by rw [hVl, HNS.out]) (one_slices hVl hVb) h1)
    have HVB := hid hVb
    have HVL := hid hVl
    clear hVl hVr hVb
    have d0 := J0.out.cell (j := 0) rfl
    go_wp2_with fail
    refine HCL.out.mono ?_
    rintro e w2 ⟨ga, cc, rfl, hrow, hb⟩
    have hcc := (own_at hrow).2.1
    have hcc' := (own_at hrow).2.2.1
    obtain ⟨g, rfl, -⟩ := (own_at hrow).2.2.2 (by omega)
    have V0 : Hid (VX w w2 (some ⟨b, off, none⟩) sn sc da dn dc g cc V (syS d.sh d.dw 0)) := VX.start B1.out J0.out J1.out HVL.out HNS.out.symm HVB.out hrow hb
    have d1 := V0.out.k0.cell (j := 1) rfl
    clear hrow hb J0 J1 B1 HCL HVB HVL d0
    go_wp2_with fail
    have HWD : Hid (Wrr w2 (fun y => y ≠ g) (.slice da dn dc) d.dw) := ((HH.out.hd.mono (R := fun y => y < w.heap.size) (fun y _ hy => hy)).below V0.out.bel).mono (fun y hy _ e => by have := World.ownsRow.lt V0.out.row g rfl; omega)
    have HWK : Hid (∀ i, i < d.dw.length → wrtOk sn (dwAt d.dw i) = true) := fun i hi => by rw [HNS.out]; exact ((dkOk_iff d).1 HOK.out).2.2.2.2 i hi
    refine (writeDown_any (fun y => y ≠ g) _ g cc sn V _ da dn dc d.dw w2 V0.out.sh HWD.out.two HWK.out h2 h1).mono ?_
    rintro e wr ⟨rfl, hon, V, hsh⟩
    have VV := hid (V0.out.turn hsh hon)
    rw [syS_zero] at VV
    clear d1 V0 hsh hon HWD HWK
    have HDK : Hid (Dk wr (fun _ => True) (some ⟨g, 0, none⟩) sn cc none 0 0 ⟨syS d.sh d.dw d.dw.length, []⟩) := ⟨VV.out.shr, wrr_nil _ _⟩
    have HSM2 : Hid (smallD ⟨syS d.sh d.dw d.dw.length, []⟩) := ⟨fun i hi => by have := (syS_facts HOK.out HBY.out d.dw.length (Nat.le_refl _) i).2; simp only at this ⊢; omega, fun i hi => by simp at hi⟩
    go_wp2_with fail
    refine (copyDisk_any (fun _ => True) _ _ _ _ _ _ _ _ HDK.out HSM2.out h1 (by omega)).mono ?_
    rintro e w3 ⟨za, zn, zc, ya, yn, yc, V3, U3, rfl, hO, hb⟩
    have J1 := hid (VV.out.k1.below hb)
    have HO := hid hO
    have B2 := hid (bt7 VV.out.bel hb)
    have SZ : Hid (w.heap.size + 2 ≤ wr.heap.size) := VV.out.k1.lt
    clear hO hb VV HDK
    have r0 := J1.out.cell (j := 0) rfl
    have r1 := J1.out.cell (j := 1) rfl
    have f0 := J1.out.free 0
    have f1 := J1.out.free 1
    go_wp2
    try simp only [Exit.inBlock, Exit.then]
    refine bodyPost_ret (v := .agg #[.slice za zn zc, .slice ya yn yc]) ?_ rfl ?_
    · exact results_dsk rfl _ _ _ rfl (by go_simp) (by go_simp)
    · rw [HF.out]
      have O1 : Only (fun y => y = w.heap.size + 1) w3 ((w3.setCell ⟨w.heap.size + 1, 0, none⟩ (.slice za zn zc)).setCell ⟨w.heap.size + 1, 1, none⟩ (.slice ya yn yc)) := (only_set (R := fun y => y = w.heap.size + 1) rfl _).trans (only_set (R := fun y => y = w.heap.size + 1) rfl _)
      have hz := SZ.out
      exact ⟨_, _, _, _, _, _, _, _, rfl, (HO.out.to O1 (fun y e e2 => by have := (HO.out.lt e).1; omega)).base (by omega), (B2.out.setCell (p := ⟨w.heap.size + 1, 0, none⟩) (Nat.le_succ _) _).setCell (p := ⟨w.heap.size + 1, 1, none⟩) (Nat.le_succ _) _⟩
end Go.Proofs.YtijinngmfalfcabDoor

