/-
  DiskWrite of the specification.
-/
import Derived.Test.YtcpdedpgjaimkaaDkF
namespace Go.Proofs.Ytcpdedpgjaimkaa
open Go.RowKit
set_option linter.unusedVariables false
def dwrD (d : DK) (t : Int) (bs : List Int) : DK := ⟨d.sh, d.dw ++ [(t, bs)]⟩
def dwrV (d : DK) (t : Int) (bs : List Int) : Option DK := if dkOk (dwrD d t bs) = true then some (dwrD d t bs) else none
theorem dwr_no {d : DK} {t : Int} {bs : List Int} (h : dkOk d = false) : dkOk (dwrD d t bs) = false := by
  cases e : dkOk (dwrD d t bs) with
  | false => rfl
  | true =>
    have k := (dkOk_iff _).1 e
    have hl : (dwrD d t bs).dw.length = d.dw.length + 1 := by simp [dwrD]
    have : dkOk d = true := (dkOk_iff d).2 ⟨k.1, k.2.1, by have := k.2.2.1; omega, k.2.2.2.1, fun i hi => by
      have := k.2.2.2.2 i (by omega)
      rwa [show dwAt (dwrD d t bs).dw i = dwAt d.dw i from wAt_left hi] at this⟩
    rw [this] at h
    cases h
/-- The boxes of DiskWrite: the result, what comes. -/
structure WX (w v : World) (bo B : Nat) (xa : Option Addr) (xn xc : Nat) (ya : Option Addr) (yn yc : Nat) (V : List Value) (Uu : List (Int × Value)) (d : DK) : Prop where
  bel : Below w.heap.size w v
  k1 : Bk v (w.heap.size + 1) 46 [.slice none 0 0, .slice none 0 0]
  k2 : Bk v bo 46 [.slice xa xn xc, .slice ya yn yc]
  own : DO v B (.slice xa xn xc) V (.slice ya yn yc) Uu d
  lo : w.heap.size + 1 < B
  lb : w.heap.size + 1 < bo
  nb : ∀ y, dbl (.slice xa xn xc) V (.slice ya yn yc) Uu y → y ≠ bo
theorem WX.below {w v v' : World} {bo B : Nat} {xa : Option Addr} {xn xc : Nat} {ya : Option Addr} {yn yc : Nat} {V : List Value} {Uu : List (Int × Value)} {d : DK} (h : WX w v bo B xa xn xc ya yn yc V Uu d) (hb : Below v.heap.size v v') : WX w v' bo B xa xn xc ya yn yc V Uu d :=
  ⟨bt7 h.bel hb, h.k1.below hb, h.k2.below hb, h.own.below hb, h.lo, h.lb, h.nb⟩
theorem WX.pushW {w v u w5 : World} {bo B : Nat} {xa : Option Addr} {xn xc : Nat} {ya : Option Addr} {yn yc : Nat} {V : List Value} {Uu : List (Int × Value)} {d : DK} (h : WX w v bo B xa xn xc ya yn yc V Uu d) (hb : Below v.heap.size v u) (t : Int) (x : List Int) (p : Value) (hx : Ob u v.heap.size p x) (hxb : byt x) (hBv : B ≤ v.heap.size)
    {a5 : Option Addr} {n5 c5 : Nat} (ho : w5.ownsRow B 109 2 (.slice a5 n5 c5) (d.dw.length + 1) (wcs Uu ++ [.int .i64 t, p])) (hg : u.grownBy w5 (Value.slice ya yn yc).ownBlock) (ha : (Value.slice a5 n5 c5).ownBlock = (Value.slice ya yn yc).ownBlock ∨ (Value.slice a5 n5 c5).ownBlock = some u.heap.size) :
    WX w (w5.setCell ⟨bo, 1, none⟩ (.slice a5 n5 c5)) bo B xa xn xc a5 n5 c5 V (Uu ++ [(t, p)]) (dwrD d t x) := by
  have hu := h.below hb
  have hlo := h.lo
  have hlb := h.lb
  have hbv : bo < v.heap.size := h.k2.lt
  have hlt := hb.size
  have o : Only (fun y => (Value.slice ya yn yc).ownBlock = some y) u w5 := only_of_grown hg (fun k e => e)
  have hxo : ∀ y, (Value.slice ya yn yc).ownBlock = some y → B ≤ y ∧ y < v.heap.size := fun y e => World.ownsRow.lt h.own.hd.row y e
  have hnew : ∀ y, p.ownBlock = some y → v.heap.size ≤ y ∧ y < u.heap.size := fun y e => World.ownsRow.lt hx y e
  have hW := hu.own.hd.push t x p (ownD_base hx hBv) hxb (fun y e e2 => by have h1 := hnew y e; have h2 := (h.own.hd.lt e2).2; omega) ho hg ha
  have hS := hu.own.hs.to o (fun y e e2 => hu.own.ap y e (.inl e2))
  have k1 := hu.k1.to o (fun e => by have := (hxo _ e).1; omega)
  have k2 := hu.k2.to o (fun e => h.nb bo (.inr (.inl e)) rfl)
  have b5 : Below w.heap.size w w5 := hu.bel.trans (o.below hu.bel.size (fun y hy e => by have := (hxo y e).1; omega))
  have o2 : Only (fun y => y = bo) w5 (w5.setCell ⟨bo, 1, none⟩ (.slice a5 n5 c5)) := only_set (R := fun y => y = bo) rfl _
  have hwn : ∀ y, wbl (.slice a5 n5 c5) (Uu ++ [(t, p)]) y → y ≠ bo ∧ ∀ z, sbl (.slice xa xn xc) V z → z ≠ y := by
    intro y hy
    rcases hy with e | ⟨i, hi, e⟩
    · rcases ha with ha | ha
      · rw [ha] at e
        exact ⟨h.nb y (.inr (.inl e)), fun z hz e2 => h.own.ap z hz (.inl (by rw [e2]; exact e))⟩
      · rw [ha] at e; cases e
        exact ⟨by omega, fun z hz => by have := (h.own.hs.lt hz).2; omega⟩
    · rw [List.length_append] at hi
      by_cases hi2 : i < Uu.length
      · rw [xAt_left hi2] at e
        exact ⟨h.nb y (.inr (.inr ⟨i, hi2, e⟩)), fun z hz e2 => h.own.ap z hz (.inr ⟨i, hi2, by rw [e2]; exact e⟩)⟩
      · obtain rfl : i = Uu.length := by simp at hi; omega
        rw [xAt_end] at e
        have := (hnew y e).1
        exact ⟨by omega, fun z hz => by have := (h.own.hs.lt hz).2; omega⟩
  refine ⟨b5.setCell (p := ⟨bo, 1, none⟩) (by show w.heap.size ≤ bo; omega) _, k1.setOther (by omega) _ _, k2.set 1 _, ⟨?_, ?_, ?_⟩, hlo, hlb, ?_⟩
  · exact hS.to o2 (fun y e e2 => h.nb y (.inl e) e2)
  · exact hW.to o2 (fun y e e2 => (hwn y e).1 e2)
  · exact fun y hy hz => (hwn y hz).2 y hy rfl
  · intro y hy
    rcases hy with hy | hy
    · exact h.nb y (.inl hy)
    · exact (hwn y hy).1
set_option maxHeartbeats 16000000 in
set_option maxRecDepth 20000 in
theorem specDiskWrite_any (S : Nat → Prop) (sa : Option Addr) (sn sc : Nat) (da : Option Addr) (dn dc : Nat) (d : DK) (t : Int) (ap : Option Addr) (np cp : Nat) (bs : List Int) (w : World) (h : Dk w S sa sn sc da dn dc d) (hsm : smallD d) (h1 : sn ≤ 1048576) (h2 : dn ≤ 1048576) (hp : Rd w ap np cp bs) (hnp : np ≤ 1048576) :
    Calls Try.prog 55 #[.agg #[.slice sa sn sc, .slice da dn dc], .int .i64 t, .slice ap np cp] w fun e w' => DkPo (dwrV d t bs) w e w' := by
  have HH := hid h
  have HSM := hid hsm
  have HP := hid hp
  have HND := hid h.hd.len.1
  have HB0 : Hid (Below w.heap.size w ((w.alloc (.cells #[.slice sa sn sc, .slice da dn dc] 46)).alloc (.cells #[.slice none 0 0, .slice none 0 0] 46))) := below_new (below_new (Below.refl _ _))
  have K0 := hid ((Bk.new w 46 [.slice sa sn sc, .slice da dn dc]).alloc (.cells #[.slice none 0 0, .slice none 0 0] 46))
  have K1 : Hid (Bk ((w.alloc (.cells #[.slice sa sn sc, .slice da dn dc] 46)).alloc (.cells #[.slice none 0 0, .slice none 0 0] 46)) (w.heap.size + 1) 46 [.slice none 0 0, .slice none 0 0]) := by
    have := Bk.new (w.alloc (.cells #[.slice sa sn sc, .slice da dn dc] 46)) 46 [.slice none 0 0, .slice none 0 0]
    show Bk _ _ _ _
    simpa using this
  have HOK := hid (specDiskOk_any S sa sn sc da dn dc d _ (h.below HB0.out))
  have HDV : Hid (dwrV d t bs = if dkOk (dwrD d t bs) = true then some (dwrD d t bs) else none) := rfl
  clear h hsm hp
  go_enter Try.func55, Try.ntmps55
  go_wp2_with fail
  refine HOK.out.mono ?_
  generalize (w.alloc (.cells #[.slice sa sn sc, .slice da dn dc] 46)).alloc (.cells #[.slice none 0 0, .slice none 0 0] 46) = W0 at *
  rintro e w1 ⟨rfl, hb⟩
  have J0 := hid (K0.out.below hb)
  have J1 := hid (K1.out.below hb)
  have B1 := hid (bt7 HB0.out hb)
  clear hb HB0 K0 K1 HOK
  cases hok : dkOk d with
  | false =>
    have HF : Hid (dwrV d t bs = none) := by show _ = _; rw [HDV.out, dwr_no hok]; rfl
    have r0 := J1.out.cell (j := 0) rfl
    have r1 := J1.out.cell (j := 1) rfl
    have f0 := J1.out.free 0
    have f1 := J1.out.free 1
    go_wp2
    try simp only [Exit.inBlock, Exit.then]
    refine bodyPost_ret (v := .tuple #[.agg #[.slice none 0 0, .slice none 0 0], .bool false]) (results_dsk2 rfl _ _ _ rfl rfl (by go_simp) (by go_simp)) rfl ?_
    rw [HF.out]
    exact ⟨_, _, _, _, _, _, _, _, rfl, do_nil _ _, (B1.out.setCell (p := ⟨w.heap.size + 1, 0, none⟩) (Nat.le_succ _) _).setCell (p := ⟨w.heap.size + 1, 1, none⟩) (Nat.le_succ _) _⟩
  | true =>
    have HOK := hid hok
    clear hok
    have d0 := J0.out.cell (j := 0) rfl
    have d1 := J0.out.cell (j := 1) rfl
    go_wp2_with fail
    refine (l05Copy_any S sa sn sc da dn dc d _ (HH.out.below B1.out) HSM.out h1 h2).mono ?_
    rintro e w2 ⟨xa, xn, xc, ya, yn, yc, V, Uu, rfl, hO, hb⟩
    have hbn := below_new (o := .cells #[.slice xa xn xc, .slice ya yn yc] 46) (w := w2) (Below.refl _ _)
    have XU : Hid (WX w (w2.alloc (.cells #[.slice xa xn xc, .slice ya yn yc] 46)) w2.heap.size w1.heap.size xa xn xc ya yn yc V Uu d) :=
      ⟨bt7 (bt7 B1.out hb) hbn, (J1.out.below hb).below hbn, Bk.new w2 _ [_, _], hO.below hbn, J1.out.lt, Nat.lt_of_lt_of_le J1.out.lt hb.size, fun y hy => by have := (hO.lt hy).2; omega⟩
    have SB : Hid (w1.heap.size ≤ w2.heap.size) := hb.size
    have HBW : Hid (Below w.heap.size w w2) := bt7 B1.out hb
    have HK6 : Hid (d.dw.length ≤ 1048576) := by show _ ≤ _; rw [← HND.out]; exact h2
    clear hb hbn hO J0 J1 B1 d0 d1
    generalize w1.heap.size = B at *
    have HBX : Hid (∀ z, Below (w2.alloc (.cells #[.slice xa xn xc, .slice ya yn yc] 46)).heap.size (w2.alloc (.cells #[.slice xa xn xc, .slice ya yn yc] 46)) z → z.cell? ⟨w2.heap.size, 1, none⟩ = some (.slice ya yn yc) ∧ z.frozen? ⟨w2.heap.size, 1, none⟩ = false ∧ z.ownsRow B 109 2 (.slice ya yn yc) d.dw.length (wcs Uu)) := fun z hz => by
      have c := XU.out.below hz
      exact ⟨c.k2.cell (j := 1) rfl, c.k2.free 1, c.own.hd.row⟩
    have HNE : Hid ((Value.slice ya yn yc).ownBlock ≠ some w2.heap.size) := fun e => XU.out.nb _ (.inr (.inl e)) rfl
    have HFIN : Hid (∀ (w4 : World) (a4 : Option Addr) (n4 c4 : Nat) (a5 : Option Addr) (n5 c5 : Nat) (w5 : World), Ob w4 (w2.alloc (.cells #[.slice xa xn xc, .slice ya yn yc] 46)).heap.size (.slice a4 n4 c4) bs → Below (w2.alloc (.cells #[.slice xa xn xc, .slice ya yn yc] 46)).heap.size (w2.alloc (.cells #[.slice xa xn xc, .slice ya yn yc] 46)) w4 → w5.ownsRow B 109 2 (.slice a5 n5 c5) (d.dw.length + 1) (wcs Uu ++ [.int .i64 t, .slice a4 n4 c4]) → (w4.alloc (.cells #[.int .i64 t, .slice a4 n4 c4] 109)).grownBy w5 (Value.slice ya yn yc).ownBlock → ((Value.slice a5 n5 c5).ownBlock = (Value.slice ya yn yc).ownBlock ∨ (Value.slice a5 n5 c5).ownBlock = some (w4.alloc (.cells #[.int .i64 t, .slice a4 n4 c4] 109)).heap.size) →
        WX w (w5.setCell ⟨w2.heap.size, 1, none⟩ (.slice a5 n5 c5)) w2.heap.size B xa xn xc a5 n5 c5 V (Uu ++ [(t, .slice a4 n4 c4)]) (dwrD d t bs)) := by
      intro w4 a4 n4 c4 a5 n5 c5 w5 hO4 hb4 hO5 hg5 ha5
      have hbn := below_new (o := .cells #[.int .i64 t, .slice a4 n4 c4] 109) (w := w4) (Below.refl _ _)
      exact XU.out.pushW (bt7 hb4 hbn) t _ _ (own_kept hO4 (only_of_below hbn (fun _ => False)) (fun _ _ h => h)) HP.out.2.2.2.2.1 (by have := SB.out; simp; omega) hO5 hg5 ha5
    have HS4 : Hid (∀ z, Below (w2.alloc (.cells #[.slice xa xn xc, .slice ya yn yc] 46)).heap.size (w2.alloc (.cells #[.slice xa xn xc, .slice ya yn yc] 46)) z → w2.heap.size < z.heap.size) := fun z hz => by have h1 := hz.size; simp at h1; omega
    have hbe : Below (w2.alloc (.cells #[.slice xa xn xc, .slice ya yn yc] 46)).heap.size (w2.alloc (.cells #[.slice xa xn xc, .slice ya yn yc] 46)) ((w2.alloc (.cells #[.slice xa xn xc, .slice ya yn yc] 46)).alloc (.cells #[] 5)).drew := bt7 (below_new (Below.refl _ _)) (below_drew _)
    have HUS : Hid ((w2.alloc (.cells #[.slice xa xn xc, .slice ya yn yc] 46)).heap.size = w2.heap.size + 1) := by show _ = _; simp
    have HOB : Hid (Ob ((w2.alloc (.cells #[.slice xa xn xc, .slice ya yn yc] 46)).alloc (.cells #[] 5)).drew (w2.heap.size + 1) (.slice (some ⟨w2.heap.size + 1, 0, none⟩) 0 0) []) := by
      have := ob_new (w2.alloc (.cells #[.slice xa xn xc, .slice ya yn yc] 46)) (w2.alloc (.cells #[.slice xa xn xc, .slice ya yn yc] 46)).heap.size (Nat.le_refl _)
      rw [HUS.out] at this
      exact own_kept this (only_of_below (below_drew _) (fun _ => False)) (fun _ _ h => h)
    have HRD2 : Hid (Rd ((w2.alloc (.cells #[.slice xa xn xc, .slice ya yn yc] 46)).alloc (.cells #[] 5)).drew ap np cp bs) := HP.out.kept (bt7 (bt7 HBW.out (below_new (Below.refl _ _))) hbe)
    have hzb : ([] : List Int).length + bs.length ≤ 70368744177664 := by rw [← HP.out.1]; simp; omega
    have HZ2 : Hid (w2.heap.size + 1 ≤ ((w2.alloc (.cells #[.slice xa xn xc, .slice ya yn yc] 46)).alloc (.cells #[] 5)).drew.heap.size) := by have := hbe.size; rw [HUS.out] at this; exact this
    have HB4 : Hid (∀ w4 : World, ((w2.alloc (.cells #[.slice xa xn xc, .slice ya yn yc] 46)).alloc (.cells #[] 5)).drew.grownBy w4 (Value.slice (some ⟨w2.heap.size + 1, 0, none⟩) 0 0).ownBlock → Below (w2.alloc (.cells #[.slice xa xn xc, .slice ya yn yc] 46)).heap.size (w2.alloc (.cells #[.slice xa xn xc, .slice ya yn yc] 46)) w4) := fun w4 hg => hbe.trans ((only_of_grown hg (R := fun y => (Value.slice (some ⟨w2.heap.size + 1, 0, none⟩) 0 0).ownBlock = some y) (fun k e => e)).below hbe.size (fun y hy e => by have e' : w2.heap.size + 1 = y := (by simpa [Value.ownBlock] using e); rw [HUS.out] at hy; omega))
    have HCV : Hid (∀ (w4 : World) (v4 : Value), Ob w4 (w2.heap.size + 1) v4 ([] ++ bs) → Ob w4 (w2.alloc (.cells #[.slice xa xn xc, .slice ya yn yc] 46)).heap.size v4 bs) := fun w4 v4 hO => by rw [HUS.out]; simpa using hO
    have HSZ : Hid (∀ z, Below (w2.alloc (.cells #[.slice xa xn xc, .slice ya yn yc] 46)).heap.size (w2.alloc (.cells #[.slice xa xn xc, .slice ya yn yc] 46)) z → B ≤ z.heap.size) := fun z hz => by have h1 := hz.size; have h2 := SB.out; simp at h1; omega
    have s1b : w2.heap.size < w2.heap.size + 1 := by omega
    clear hbe
    go_wp2_with fail
    go_cut [] (fun v => ∃ a5 n5 c5 V U5, Hid (WX w v w2.heap.size B xa xn xc a5 n5 c5 V U5 (dwrD d t bs)))
    case first =>
      go_region_law (first
        | (refine step_append_rd rfl _ _ rfl (w2.heap.size + 1) _ [] rfl HOB.out ap np cp bs rfl HRD2.out hzb HZ2.out ?_; intro a4 n4 c4 w4 hO4 hg4; have hb4 := HB4.out w4 hg4; have q1 := (HBX.out w4 hb4).1; have s4 := HS4.out w4 hb4)
        | (refine step_append_g rfl _ _ _ rfl B 109 (.agg #[.int .i64 0, .slice none 0 0]) 2 32 Try.underlying44 infoWriteI rfl (by decide) (by decide) (.slice ya yn yc) d.dw.length (wcs Uu) rfl (HBX.out _ (bt7 hb4 (below_new (Below.refl _ _)))).2.2 w4.heap.size [.int .i64 t, .slice a4 n4 c4] rfl (rw_two (Bk.new w4 _ [_, _])) rfl (by intro u hu; simp at hu; rcases hu with rfl | rfl <;> rfl) HK6.out (HSZ.out _ (bt7 hb4 (below_new (Below.refl _ _)))) w2.heap.size 1 _ (HBX.out _ (bt7 hb4 (below_new (Below.refl _ _)))).1 (HBX.out _ (bt7 hb4 (below_new (Below.refl _ _)))).2.1 HNE.out ?_; intro a5 n5 c5 w5 hO5 hg5 ha5 hc5 hf5))
      all_goals (go_wp2_with fail; go_meet)
      all_goals exact ⟨a5, n5, c5, _, _, HFIN.out w4 a4 n4 c4 a5 n5 c5 w5 (HCV.out _ _ hO4) hb4 hO5 hg5 ha5⟩
    case rest =>
      clear HSZ HCV HB4 HZ2 HRD2 HOB HUS HS4 HFIN HNE HBX XU HBW
      obtain ⟨a5, n5, c5, V5, U5, X5⟩ := hcut
      generalize w2.heap.size = bo at *
      have c0 := X5.out.k2.cell (j := 0) rfl
      have c1 := X5.out.k2.cell (j := 1) rfl
      go_wp2_with fail
      refine (specDiskOk_any (fun _ => True) xa xn xc a5 n5 c5 (dwrD d t bs) _ (X5.out.own.dk (fun _ _ => trivial))).mono ?_
      rintro e w6 ⟨rfl, hb⟩
      have X6 := hid (X5.out.below hb)
      clear hb X5 c0 c1
      have r0 := X6.out.k1.cell (j := 0) rfl
      have r1 := X6.out.k1.cell (j := 1) rfl
      have f0 := X6.out.k1.free 0
      have f1 := X6.out.k1.free 1
      have c0 := X6.out.k2.cell (j := 0) rfl
      have c1 := X6.out.k2.cell (j := 1) rfl
      cases hok : dkOk (dwrD d t bs) with
      | false =>
        have HF : Hid (dwrV d t bs = none) := by show _ = _; rw [HDV.out, hok]; rfl
        go_wp2
        try simp only [Exit.inBlock, Exit.then]
        refine bodyPost_ret (v := .tuple #[.agg #[.slice none 0 0, .slice none 0 0], .bool false]) (results_dsk2 rfl _ _ _ rfl rfl (by go_simp) (by go_simp)) rfl ?_
        rw [HF.out]
        exact ⟨_, _, _, _, _, _, _, _, rfl, do_nil _ _, (X6.out.bel.setCell (p := ⟨w.heap.size + 1, 0, none⟩) (Nat.le_succ _) _).setCell (p := ⟨w.heap.size + 1, 1, none⟩) (Nat.le_succ _) _⟩
      | true =>
        have HF : Hid (dwrV d t bs = some (dwrD d t bs)) := by show _ = _; rw [HDV.out, hok]; rfl
        go_wp2
        try simp only [Exit.inBlock, Exit.then]
        refine bodyPost_ret (v := .tuple #[.agg #[.slice xa xn xc, .slice a5 n5 c5], .bool true]) (results_dsk2 rfl _ _ _ rfl rfl (by go_simp) (by go_simp)) rfl ?_
        rw [HF.out]
        have O1 : Only (fun y => y = w.heap.size + 1) w6 ((w6.setCell ⟨w.heap.size + 1, 0, none⟩ (.slice xa xn xc)).setCell ⟨w.heap.size + 1, 1, none⟩ (.slice a5 n5 c5)) := (only_set (R := fun y => y = w.heap.size + 1) rfl _).trans (only_set (R := fun y => y = w.heap.size + 1) rfl _)
        exact ⟨_, _, _, _, _, _, _, _, rfl, (X6.out.own.to O1 (fun y e e2 => by have h1 := (X6.out.own.lt e).1; have h2 := X6.out.lo; omega)).base (by have := X6.out.lo; omega), (X6.out.bel.setCell (p := ⟨w.heap.size + 1, 0, none⟩) (Nat.le_succ _) _).setCell (p := ⟨w.heap.size + 1, 1, none⟩) (Nat.le_succ _) _⟩
end Go.Proofs.Ytcpdedpgjaimkaa

