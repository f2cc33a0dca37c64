/-
  readBranch, given read.
-/
import Derived.Test.YtidjehapeanpbaaGreatDoorMo4
import Derived.Deep.DeepCutAuto
import Derived.Test.YtidjehapeanpbaaGreatDoorMo1
import Derived.Laws.StructEq
import Derived.Test.YtidjehapeanpbaaGreatDoorMo6
import Derived.Test.YtidjehapeanpbaaGreatDoorMo2
import Derived.Laws.CopyRow
import Derived.Lib.AppendZerosOnto
import Derived.Lib.Overlaps
import Derived.Deep.RegionLaw
namespace Go.Proofs.YtidjehapeanpbaaGreatDoor
open Go.RowKit
structure BrI (w wr : World) (wb : Nat) (nv q0 q1 q2 : Value) (ts : List T) (nx : Nat) (kv : Value) (A : Nat → Nat) (SS : Nat → Nat → Prop) : Prop where
 wlt : wb < w.heap.size
 walk : Bk wr wb 197 [nv, .int .i64 nx]
 par : Bk wr w.heap.size 85 [q0, q1, q2]
 only : Only (fun b => b = wb) w wr
 br : Bk wr (w.heap.size + 1) 195 [.slice none 0 0, kv]
 row : Ok wr (w.heap.size + 2) kv ts.length A
 sub : ∀ i, i < ts.length → ∀ x, SS i x → w.heap.size + 2 ≤ x ∧ x < wr.heap.size ∧ kv.ownBlock ≠ some x
 dis : ∀ i j, i < ts.length → j < ts.length → i ≠ j → ∀ x, SS i x → ¬ SS j x
 kid : ∀ i, i < ts.length → Limb wr (SS i) (A i) (tAt ts i)
 rdy : ∀ i, i < ts.length → Rdy (tAt ts i)
theorem BrI.read {w wr w1 : World} {wb : Nat} {nv q0 q1 q2 : Value} {ts : List T} {nx n1 : Nat} {kv : Value} {A : Nat → Nat} {SS : Nat → Nat → Prop} (h : BrI w wr wb nv q0 q1 q2 ts nx kv A SS)
  (ho : Only (fun b => b = wb) wr w1) (hb : Bk w1 wb 197 [nv, .int .i64 n1]) : BrI w w1 wb nv q0 q1 q2 ts n1 kv A SS := by
 have hw := h.wlt
 refine ⟨h.wlt, hb, h.par.to ho (by omega), h.only.trans ho, h.br.to ho (by omega), h.row.to ho (fun k e => ?_), fun i hi x hx => ?_, h.dis, fun i hi => (h.kid i hi).to ho (fun x hx => ?_), h.rdy⟩
 ·have := (World.ownsRow.lt h.row k e).1; omega
 ·have := h.sub i hi x hx; have := ho.size; exact ⟨by omega, by omega, (h.sub i hi x hx).2.2⟩
 ·have := h.sub i hi x hx; omega
theorem BrI.keep {w wr w1 : World} {wb : Nat} {nv q0 q1 q2 : Value} {ts : List T} {nx : Nat} {kv : Value} {A : Nat → Nat} {SS : Nat → Nat → Prop} (h : BrI w wr wb nv q0 q1 q2 ts nx kv A SS)
  (hb : Below wr.heap.size wr w1) : BrI w w1 wb nv q0 q1 q2 ts nx kv A SS := h.read (only_of_below hb _) (h.walk.below hb)
theorem BrI.push {w u w2 : World} {wb : Nat} {nv q0 q1 q2 : Value} {ts : List T} {nx : Nat} {kv v' : Value} {A : Nat → Nat} {SS : Nat → Nat → Prop} (h : BrI w u wb nv q0 q1 q2 ts nx kv A SS)
  {P : Nat → Prop} {b : Nat} {t : T} (hl : Limb u P b t) (hP : ∀ x, P x → w.heap.size + 2 ≤ x ∧ x < u.heap.size ∧ kv.ownBlock ≠ some x ∧ ∀ i, i < ts.length → ¬ SS i x) (ht : Rdy t)
  (ho : Ok w2 (w.heap.size + 2) v' (ts.length + 1) (fun i => if i = ts.length then b else A i)) (hg : u.grownBy w2 kv.ownBlock) (ha : v'.ownBlock = kv.ownBlock ∨ v'.ownBlock = some u.heap.size) :
  BrI w (w2.setCell ⟨w.heap.size + 1, 1, none⟩ v') wb nv q0 q1 q2 (ts ++ [t]) nx v' (fun i => if i = ts.length then b else A i) (fun i => if i = ts.length then P else SS i) := by
 have hw := h.wlt
 have hkv := fun k e => (World.ownsRow.lt h.row k e).1
 have hsz : u.heap.size ≤ w2.heap.size := hg.size
 have hbr := h.br.lt
 have hav : ∀ x, v'.ownBlock = some x → w.heap.size + 2 ≤ x := fun x e => (World.ownsRow.lt ho x e).1
 have o1 : Only (fun b => some b = kv.ownBlock) u w2 := only_of_grown hg (fun k e => e.symm)
 have o2 : Only (fun b => b = w.heap.size + 1) w2 (w2.setCell ⟨w.heap.size + 1, 1, none⟩ v') := only_set (R := fun b => b = w.heap.size + 1) rfl _
 have o3 : Only (fun b => some b = kv.ownBlock ∨ b = w.heap.size + 1) u (w2.setCell ⟨w.heap.size + 1, 1, none⟩ v') := (o1.mono (fun _ _ e => .inl e)).then o2 (fun _ _ e => .inr e)
 refine ⟨h.wlt, h.walk.to o3 ?_, h.par.to o3 ?_, ?_, ?_, ?_, ?_, ?_, ?_, ?_⟩
 ·rintro (e | e)
  ·have := hkv wb e.symm; omega
  ·omega
 ·rintro (e | e)
  ·have := hkv w.heap.size e.symm; omega
  ·omega
 ·refine h.only.then o3 (fun i hi e => ?_)
  rcases e with e | e
  ·have := hkv i e.symm; omega
  ·omega
 ·have k1 := h.br.to o1 (fun e => by have := hkv _ e.symm; omega)
  exact k1.set 1 v'
 ·rw [List.length_append]
  exact ho.to o2 (fun k e => by have := hav k e; omega)
 ·intro i hi x hx
  have hz : (w2.setCell ⟨w.heap.size + 1, 1, none⟩ v').heap.size = w2.heap.size := by simp [World.setCell]
  rw [hz]
  by_cases e : i = ts.length
  ·subst e
   simp only [if_true] at hx
   obtain ⟨p1, p2, p3, p4⟩ := hP x hx
   refine ⟨p1, by omega, ?_⟩
   rcases ha with ha | ha
   ·rw [ha]; exact p3
   ·rw [ha]; intro e; cases e; omega
  ·simp only [e, if_false] at hx
   simp at hi
   obtain ⟨p1, p2, p3⟩ := h.sub i (by omega) x hx
   refine ⟨p1, by omega, ?_⟩
   rcases ha with ha | ha
   ·rw [ha]; exact p3
   ·rw [ha]; intro e; cases e; omega
 ·intro i j hi hj hij x hx hy
  simp at hi hj
  by_cases e : i = ts.length
  ·subst e
   simp only [if_true] at hx
   rw [if_neg (by omega)] at hy
   exact (hP x hx).2.2.2 j (by omega) hy
  ·rw [if_neg e] at hx
   by_cases e' : j = ts.length
   ·subst e'
    simp only [if_true] at hy
    exact (hP x hy).2.2.2 i (by omega) hx
   ·rw [if_neg e'] at hy
    exact h.dis i j (by omega) (by omega) hij x hx hy
 ·intro i hi
  rw [tAt_snoc _ _ _ hi]
  by_cases e : i = ts.length
  ·subst e
   simp only [if_true]
   exact hl.to o3 (fun x hx => by
    rintro (e | e)
    ·exact (hP x hx).2.2.1 e.symm
    ·have := (hP x hx).1; omega)
  ·simp only [e, if_false]
   simp at hi
   exact (h.kid i (by omega)).to o3 (fun x hx => by
    have := h.sub i (by omega) x hx
    rintro (e | e)
    ·exact this.2.2 e.symm
    ·omega)
 ·intro i hi
  rw [tAt_snoc _ _ _ hi]
  by_cases e : i = ts.length
  ·rw [if_pos e]; exact ht
  ·rw [if_neg e]; simp at hi; exact h.rdy i (by omega)
theorem BrI.limb {w wr : World} {wb : Nat} {nv q0 q1 q2 : Value} {ts : List T} {nx : Nat} {kv : Value} {A : Nat → Nat} {SS : Nat → Nat → Prop} (h : BrI w wr wb nv q0 q1 q2 ts nx kv A SS) :
  Limb wr (fun y => w.heap.size ≤ y ∧ y < wr.heap.size) (w.heap.size + 1) (.mk [] ts) := by
 have hbr := h.br.lt
 refine .mk _ _ (.slice none 0 0) kv [] ts A SS ⟨by omega, hbr⟩ h.br (World.ownsRow_nil _ _ _ _) (own_mono h.row (Nat.zero_le _)) (fun x hx => by cases hx) (fun x hx => ?_) (fun i hi x hx => ?_) h.dis h.kid
 ·have := World.ownsRow.lt h.row x hx
  exact ⟨⟨by omega, this.2⟩, by omega, by simp [Value.ownBlock]⟩
 ·have := h.sub i hi x hx
  exact ⟨⟨by omega, this.2.1⟩, by omega, by simp [Value.ownBlock], this.2.2⟩
theorem BrI.first {w : World} {wb : Nat} {nv q0 q1 q2 : Value} {nx : Nat} (hw : Bk w wb 197 [nv, .int .i64 nx]) :
  BrI w ((w.alloc (.cells #[q0, q1, q2] 85)).alloc (.cells #[.slice none 0 0, .slice none 0 0] 195)) wb nv q0 q1 q2 [] nx (.slice none 0 0) (fun _ => 0) (fun _ _ => False) := by
 refine ⟨hw.lt, (hw.alloc _).alloc _, (Bk.new w 85 [q0, q1, q2]).alloc _, only_of_below (below_new (below_new (Below.refl _ _))) _, ?_, World.ownsRow_nil _ _ _ _, fun i hi => by simp at hi, fun i j hi => by simp at hi, fun i hi => by simp at hi, fun i hi => by simp at hi⟩
 have := Bk.new (w.alloc (.cells #[q0, q1, q2] 85)) 195 [.slice none 0 0, .slice none 0 0]
 simpa using this
set_option maxHeartbeats 8000000 in
theorem readBranch_any (ns : List NB) (f : Nat) (ih : ReadC ns f) (S : Nat → Prop) (wb : Nat) (an : Option Addr) (nn cn : Nat) (ap ax ai : Option Addr) (np cp nk cx ni ci : Nat) (x : NB) (nx : Nat) (w : World)
  (hW : Bk w wb 197 [.slice an nn cn, .int .i64 nx]) (hN : Nr w S (.slice an nn cn) ns) (hwb : ¬ S wb) (hlen : ns.length < 400) (hnx : nx ≤ ns.length) (hf : ns.length ≤ nx + f)
  (hP : Pr w S (.slice ap np cp) x.ps) (hS : Sr w S (.slice ax nk cx) x.keys) (hI : Ir w S (.slice ai ni ci) x.kids) :
  Calls Tryz.prog 171 #[.pointer (some ⟨wb, 0, none⟩), .agg #[.slice ap np cp, .slice ax nk cx, .slice ai ni ci]] w fun e w' => ReadPost (brT ns f x nx) w wb (.slice an nn cn) e w' ∧ Only (fun b => b = wb) w w' := by
 have HIH := hid ih
 have HW := hid hW
 have HN := hid hN
 have HWB := hid hwb
 have HLEN := hid hlen
 have HNX := hid hnx
 have HF := hid hf
 have HS := hid hS
 have HI := hid hI
 have lp := hid (Rw.len hP).1
 have lk := hid (Rw.len hS).1
 have li := hid (Rw.len hI).1
 have b1 := (Rw.len hP).2.1
 have b2 := (Rw.len hP).2.2
 have b3 := (Rw.len hS).2.1
 have b4 := (Rw.len hS).2.2
 have b5 := (Rw.len hI).2.1
 have b6 := (Rw.len hI).2.2
 clear ih hW hN hwb hlen hnx hf hP hS hI
 have HB0 := hid (below_new (o := .cells #[.slice ap np cp, .slice ax nk cx, .slice ai ni ci] 85) (w := w) (Below.refl _ _))
 have KP := hid (Bk.new w 85 [.slice ap np cp, .slice ax nk cx, .slice ai ni ci])
 have LB : Hid (brOk x = !(decide (ni < 2) || decide (4 < ni) || !decide ((nk : Int) = (ni : Int) - 1) || !decide (np = 0))) := by
  show _ = _
  rw [lp.out, lk.out, li.out]; rfl
 by_cases a1 : ni < 2
 ·have HR : Hid (brT ns f x nx = none) := by show _ = _; rw [brT, if_neg]; rw [LB.out]; simp [a1]
  have e1 : (ni : Int) < 2 := by omega
  clear LB a1
  go_enter Tryz.func171, Tryz.ntmps171
  go_wp2
  go_ret
  exact ⟨by rw [HR.out]; rfl, only_of_below HB0.out _⟩
 ·have e1 : ¬ (ni : Int) < 2 := by omega
  by_cases a2 : 4 < ni
  ·have HR : Hid (brT ns f x nx = none) := by show _ = _; rw [brT, if_neg]; rw [LB.out]; simp [a2]
   have e2 : (4 : Int) < (ni : Int) := by omega
   clear LB a1 a2
   go_enter Tryz.func171, Tryz.ntmps171
   go_wp2
   go_ret
   exact ⟨by rw [HR.out]; rfl, only_of_below HB0.out _⟩
  ·have e2 : ¬ (4 : Int) < (ni : Int) := by omega
   by_cases a3 : (nk : Int) = (ni : Int) - 1
   ·have e3 : ((nk : Int) != (ni : Int) - 1) = false := by simp [a3]
    by_cases a4 : np = 0
    ·have e4 : ((np : Int) != 0) = false := by simp [a4]
     have HOK : Hid (brOk x = true) := by show _ = _; rw [LB.out]; simp [a1, a2, a3, a4]
     have HNK := hid a3
     have HIN : Hid (ni ≤ 4) := by show _ ≤ _; omega
     clear LB a3 a4
     go_enter Tryz.func171, Tryz.ntmps171
     have HI0 := hid (BrI.first (q0 := .slice ap np cp) (q1 := .slice ax nk cx) (q2 := .slice ai ni ci) HW.out)
     go_wp2_with fail
     go_loopw [38] (fun i wr => ∃ (ts : List T) (nx' : Nat) (kv : Value) (A : Nat → Nat) (SS : Nat → Nat → Prop), i = .int .i64 (ts.length : Int) ∧ Hid (ts.length ≤ ni) ∧ Hid (BrI w wr wb (.slice an nn cn) (.slice ap np cp) (.slice ax nk cx) (.slice ai ni ci) ts nx' kv A SS) ∧ Hid (nx ≤ nx' ∧ nx' ≤ ns.length) ∧ Hid (rdIL (rdI ns f) x.keys ts (x.kids.drop ts.length) nx' = rdIL (rdI ns f) x.keys [] x.kids nx)) (fun i _ => ni - (intOf i).toNat)
     case atStart => exact ⟨[], nx, _, _, _, rfl, Nat.zero_le _, HI0.out, ⟨Nat.le_refl _, HNX.out⟩, rfl⟩
     case round =>
      obtain ⟨ts, nx', kv, A, SS, rfl, HTL, HBI, HNB, HRD⟩ := hrel
      generalize hk : ts.length = k at *
      have HKL := hid hk
      clear hk
      have HNr := hid (HN.out.to HBI.out.only (fun b hb _ e => HWB.out (e ▸ hb)))
      have HIr := hid (HI.out.to HBI.out.only (fun b hb _ e => HWB.out (e ▸ hb)))
      have HSr := hid (HS.out.to HBI.out.only (fun b hb _ e => HWB.out (e ▸ hb)))
      have p1 := HBI.out.par.cell (j := 1) rfl
      by_cases hlt : k < ni
      ·have hlt' : (k : Int) < (ni : Int) := by omega
       obtain ⟨bi, offi, rfl, _, _, hci⟩ := HIr.out.at (by omega)
       have hck := hci k hlt
       have HKD : Hid (x.kids.drop k = iAt x.kids k :: x.kids.drop (k + 1)) := by
        show _ = _
        have hl : k < x.kids.length := by rw [← li.out]; exact hlt
        rw [List.drop_eq_getElem_cons hl]
        simp [iAt, hl]
       clear hci
       generalize hpl : iAt x.kids k = pl at hck HKD
       clear hpl
       go_wp2_with fail
       refine (HIH.out S wb an nn cn pl nx' wr HBI.out.walk HNr.out HWB.out HLEN.out HNB.out.2 (by have := HF.out; have := HNB.out.1; omega)).mono ?_
       rintro e w1 ⟨hpost, ho1⟩
       cases hr : rdI ns f pl nx' with
       | none =>
        rw [hr] at hpost
        have he : e = .returned (.pointer none) := hpost
        subst he
        have HR : Hid (brT ns f x nx = none) := by
         show _ = _
         have h1 := HRD.out
         rw [HKD.out, rdIL, hr] at h1
         rw [brT, if_pos HOK.out, ← h1]
        have HO1 := hid (HBI.out.only.trans ho1)
        clear hpost ho1 hr
        go_wp2
        go_ret
        exact ⟨by rw [HR.out]; rfl, HO1.out⟩
       | some tn =>
        obtain ⟨t, n1⟩ := tn
        rw [hr] at hpost
        obtain ⟨b, he, hL, hB⟩ := hpost
        subst he
        have HRI := hid (rdI_rdy hr (by have := HLEN.out; omega))
        have HB1 := hid (HBI.out.read ho1 hB)
        have HL := hid hL
        have HPP : Hid (∀ y, (wr.heap.size ≤ y ∧ y < w1.heap.size) → w.heap.size + 2 ≤ y ∧ y < w1.heap.size ∧ kv.ownBlock ≠ some y ∧ ∀ i, i < ts.length → ¬ SS i y) := by
         rintro y ⟨h1, h2⟩
         have h3 := HBI.out.br.lt
         refine ⟨by omega, h2, fun e => ?_, fun i hi hs => ?_⟩
         ·have := (World.ownsRow.lt HBI.out.row y e).2; omega
         ·have := (HBI.out.sub i hi y hs).2.1; omega
        have HRD1 : Hid (rdIL (rdI ns f) x.keys [] x.kids nx = if 0 < ts.length ∧ (t.least ≠ sAt x.keys (ts.length - 1) ∨ t.lv ≠ (tAt ts 0).lv) then none else rdIL (rdI ns f) x.keys (ts ++ [t]) (x.kids.drop (k + 1)) n1) := by
         show _ = _
         have h1 := HRD.out
         rw [HKD.out, rdIL, hr] at h1
         rw [← h1]
         rfl
        have p1' := HB1.out.par.cell (j := 1) rfl
        have HSr1 := hid (HS.out.to HB1.out.only (fun b hb _ e => HWB.out (e ▸ hb)))
        clear hL hB hr ho1 HBI HRD HKD p1
        obtain ⟨ak, ck, hkv⟩ := HB1.out.row.shape
        rw [HKL.out] at hkv
        subst hkv
        cases k with
        | zero =>
         have HTS : Hid (ts = []) := List.eq_nil_of_length_eq_zero HKL.out
         have HRD2 : Hid (rdIL (rdI ns f) x.keys (ts ++ [t]) (x.kids.drop (0 + 1)) n1 = rdIL (rdI ns f) x.keys [] x.kids nx) := by
          show _ = _
          rw [HRD1.out, if_neg]
          rw [HKL.out]; omega
         clear HRD1
         have c1 := HB1.out.br.cell (j := 1) rfl
         have f1 := HB1.out.br.free 1
         go_wp2_with fail
         go_quiet (fail)
         have HB2 := hid (HB1.out.keep (Below.drewN' (Below.refl _ _) nq))
         have HL2 := hid (HL.out.kept (Below.drewN' (Below.refl _ _) nq))
         have HOK2 : Hid (Ok (w1.drewN nq) (w.heap.size + 2) (.slice ak (0) ck) (0) A) := by have := HB2.out.row; rw [HKL.out] at this; exact this
         have HB3 := hid (HB2.out.keep (below_new (o := .cells #[.pointer (some ⟨b, 0, none⟩)] 165) (Below.refl _ _)))
         have HL3 := hid (HL2.out.kept (below_new (o := .cells #[.pointer (some ⟨b, 0, none⟩)] 165) (Below.refl _ _)))
         have HSZ : Hid (w.heap.size + 2 ≤ w1.heap.size) := by have := HB1.out.br.lt; show _ ≤ _; omega
         go_wp2_with (at_builtin; refine wpList_append_ptr rfl _ _ rfl (w.heap.size + 2) _ (0) A rfl (HOK2.out.kept (below_new (o := .cells #[.pointer (some ⟨b, 0, none⟩)] 165) (Below.refl _ _))) w1.heap.size b rfl ?qc ?qb ?qd ?_)
         case qc => exact (Bk.new (w1.drewN nq) 165 [.pointer (some ⟨b, 0, none⟩)]).cell (j := 0) rfl
         case qb => have := HIN.out; omega
         case qd => have := HSZ.out; simp; omega
         intro v2 w2 hO2 hg2 ha2
         obtain ⟨a2, cc2, hv2⟩ := hO2.shape
         subst hv2
         have HB4 := hid (HB3.out.push (P := fun y => wr.heap.size ≤ y ∧ y < w1.heap.size) HL3.out (fun y hy => ⟨(HPP.out y hy).1, by have := (HPP.out y hy).2.1; simp; omega, (HPP.out y hy).2.2⟩) HRI.out.1 (by rw [HKL.out]; exact hO2) hg2 (by simpa using ha2))
         have K2 := HB3.out.br.to (only_of_grown (R := fun y => w.heap.size + 2 ≤ y) hg2 (fun y e => (World.ownsRow.lt HB3.out.row y e).1)) (by omega)
         have c2 := K2.cell (j := 1) rfl
         have f2 := K2.free 1
         have HRD3 : Hid (rdIL (rdI ns f) x.keys (ts ++ [t]) (x.kids.drop (ts ++ [t]).length) n1 = rdIL (rdI ns f) x.keys [] x.kids nx) := by
          show _ = _
          rw [List.length_append, HKL.out]
          exact HRD2.out
         have HTL2 : Hid ((ts ++ [t]).length = 0 + 1) := by show _ = _; rw [List.length_append, HKL.out]; rfl
         clear K2 hO2 hg2 ha2 HB3 HL3 HOK2 HRD2
         go_wp2
         go_roundw
         case rel => exact ⟨ts ++ [t], n1, _, _, _, by rw [HTL2.out]; go_num, by show _ ≤ _; rw [HTL2.out]; omega, HB4.out, ⟨by have := HNB.out.1; have := HRI.out.2.2; omega, HRI.out.2.1⟩, HRD3.out⟩
         case measure => simp [intOf]; omega
        | succ k' =>
         have hk1 : (0 : Int) < (k' : Int) + 1 := by omega
         obtain ⟨bs, offs, hax, _, _, hcs⟩ := HSr1.out.at (by have := HNK.out; omega)
         subst hax
         have hks := hcs k' (by have := HNK.out; omega)
         have hkk : (k' : Int) < (nk : Int) := by have := HNK.out; omega
         clear hcs
         obtain ⟨g0, og, hag, _, _, hcg⟩ := Rw.at (rw_own (S := fun _ => True) (by have := HB1.out.row; rw [HKL.out] at this; exact this) (fun _ _ _ _ => trivial)) (by omega)
         subst hag
         have hg0 := hcg 0 _ (ptrs_at A _ 0 (by omega))
         simp only [ptr, Nat.add_zero] at hg0
         clear hcg
         have HT0 := hid (HB1.out.rdy 0 (by rw [HKL.out]; omega))
         have HL0 := hid (HB1.out.kid 0 (by rw [HKL.out]; omega))
         have CL : ∀ n, Calls Tryz.prog 184 #[.pointer (some ⟨b, 0, none⟩)] (w1.drewN n) fun e w' => e = .returned (.string t.least) ∧ ∃ m, w' = (w1.drewN n).drewN m := fun n => least_any _ b t _ (HL.out.kept (Below.drewN' (Below.refl _ _) n)) HRI.out.1.ne
         have CD : ∀ n, Calls Tryz.prog 185 #[.pointer (some ⟨b, 0, none⟩)] (w1.drewN n) fun e w' => e = .returned (.int .i64 (t.dpt : Int)) ∧ ∃ m, w' = (w1.drewN n).drewN m := fun n => depth_any _ b t _ (HL.out.kept (Below.drewN' (Below.refl _ _) n)) HRI.out.1.few HRI.out.1.lv
         have CD0 : ∀ n, Calls Tryz.prog 185 #[.pointer (some ⟨A 0, 0, none⟩)] (w1.drewN n) fun e w' => e = .returned (.int .i64 ((tAt ts 0).dpt : Int)) ∧ ∃ m, w' = (w1.drewN n).drewN m := fun n => depth_any _ (A 0) (tAt ts 0) _ (HL0.out.kept (Below.drewN' (Below.refl _ _) n)) HT0.out.few HT0.out.lv
         have HDD : Hid (t.dpt = t.lv ∧ (tAt ts 0).dpt = (tAt ts 0).lv) := ⟨by rw [T.dpt, HRI.out.1.bare]; rfl, by rw [T.dpt, HT0.out.bare]; rfl⟩
         by_cases hle : t.least = sAt x.keys k'
         ·by_cases hd : t.dpt = (tAt ts 0).dpt
          ·have HRD2 : Hid (rdIL (rdI ns f) x.keys (ts ++ [t]) (x.kids.drop (k' + 1 + 1)) n1 = rdIL (rdI ns f) x.keys [] x.kids nx) := by
            show _ = _
            rw [HRD1.out, if_neg]
            rw [HKL.out]
            rintro ⟨_, h | h⟩
            ·exact h hle
            ·have := HDD.out; omega
           rw [hle] at CL
           rw [hd] at CD
           have hdd : (((tAt ts 0).dpt : Int) != ((tAt ts 0).dpt : Int)) = false := by simp
           clear HRD1 hle hd
           generalize sAt x.keys k' = ky at *
           generalize (tAt ts 0).dpt = dd at *
           have c1 := HB1.out.br.cell (j := 1) rfl
           have f1 := HB1.out.br.free 1
           go_wp2_with fail
           go_quiet (first | (go_at_call 184; exact Calls.quiet_of (CL _)) | (go_at_call_of 185 (Value.pointer (some ⟨A 0, 0, none⟩)); exact Calls.quiet_of (CD0 _)) | (go_at_call_of 185 (Value.pointer (some ⟨b, 0, none⟩)); exact Calls.quiet_of (CD _)) | fail)
           have HB2 := hid (HB1.out.keep (Below.drewN' (Below.refl _ _) nq))
           have HL2 := hid (HL.out.kept (Below.drewN' (Below.refl _ _) nq))
           have HOK2 : Hid (Ok (w1.drewN nq) (w.heap.size + 2) (.slice (some ⟨g0, og, none⟩) (k' + 1) ck) (k' + 1) A) := by have := HB2.out.row; rw [HKL.out] at this; exact this
           have HB3 := hid (HB2.out.keep (below_new (o := .cells #[.pointer (some ⟨b, 0, none⟩)] 165) (Below.refl _ _)))
           have HL3 := hid (HL2.out.kept (below_new (o := .cells #[.pointer (some ⟨b, 0, none⟩)] 165) (Below.refl _ _)))
           have HSZ : Hid (w.heap.size + 2 ≤ w1.heap.size) := by have := HB1.out.br.lt; show _ ≤ _; omega
           go_wp2_with (at_builtin; refine wpList_append_ptr rfl _ _ rfl (w.heap.size + 2) _ (k' + 1) A rfl (HOK2.out.kept (below_new (o := .cells #[.pointer (some ⟨b, 0, none⟩)] 165) (Below.refl _ _))) w1.heap.size b rfl ?qc ?qb ?qd ?_)
           case qc => exact (Bk.new (w1.drewN nq) 165 [.pointer (some ⟨b, 0, none⟩)]).cell (j := 0) rfl
           case qb => have := HIN.out; omega
           case qd => have := HSZ.out; simp; omega
           intro v2 w2 hO2 hg2 ha2
           obtain ⟨a2, cc2, hv2⟩ := hO2.shape
           subst hv2
           have HB4 := hid (HB3.out.push (P := fun y => wr.heap.size ≤ y ∧ y < w1.heap.size) HL3.out (fun y hy => ⟨(HPP.out y hy).1, by have := (HPP.out y hy).2.1; simp; omega, (HPP.out y hy).2.2⟩) HRI.out.1 (by rw [HKL.out]; exact hO2) hg2 (by simpa using ha2))
           have K2 := HB3.out.br.to (only_of_grown (R := fun y => w.heap.size + 2 ≤ y) hg2 (fun y e => (World.ownsRow.lt HB3.out.row y e).1)) (by omega)
           have c2 := K2.cell (j := 1) rfl
           have f2 := K2.free 1
           have HRD3 : Hid (rdIL (rdI ns f) x.keys (ts ++ [t]) (x.kids.drop (ts ++ [t]).length) n1 = rdIL (rdI ns f) x.keys [] x.kids nx) := by
            show _ = _
            rw [List.length_append, HKL.out]
            exact HRD2.out
           have HTL2 : Hid ((ts ++ [t]).length = k' + 1 + 1) := by show _ = _; rw [List.length_append, HKL.out]; rfl
           clear K2 hO2 hg2 ha2 HB3 HL3 HOK2 HRD2
           go_wp2
           go_roundw
           case rel => exact ⟨ts ++ [t], n1, _, _, _, by rw [HTL2.out]; go_num, by show _ ≤ _; rw [HTL2.out]; omega, HB4.out, ⟨by have := HNB.out.1; have := HRI.out.2.2; omega, HRI.out.2.1⟩, HRD3.out⟩
           case measure => simp [intOf]; omega
          ·have HR : Hid (brT ns f x nx = none) := by
            show _ = _
            rw [brT, if_pos HOK.out, HRD1.out, if_pos]
            exact ⟨by rw [HKL.out]; omega, .inr (by have := HDD.out; omega)⟩
           rw [hle] at CL
           have hdd : ((t.dpt : Int) != ((tAt ts 0).dpt : Int)) = true := by simp; omega
           clear HRD1 hle hd HDD
           generalize sAt x.keys k' = ky at *
           generalize (tAt ts 0).dpt = dd at *
           generalize t.dpt = dt at *
           have c1 := HB1.out.br.cell (j := 1) rfl
           have HO1 := hid HB1.out.only
           go_wp2_with fail
           go_quiet (first | (go_at_call 184; exact Calls.quiet_of (CL _)) | (go_at_call_of 185 (Value.pointer (some ⟨A 0, 0, none⟩)); exact Calls.quiet_of (CD0 _)) | (go_at_call_of 185 (Value.pointer (some ⟨b, 0, none⟩)); exact Calls.quiet_of (CD _)) | fail)
           go_wp2
           go_ret
           exact ⟨by rw [HR.out]; rfl, HO1.out.trans (only_drew _ _ _)⟩
         ·have HR : Hid (brT ns f x nx = none) := by
           show _ = _
           rw [brT, if_pos HOK.out, HRD1.out, if_pos]
           exact ⟨by rw [HKL.out]; omega, .inl (by rw [HKL.out]; exact hle)⟩
          have hbe := str_beq hle
          clear HRD1 hle HDD CD CD0
          generalize sAt x.keys k' = ky at *
          generalize t.least = tl at *
          have c1 := HB1.out.br.cell (j := 1) rfl
          have HO1 := hid HB1.out.only
          go_wp2_with fail
          go_quiet (first | (go_at_call 184; exact Calls.quiet_of (CL _)) | fail)
          go_wp2
          go_ret
          exact ⟨by rw [HR.out]; rfl, HO1.out.trans (only_drew _ _ _)⟩
      ·have hk' : k = ni := by have := HTL.out; omega
       have HR : Hid (brT ns f x nx = some (.mk [] ts, nx')) := by
        show _ = _
        have h1 := HRD.out
        rw [hk', li.out, List.drop_length, rdIL] at h1
        rw [brT, if_pos HOK.out, ← h1]
       have HFIN := hid HBI.out.limb
       have HO1 := hid HBI.out.only
       have HWK := hid HBI.out.walk
       clear hk' HBI
       go_wp2
       go_ret
       exact ⟨by rw [HR.out]; exact ⟨_, rfl, HFIN.out, HWK.out⟩, HO1.out⟩
    ·have HR : Hid (brT ns f x nx = none) := by show _ = _; rw [brT, if_neg]; rw [LB.out]; simp [a4]
     have e4 : ((np : Int) != 0) = true := by simp; omega
     clear LB a3 a4
     go_enter Tryz.func171, Tryz.ntmps171
     go_wp2
     go_ret
     exact ⟨by rw [HR.out]; rfl, only_of_below HB0.out _⟩
   ·have HR : Hid (brT ns f x nx = none) := by show _ = _; rw [brT, if_neg]; rw [LB.out]; simp [a3]
    have e3 : ((nk : Int) != (ni : Int) - 1) = true := by simp [a3]
    clear LB a3
    go_enter Tryz.func171, Tryz.ntmps171
    go_wp2
    go_ret
    exact ⟨by rw [HR.out]; rfl, only_of_below HB0.out _⟩
open Go.RowKit
theorem ReadPost.mono {o : Option (T × Nat)} {w u : World} {wb : Nat} {nv : Value} {e : Ending} {w' : World} (h : ReadPost o u wb nv e w') (hs : w.heap.size ≤ u.heap.size) : ReadPost o w wb nv e w' := by
 cases o with
 | none => exact h
 | some tn =>
  obtain ⟨t, n⟩ := tn
  obtain ⟨b, h1, h2, h3⟩ := h
  exact ⟨b, h1, h2.mono (fun y hy => ⟨Nat.le_trans hs hy.1, hy.2⟩), h3⟩
theorem LimbOr.ret {o : Option T} {w : World} {e : Ending} {w' : World} (h : LimbOr o w e w') : ∃ p, e = .returned (.pointer p) := by
 cases o with
 | none => exact ⟨none, h⟩
 | some t => obtain ⟨b, h1, _⟩ := h; exact ⟨_, h1⟩
theorem ReadPost.ret {o : Option (T × Nat)} {w : World} {wb : Nat} {nv : Value} {e : Ending} {w' : World} (h : ReadPost o w wb nv e w') : ∃ p, e = .returned (.pointer p) := by
 cases o with
 | none => exact ⟨none, h⟩
 | some tn => obtain ⟨t, n⟩ := tn; obtain ⟨b, h1, _⟩ := h; exact ⟨_, h1⟩
theorem rdI_no {ns : List NB} {f : Nat} {pl : Int} {nx : Nat} (h : pl ≠ (nx : Int) ∨ (ns.length : Int) ≤ pl) : rdI ns f pl nx = none := by
 cases f with
 | zero => rfl
 | succ f => rw [rdI, if_pos h]
theorem rdI_leaf {ns : List NB} {f nx : Nat} (h : nx < ns.length) (hk : (nAt ns nx).kids.length = 0) : rdI ns (f + 1) nx nx = (leafT (nAt ns nx) (decide ((nx : Int) = 0))).map (fun t => (t, nx + 1)) := by
 rw [rdI, if_neg (by omega), if_pos hk, leafT]
 split <;> rfl
theorem rdI_br {ns : List NB} {f nx : Nat} (h : nx < ns.length) (hk : (nAt ns nx).kids.length ≠ 0) : rdI ns (f + 1) nx nx = brT ns f (nAt ns nx) (nx + 1) := by
 rw [rdI, if_neg (by omega), if_neg hk]
 rfl
theorem read_post_leaf {w u w' : World} {x : NB} {r : Bool} {wb nx : Nat} {nv : Value} {e : Ending} (h : LimbOr (leafT x r) u e w') (hs : w.heap.size ≤ u.heap.size) (hb : Bk w' wb 197 [nv, .int .i64 (nx + 1 : Nat)]) :
  ReadPost ((leafT x r).map (fun t => (t, nx + 1))) w wb nv e w' := by
 cases ho : leafT x r with
 | none => rw [ho] at h; exact h
 | some t =>
  rw [ho] at h
  obtain ⟨b, h1, h2⟩ := h
  exact ⟨b, h1, h2.mono (fun y hy => ⟨Nat.le_trans hs hy.1, hy.2⟩), hb⟩
set_option maxHeartbeats 8000000 in
theorem read_any (ns : List NB) : ∀ f, ReadC ns f := by
 intro f
 induction f with
 | zero =>
  intro S wb an nn cn pl nx w hW hN hwb hlen hnx hf
  have HR : Hid (rdI ns 0 pl nx = none) := rfl
  have hnn := hN.len.1
  have c0 := hW.cell (j := 0) rfl
  have c1 := hW.cell (j := 1) rfl
  by_cases hp : pl = (nx : Int)
  ·have e1 : (pl != (nx : Int)) = false := by simp [hp]
   have e2 : (nn : Int) ≤ pl := by omega
   clear hW hN hnn hp
   go_enter Tryz.func151, Tryz.ntmps151
   go_wp2
   go_ret
   exact ⟨by rw [HR.out]; rfl, Only.refl _ _⟩
  ·have e1 : (pl != (nx : Int)) = true := by simp [hp]
   clear hW hN hnn hp
   go_enter Tryz.func151, Tryz.ntmps151
   go_wp2
   go_ret
   exact ⟨by rw [HR.out]; rfl, Only.refl _ _⟩
 | succ f ih =>
  intro S wb an nn cn pl nx w hW hN hwb hlen hnx hf
  have hnn := hid hN.len.1
  have c0 := hW.cell (j := 0) rfl
  have c1 := hW.cell (j := 1) rfl
  by_cases hp : pl = (nx : Int)
  ·subst hp
   have e1 : ((nx : Int) != (nx : Int)) = false := by simp
   by_cases hl : nn ≤ nx
   ·have HR : Hid (rdI ns (f + 1) nx nx = none) := rdI_no (.inr (by rw [← hnn.out]; omega))
    have e2 : (nn : Int) ≤ (nx : Int) := by omega
    clear hW hN hl
    go_enter Tryz.func151, Tryz.ntmps151
    go_wp2
    go_ret
    exact ⟨by rw [HR.out]; rfl, Only.refl _ _⟩
   ·have e2 : ¬ (nn : Int) ≤ (nx : Int) := by omega
    have HL : Hid (nx < ns.length) := by show _ < _; rw [← hnn.out]; omega
    have HIH := hid ih
    have HW := hid hW
    have HN := hid hN
    have HWB := hid hwb
    have HLEN := hid hlen
    have HF := hid hf
    have hlt' : (nx : Int) < (nn : Int) := by omega
    have hnx3 : nx < 400 := by have := HL.out; omega
    clear ih hN hwb hf hlen hnx
    obtain ⟨b, off, han, hSb, hbw, hcell⟩ := HN.out.at (by omega)
    subst han
    obtain ⟨ap, np, cp, ax, nk, cx, ai, ni, ci, d0, d1, d2, hp, hx, hi⟩ := hcell nx (by omega)
    have li := hid (Rw.len hi).1
    have HP := hid hp
    have HX := hid hx
    have HI := hid hi
    have hbne : b ≠ wb := by rintro rfl; exact HWB.out hSb
    have f1 := hW.free 1
    have b5 := (Rw.len hi).2.1
    have b6 := (Rw.len hi).2.2
    clear hcell hp hx hi hSb
    have HO1 : Hid (Only (fun b => b = wb) w ((w.setCell ⟨wb, 1, none⟩ (.int .i64 ((nx : Int) + 1))).alloc (.cells #[.slice ap np cp, .slice ax nk cx, .slice ai ni ci] 85))) := (only_set (R := fun b => b = wb) rfl _).trans (only_alloc _ _ _)
    have HWK : Hid (Bk ((w.setCell ⟨wb, 1, none⟩ (.int .i64 ((nx : Int) + 1))).alloc (.cells #[.slice ap np cp, .slice ax nk cx, .slice ai ni ci] 85)) wb 197 [.slice (some ⟨b, off, none⟩) nn cn, .int .i64 ((nx + 1 : Nat) : Int)]) := by
     show Bk _ _ _ _
     exact (HW.out.set 1 (.int .i64 ((nx : Int) + 1))).alloc _
    have HN1 := hid (HN.out.to HO1.out (fun y hy _ e => HWB.out (e ▸ hy)))
    have HP1 := hid (HP.out.to HO1.out (fun y hy _ e => HWB.out (e ▸ hy)))
    have HX1 := hid (HX.out.to HO1.out (fun y hy _ e => HWB.out (e ▸ hy)))
    have HI1 := hid (HI.out.to HO1.out (fun y hy _ e => HWB.out (e ▸ hy)))
    go_enter Tryz.func151, Tryz.ntmps151
    by_cases hk : ni = 0
    ·have HR : Hid (rdI ns (f + 1) nx nx = (leafT (nAt ns nx) (decide ((nx : Int) = 0))).map (fun t => (t, nx + 1))) := rdI_leaf HL.out (by rw [← li.out]; exact hk)
     have HD : Hid (∀ r : Bool, r = decide ((nx : Int) = 0) → leafT (nAt ns nx) r = leafT (nAt ns nx) (decide ((nx : Int) = 0))) := by rintro _ rfl; rfl
     clear li
     subst hk
     go_wp2_with fail
     refine (readLeaf_any S ap ax ai np cp nk cx 0 ci (nAt ns nx) _ _ HP1.out HX1.out).mono ?_
     rintro e w2 ⟨hpost, hb2⟩
     obtain ⟨p, he⟩ := hpost.ret
     subst he
     have HPOST : Hid (ReadPost ((leafT (nAt ns nx) (decide ((nx : Int) = 0))).map (fun t => (t, nx + 1))) w wb (.slice (some ⟨b, off, none⟩) nn cn) (.returned (.pointer p)) w2) := by
      refine read_post_leaf (w := w) ?_ HO1.out.size (HWK.out.below hb2)
      rw [HD.out _ ?_] at hpost
      ·exact hpost
      ·by_cases h0 : nx = 0
       ·subst h0; rfl
       ·simp [h0]
     have HO2 := hid (HO1.out.trans (only_of_below hb2 _))
     clear hpost hb2 HD
     go_wp2
     go_ret
     exact ⟨by rw [HR.out]; exact HPOST.out, HO2.out⟩
    ·have HR : Hid (rdI ns (f + 1) nx nx = brT ns f (nAt ns nx) (nx + 1)) := rdI_br HL.out (by rw [← li.out]; exact hk)
     have hk' : ((ni : Int) == 0) = false := by simp; omega
     clear hk
     go_wp2_with fail
     refine (readBranch_any ns f HIH.out S wb (some ⟨b, off, none⟩) nn cn ap ax ai np cp nk cx ni ci (nAt ns nx) (nx + 1) _ HWK.out HN1.out HWB.out HLEN.out HL.out (by have := HF.out; omega) HP1.out HX1.out HI1.out).mono ?_
     rintro e w2 ⟨hpost, ho2⟩
     obtain ⟨p, he⟩ := hpost.ret
     subst he
     have HPOST := hid (hpost.mono (w := w) HO1.out.size)
     have HO2 := hid (HO1.out.trans ho2)
     clear hpost ho2
     go_wp2
     go_ret
     exact ⟨by rw [HR.out]; exact HPOST.out, HO2.out⟩
  ·have e1 : (pl != (nx : Int)) = true := by simp [hp]
   have HR : Hid (rdI ns (f + 1) pl nx = none) := rdI_no (.inl hp)
   clear hW hN hp
   go_enter Tryz.func151, Tryz.ntmps151
   go_wp2
   go_ret
   exact ⟨by rw [HR.out]; rfl, Only.refl _ _⟩
open Go.RowKit
mutual
theorem full_all_le : ∀ (t : T) (r : Bool), t.full r = true → t.all.length ≤ 4 * t.size
 | .mk ps ks, r, h => by
  by_cases hk : ks = []
  ·subst hk
   have := full_lf h
   simp [T.size, szL, T.all, allL]
   omega
  ·obtain ⟨h1, h2, rfl, h3⟩ := full_br h hk
   have := fullL_all_le ks h3
   simp [T.size, T.all]
   omega
theorem fullL_all_le : ∀ (ks : List T), (∀ k ∈ ks, k.full false = true) → (allL ks).length ≤ 4 * szL ks
 | [], _ => by simp [szL, allL]
 | k :: ks, h => by
  have h1 := full_all_le k false (h k (by simp))
  have h2 := fullL_all_le ks (fun x hx => h x (by simp [hx]))
  simp [szL, allL]
  omega
end
set_option maxHeartbeats 8000000 in
theorem rootOf_any (S : Nat → Prop) (an : Option Addr) (nn cn : Nat) (ns : List NB) (w : World) (hN : Nr w S (.slice an nn cn) ns) :
  Calls Tryz.prog 119 #[.agg #[.slice an nn cn]] w fun e w' => LimbOr (okT ns) w e w' ∧ Below w.heap.size w w' := by
 have hnn := hid hN.len.1
 have h1 := hN.len.2.1
 have h2 := hN.len.2.2
 have HN : Hid (Nr w (fun y => y < w.heap.size) (.slice an nn cn) ns) := hN.mono (fun b _ h => h)
 clear hN
 have HB0 := hid (below_new (o := .cells #[.slice an nn cn] 33) (w := w) (Below.refl _ _))
 by_cases a1 : nn = 0
 ·have HR : Hid (okT ns = some (.mk [] [])) := by show _ = _; rw [okT, if_pos]; rw [← hnn.out]; exact a1
  have HL : Hid (Limb ((w.alloc (.cells #[.slice an nn cn] 33)).alloc (.cells #[.slice none 0 0, .slice none 0 0] 195)) (fun y => w.heap.size ≤ y ∧ y < ((w.alloc (.cells #[.slice an nn cn] 33)).alloc (.cells #[.slice none 0 0, .slice none 0 0] 195)).heap.size) (w.heap.size + 1) (.mk [] [])) := by
   have hk := Bk.new (w.alloc (.cells #[.slice an nn cn] 33)) 195 [.slice none 0 0, .slice none 0 0]
   refine limb_leaf (lo := w.heap.size) (by simpa using hk) (by omega) (ow_nil _ _) (by simp [Value.ownBlock]) _ (fun y h1 h2 => ⟨h1, h2⟩)
  clear hnn HN
  subst a1
  go_enter Tryz.func119, Tryz.ntmps119
  go_wp2
  go_ret
  refine ⟨?_, below_new (below_new (Below.refl _ _))⟩
  rw [HR.out]
  exact ⟨_, rfl, HL.out⟩
 ·have e1 : ((nn : Int) == 0) = false := by simp; omega
  by_cases a2 : 400 ≤ nn
  ·have e2 : (400 : Int) ≤ (nn : Int) := by omega
   have HR : Hid (okT ns = none) := by show _ = _; rw [okT, if_neg, if_pos] <;> rw [← hnn.out] <;> omega
   clear a1 a2
   go_enter Tryz.func119, Tryz.ntmps119
   go_wp2
   go_ret
   refine ⟨?_, HB0.out⟩
   rw [HR.out]
   rfl
  ·have e2 : ¬ (400 : Int) ≤ (nn : Int) := by omega
   have HLEN : Hid (ns.length < 400) := by show _ < _; rw [← hnn.out]; omega
   have HB1 : Hid (Below w.heap.size w ((w.alloc (.cells #[.slice an nn cn] 33)).alloc (.cells #[.slice an nn cn, .int .i64 0] 197))) := below_new (below_new (Below.refl _ _))
   have KW : Hid (Bk ((w.alloc (.cells #[.slice an nn cn] 33)).alloc (.cells #[.slice an nn cn, .int .i64 0] 197)) (w.heap.size + 1) 197 [.slice an nn cn, .int .i64 (0 : Nat)]) := by
    have hk := Bk.new (w.alloc (.cells #[.slice an nn cn] 33)) 197 [.slice an nn cn, .int .i64 0]
    show Bk _ _ _ _
    simpa using hk
   have KT : Hid (Bk ((w.alloc (.cells #[.slice an nn cn] 33)).alloc (.cells #[.slice an nn cn, .int .i64 0] 197)) w.heap.size 33 [.slice an nn cn]) := (Bk.new w 33 [.slice an nn cn]).alloc _
   have HZ : Hid (((w.alloc (.cells #[.slice an nn cn] 33)).alloc (.cells #[.slice an nn cn, .int .i64 0] 197)).heap.size = w.heap.size + 2) := by show _ = _; simp
   clear a2
   go_enter Tryz.func119, Tryz.ntmps119
   go_wp2_with fail
   refine (read_any ns ns.length (fun y => y < w.heap.size) (w.heap.size + 1) an nn cn 0 0 _ KW.out (HN.out.below HB1.out) (by omega) HLEN.out (Nat.zero_le _) (by omega)).mono ?_
   generalize (w.alloc (.cells #[.slice an nn cn] 33)).alloc (.cells #[.slice an nn cn, .int .i64 0] 197) = W at *
   rintro e w1 ⟨hpost, ho1⟩
   cases hr : rdI ns ns.length 0 0 with
   | none =>
    rw [hr] at hpost
    have he : e = .returned (.pointer none) := hpost
    subst he
    have HR : Hid (okT ns = none) := by
     show _ = _
     rw [okT, if_neg (by rw [← hnn.out]; exact a1), if_neg (by have := HLEN.out; omega), hr]
    have KT1 := hid (KT.out.to ho1 (by omega))
    have HB2 : Hid (Below w.heap.size w w1) := HB1.out.trans (ho1.below (by have := HZ.out; omega) (fun b hb e => by omega))
    clear hpost ho1
    go_wp2
    go_ret
    exact ⟨by rw [HR.out]; rfl, HB2.out⟩
   | some tn =>
    obtain ⟨t, n1⟩ := tn
    rw [hr] at hpost
    obtain ⟨b, he, hL, hW⟩ := hpost
    subst he
    have KT1 := hid (KT.out.to ho1 (by omega))
    have HB2 : Hid (Below w.heap.size w w1) := HB1.out.trans (ho1.below (by have := HZ.out; omega) (fun b hb e => by omega))
    have HL := hid hL
    have KW1 := hid hW
    have HRI := hid (rdI_rdy hr (by have := HLEN.out; omega))
    have HAL : Hid (t.all.length ≤ 1048576) := by
     show _ ≤ _
     obtain ⟨_, _, g3, _, g5, rfl⟩ := rdI_sound ns _ _ _ _ _ hr
     have g6 := full_all_le t _ g3
     have g7 := HRI.out.2.1
     have := HLEN.out
     omega
    have HOT : Hid (okT ns = if n1 = ns.length ∧ pOk t.all = true then some t else none) := by
     show _ = _
     rw [okT, if_neg (by rw [← hnn.out]; exact a1), if_neg (by have := HLEN.out; omega), hr]
    have c0 := KT1.out.cell (j := 0) rfl
    have c1 := KW1.out.cell (j := 1) rfl
    clear hL hW ho1 hr
    by_cases hn1 : n1 = nn
    ·have e3 : ((n1 : Int) != (nn : Int)) = false := by simp [hn1]
     have HN1 := hid hn1
     clear hn1
     go_wp2_with fail
     refine (all_any t (fun y => W.heap.size ≤ y ∧ y < w1.heap.size) b w1 w1.heap.size (.slice none 0 0) [] HL.out (fun y hy => hy.2) (Nat.le_refl _) (ow_nil _ _) (by have := HAL.out; simp; omega)).mono ?_
     rintro e w2 ⟨v2, rfl, hO2, hb2⟩
     rw [List.nil_append] at hO2
     have HO2 := hid hO2
     have HB3 : Hid (Below w.heap.size w w2) := HB2.out.trans (hb2.mono HB2.out.size)
     have HL2 := hid (HL.out.kept hb2)
     have HSZ2 := hid hb2.size
     obtain ⟨a2, n2, cc2, hv2, HN2⟩ := hO2.shape'
     subst hv2
     clear hO2 hb2
     go_wp2_with fail
     refine (implPairsOk_any (fun _ => True) _ t.all w2 (HO2.out.pr (fun _ _ _ _ => trivial))).mono ?_
     rintro e w3 ⟨rfl, hb3⟩
     have HB4 : Hid (Below w.heap.size w w3) := HB3.out.trans (hb3.mono HB3.out.size)
     have HL3 : Hid (Limb w3 (fun y => w.heap.size ≤ y ∧ y < w3.heap.size) b t) := by
      refine (HL2.out.kept hb3).mono (fun y hy => ⟨?_, ?_⟩)
      ·have := HZ.out; have := hy.1; omega
      ·have := HSZ2.out; have := hb3.size; have := hy.2; omega
     clear hb3
     cases hpk : pOk t.all
     ·have HR : Hid (okT ns = none) := by show _ = _; rw [HOT.out, if_neg]; rw [hpk]; simp
      clear HOT hpk
      go_wp2
      go_ret
      exact ⟨by rw [HR.out]; rfl, HB4.out⟩
     ·have HR : Hid (okT ns = some t) := by show _ = _; rw [HOT.out, if_pos]; exact ⟨by rw [HN1.out, hnn.out], hpk⟩
      clear HOT hpk
      go_wp2
      go_ret
      exact ⟨by rw [HR.out]; exact ⟨_, rfl, HL3.out⟩, HB4.out⟩
    ·have e3 : ((n1 : Int) != (nn : Int)) = true := by simp; omega
     have HR : Hid (okT ns = none) := by show _ = _; rw [HOT.out, if_neg]; rintro ⟨h, _⟩; exact hn1 (by rw [h, hnn.out])
     clear hn1 HOT
     go_wp2
     go_ret
     exact ⟨by rw [HR.out]; rfl, HB2.out⟩
open Go.RowKit
set_option maxHeartbeats 2000000 in
theorem implTreeOk_any (S : Nat → Prop) (an : Option Addr) (nn cn : Nat) (ns : List NB) (w : World) (hN : Nr w S (.slice an nn cn) ns) :
  Calls Tryz.prog 77 #[.agg #[.slice an nn cn]] w fun e w' => e = .returned (.bool (okT ns).isSome) ∧ Below w.heap.size w w' := by
 have HN := hid hN
 have h1 := hN.len.2.1
 have h2 := hN.len.2.2
 clear hN
 have HB0 := hid (below_new (o := .cells #[.slice an nn cn] 33) (w := w) (Below.refl _ _))
 go_enter Tryz.func77, Tryz.ntmps77
 go_wp2_with fail
 refine (rootOf_any S an nn cn ns _ (HN.out.below HB0.out)).mono ?_
 generalize w.alloc (.cells #[.slice an nn cn] 33) = U at *
 rintro e w1 ⟨hpost, hb1⟩
 have HB1 : Hid (Below w.heap.size w w1) := HB0.out.trans (hb1.mono HB0.out.size)
 clear hb1
 cases hr : okT ns with
 | none =>
  rw [hr] at hpost
  have he : e = .returned (.pointer none) := hpost
  subst he
  have HR := hid hr
  clear hpost hr
  go_wp2
  go_ret
  exact ⟨by rw [HR.out]; rfl, HB1.out⟩
 | some t =>
  rw [hr] at hpost
  obtain ⟨b, he, hL⟩ := hpost
  subst he
  have HR := hid hr
  clear hL hr
  go_wp2
  go_ret
  exact ⟨by rw [HR.out]; rfl, HB1.out⟩
open Go.RowKit
set_option maxHeartbeats 8000000 in
theorem specRead_any (ns : List NB) (hlen : ns.length ≤ 1048576) (hsm : smallN ns) : ∀ f : Nat, f ≤ 13 → ∀ (S : Nat → Prop) (an : Option Addr) (nn cn : Nat) (a d : Int) (w : World), Nr w S (.slice an nn cn) ns → d = 13 - (f : Int) →
  Calls Tryz.prog 107 #[.agg #[.slice an nn cn], .int .i64 a, .int .i64 d] w fun e w' => SubPost (rdS ns f a) w e w' ∧ Below w.heap.size w w' := by
 intro f
 induction f with
 | zero =>
  intro _ S an nn cn a d w hN hd
  have hd' : d = 13 := by omega
  have HR : Hid (rdS ns 0 a = none) := rfl
  clear hN hd
  subst hd'
  by_cases h1 : a < 0
  ·go_enter Tryz.func107, Tryz.ntmps107
   go_wp2
   try simp only [Exit.inBlock, Exit.then]
   refine bodyPost_ret (v := .tuple #[.agg #[.bool false, .slice none 0 0, .slice none 0 0], .int .i64 0, .bool false]) ?_ rfl ?_
   ·refine results_sub3 rfl _ _ _ rfl rfl rfl ?_ ?_ ?_
    ·go_simp
    ·go_simp
    ·go_simp
   ·exact ⟨by rw [HR.out]; rfl, below_new (below_new (Below.refl _ _))⟩
  ·by_cases h2 : (nn : Int) ≤ a
   ·go_enter Tryz.func107, Tryz.ntmps107
    go_wp2
    try simp only [Exit.inBlock, Exit.then]
    refine bodyPost_ret (v := .tuple #[.agg #[.bool false, .slice none 0 0, .slice none 0 0], .int .i64 0, .bool false]) ?_ rfl ?_
    ·refine results_sub3 rfl _ _ _ rfl rfl rfl ?_ ?_ ?_
     ·go_simp
     ·go_simp
     ·go_simp
    ·exact ⟨by rw [HR.out]; rfl, below_new (below_new (Below.refl _ _))⟩
   ·go_enter Tryz.func107, Tryz.ntmps107
    go_wp2
    try simp only [Exit.inBlock, Exit.then]
    refine bodyPost_ret (v := .tuple #[.agg #[.bool false, .slice none 0 0, .slice none 0 0], .int .i64 0, .bool false]) ?_ rfl ?_
    ·refine results_sub3 rfl _ _ _ rfl rfl rfl ?_ ?_ ?_
     ·go_simp
     ·go_simp
     ·go_simp
    ·exact ⟨by rw [HR.out]; rfl, below_new (below_new (Below.refl _ _))⟩
 | succ f ih =>
  intro hf13 S an nn cn a d w hN hd
  have hnn := hid hN.len.1
  have hnn2 := hN.len.2.1
  have hnn3 := hN.len.2.2
  by_cases h1 : a < 0
  ·have HR : Hid (rdS ns (f + 1) a = none) := by show _ = _; rw [rdS, if_pos (.inl h1)]
   clear hN hd
   go_enter Tryz.func107, Tryz.ntmps107
   go_wp2
   try simp only [Exit.inBlock, Exit.then]
   refine bodyPost_ret (v := .tuple #[.agg #[.bool false, .slice none 0 0, .slice none 0 0], .int .i64 0, .bool false]) ?_ rfl ?_
   ·refine results_sub3 rfl _ _ _ rfl rfl rfl ?_ ?_ ?_
    ·go_simp
    ·go_simp
    ·go_simp
   ·exact ⟨by rw [HR.out]; rfl, below_new (below_new (Below.refl _ _))⟩
  ·by_cases h2 : (nn : Int) ≤ a
   ·have HR : Hid (rdS ns (f + 1) a = none) := by show _ = _; rw [rdS, if_pos (.inr (by rw [← hnn.out]; exact h2))]
    clear hN hd
    go_enter Tryz.func107, Tryz.ntmps107
    go_wp2
    try simp only [Exit.inBlock, Exit.then]
    refine bodyPost_ret (v := .tuple #[.agg #[.bool false, .slice none 0 0, .slice none 0 0], .int .i64 0, .bool false]) ?_ rfl ?_
    ·refine results_sub3 rfl _ _ _ rfl rfl rfl ?_ ?_ ?_
     ·go_simp
     ·go_simp
     ·go_simp
    ·exact ⟨by rw [HR.out]; rfl, below_new (below_new (Below.refl _ _))⟩
   ·obtain ⟨p, hp⟩ : ∃ p : Nat, a = p := ⟨a.toNat, by omega⟩
    subst hp
    have hd12 : d ≤ 12 := by omega
    have hd0 : 0 ≤ d := by omega
    have HD := hid hd
    have hpn : p < nn := by omega
    have hpn' : (p : Int) < (nn : Int) := by omega
    have HN := hid hN
    have HIH := hid ih
    have hlen2 : nn ≤ 1048576 := by rw [hnn.out]; exact hlen
    clear hN hd ih
    obtain ⟨b, off, han, hSb, hbw, hcell⟩ := HN.out.at (by omega)
    subst han
    obtain ⟨ap, np, cp, ax, nk, cx, ai, ni, ci, d0, d1, d2, hp, hx, hi⟩ := hcell p hpn
    have lp := hid (Rw.len hp).1
    have li := hid (Rw.len hi).1
    have HP := hid hp
    have HI := hid hi
    have b5 := (Rw.len hi).2.1
    have b6 := (Rw.len hi).2.2
    obtain ⟨s1, _, _⟩ := hsm p (by rw [← hnn.out]; exact hpn)
    have hnp : np ≤ 1048576 := by rw [lp.out]; exact s1
    have hni : ni ≤ 1048576 := by rw [li.out]; exact (hsm p (by rw [← hnn.out]; exact hpn)).2.2
    have HR0 : Hid (rdS ns (f + 1) (p : Int) = match rdSL (rdS ns f) (nAt ns p).kids (p + 1) with
      | none => none
      | some (ts, n) => some (.mk (nAt ns p).ps ts, n)) := by
     show _ = _
     rw [rdS, if_neg (by rw [← hnn.out]; omega)]
     rfl
    clear hcell hp hx hi s1
    generalize hX : nAt ns p = x at *
    clear hX
    have HBU : Hid (Below w.heap.size w (((w.alloc (.cells #[.slice (some ⟨b, off, none⟩) nn cn] 33)).alloc (.cells #[.bool false, .slice none 0 0, .slice none 0 0] 115)).alloc (.cells #[.slice ap np cp, .slice ax nk cx, .slice ai ni ci] 85))) := below_new (below_new (below_new (Below.refl _ _)))
    have KT : Hid (Bk (((w.alloc (.cells #[.slice (some ⟨b, off, none⟩) nn cn] 33)).alloc (.cells #[.bool false, .slice none 0 0, .slice none 0 0] 115)).alloc (.cells #[.slice ap np cp, .slice ax nk cx, .slice ai ni ci] 85)) w.heap.size 33 [.slice (some ⟨b, off, none⟩) nn cn]) := ((Bk.new w 33 [.slice (some ⟨b, off, none⟩) nn cn]).alloc _).alloc _
    have KR : Hid (Bk (((w.alloc (.cells #[.slice (some ⟨b, off, none⟩) nn cn] 33)).alloc (.cells #[.bool false, .slice none 0 0, .slice none 0 0] 115)).alloc (.cells #[.slice ap np cp, .slice ax nk cx, .slice ai ni ci] 85)) (w.heap.size + 1) 115 [.bool false, .slice none 0 0, .slice none 0 0]) := by
     have := (Bk.new (w.alloc (.cells #[.slice (some ⟨b, off, none⟩) nn cn] 33)) 115 [.bool false, .slice none 0 0, .slice none 0 0]).alloc (.cells #[.slice ap np cp, .slice ax nk cx, .slice ai ni ci] 85)
     show Bk _ _ _ _
     simpa using this
    have KN : Hid (Bk (((w.alloc (.cells #[.slice (some ⟨b, off, none⟩) nn cn] 33)).alloc (.cells #[.bool false, .slice none 0 0, .slice none 0 0] 115)).alloc (.cells #[.slice ap np cp, .slice ax nk cx, .slice ai ni ci] 85)) (w.heap.size + 1 + 1) 85 [.slice ap np cp, .slice ax nk cx, .slice ai ni ci]) := by
     have := Bk.new ((w.alloc (.cells #[.slice (some ⟨b, off, none⟩) nn cn] 33)).alloc (.cells #[.bool false, .slice none 0 0, .slice none 0 0] 115)) 85 [.slice ap np cp, .slice ax nk cx, .slice ai ni ci]
     show Bk _ _ _ _
     simpa using this
    have HZ : Hid ((((w.alloc (.cells #[.slice (some ⟨b, off, none⟩) nn cn] 33)).alloc (.cells #[.bool false, .slice none 0 0, .slice none 0 0] 115)).alloc (.cells #[.slice ap np cp, .slice ax nk cx, .slice ai ni ci] 85)).heap.size = w.heap.size + 3) := by show _ = _; simp
    go_enter Tryz.func107, Tryz.ntmps107
    have c0 := KN.out.cell (j := 0) rfl
    have c2 := KN.out.cell (j := 2) rfl
    have T0 := hid (kc0_2 c0 c2)
    have HXL : Hid (x.ps.length ≤ 1048576) := by show _ ≤ _; rw [← lp.out]; exact hnp
    have HSRC : Hid (∀ v, KC (((w.alloc (.cells #[.slice (some ⟨b, off, none⟩) nn cn] 33)).alloc (.cells #[.bool false, .slice none 0 0, .slice none 0 0] 115)).alloc (.cells #[.slice ap np cp, .slice ax nk cx, .slice ai ni ci] 85)) v [(⟨w.heap.size + 1 + 1, 0, none⟩, .slice ap np cp), (⟨w.heap.size + 1 + 1, 2, none⟩, .slice ai ni ci)] → Pr v S (.slice ap np cp) x.ps) := fun v hv => (HP.out.below HBU.out).below hv.bel
    have hlf : ((ni : Int) == 0) = decide (ni = 0) := by
     by_cases h : ni = 0
     ·subst h; rfl
     ·simp [h]
    generalize hLF : decide (ni = 0) = lf at *
    go_wp2_with fail
    generalize (((w.alloc (.cells #[.slice (some ⟨b, off, none⟩) nn cn] 33)).alloc (.cells #[.bool false, .slice none 0 0, .slice none 0 0] 115)).alloc (.cells #[.slice ap np cp, .slice ax nk cx, .slice ai ni ci] 85)) = U at *
    have k1 : (U.alloc (.cells #[] 112)).drew.heap[U.heap.size]? = some (.cells #[] 112 (0, 0)) := heap_alloc_new U _
    have k2 : ((U.alloc (.cells #[.bool false, .slice none 0 0, .slice none 0 0] 115)).alloc (.cells #[] 112)).drew.heap[U.heap.size + 1]? = some (.cells #[] 112 (0, 0)) := by
     have := heap_alloc_new (U.alloc (.cells #[.bool false, .slice none 0 0, .slice none 0 0] 115)) (.cells #[] 112)
     have e : (U.alloc (.cells #[.bool false, .slice none 0 0, .slice none 0 0] 115)).heap.size = U.heap.size + 1 := by simp
     rw [e] at this
     exact this
    have k3 : ((U.alloc (.cells #[] 112)).alloc (.cells #[.bool false, .slice none 0 0, .slice none 0 0] 115)).drew.heap[U.heap.size]? = some (.cells #[] 112 (0, 0)) := (Below.heap_alloc _ _ _ (by simp)).trans (heap_alloc_new U _)
    have k4 : Hid (((U.alloc (.cells #[] 112)).alloc (.cells #[.bool false, .slice none 0 0, .slice none 0 0] 115)).drew.heap[U.heap.size + 1]? = some (.cells #[.bool false, .slice none 0 0, .slice none 0 0] 115 (0, 0))) := by
     have := heap_alloc_new (U.alloc (.cells #[] 112)) (.cells #[.bool false, .slice none 0 0, .slice none 0 0] 115)
     have e : (U.alloc (.cells #[] 112)).heap.size = U.heap.size + 1 := by simp
     rw [e] at this
     exact this
    have k5 : Hid (((U.alloc (.cells #[.bool false, .slice none 0 0, .slice none 0 0] 115)).alloc (.cells #[] 112)).drew.heap[U.heap.size]? = some (.cells #[.bool false, .slice none 0 0, .slice none 0 0] 115 (0, 0))) := (Below.heap_alloc _ _ _ (by simp)).trans (heap_alloc_new U _)
    go_cut [10] (fun q v => ∃ (sb bs : Nat) (pv : Value), q = .pointer (some ⟨sb, 0, none⟩) ∧ Below U.heap.size U v ∧ U.heap.size ≤ sb ∧ sb < bs ∧ bs ≤ v.heap.size ∧ Bk v sb 115 [.bool lf, pv, .slice none 0 0] ∧ Pr v (fun y => U.heap.size ≤ y ∧ y < bs ∧ y ≠ sb) pv x.ps)
    case first =>
     go_region_held3 (fun v => v.cell? ⟨w.heap.size + 1 + 1, 0, none⟩ = some (.slice ap np cp) ∧ v.cell? ⟨w.heap.size + 1 + 1, 2, none⟩ = some (.slice ai ni ci) ∧ KC U v [(⟨w.heap.size + 1 + 1, 0, none⟩, .slice ap np cp), (⟨w.heap.size + 1 + 1, 2, none⟩, .slice ai ni ci)])
      (first | assumption | exact kc2 (T0.out.call (below_drew _)) | exact kc2c (below_new (Below.refl _ _)) (by assumption) | exact kc2g hg2 (by intro k e; cases e; simp) (by assumption) | exact kc2w (Nat.le_trans (by simp) hg2.size) (by assumption) | exact kc2s (by simp) (by assumption))
      (first
       | (refine step_clone rfl _ _ rfl U.heap.size _ rfl (by assumption) (by simp) S _ x.ps rfl (HSRC.out _ (And.right (And.right (by assumption)))) (Nat.le_trans HXL.out (by decide)) ?_; intro a2 n2 c2 w2 hO2 hg2 hat2 hc2 hf2))
     all_goals (go_wp2_with fail; go_meet; first
      | exact ⟨_, _, _, rfl, meet_new (W := (U.alloc (.cells #[] 112)).drew) ((below_new (Below.refl _ _)).drew) (by simp) hO2 hg2 (Nat.le_refl _)⟩
      | exact ⟨_, _, _, rfl, meet_set (W := ((U.alloc (.cells #[] 112)).alloc (.cells #[.bool false, .slice none 0 0, .slice none 0 0] 115)).drew) ((below_new (below_new (Below.refl _ _))).drew) (by simp; omega) hO2 hg2 (by simpa using hat2) k4.out (by omega) (by omega) (Nat.le_refl _)⟩
      | exact ⟨_, _, _, rfl, meet_set (W := ((U.alloc (.cells #[.bool false, .slice none 0 0, .slice none 0 0] 115)).alloc (.cells #[] 112)).drew) ((below_new (below_new (Below.refl _ _))).drew) (by simp; omega) hO2 hg2 (by simpa using hat2) k5.out (by omega) (Nat.le_refl _) (by omega)⟩)
    case rest =>
     rename_i q
     obtain ⟨sb, bs, pv, hq, hbel, hsb, hsb2, hbs, hBK, hPR⟩ := hcut
     subst hq
     obtain ⟨a3, c3, hpv, _⟩ := hPR.shape
     generalize hl3 : x.ps.length = n3 at hpv
     have HL3 := hid hl3
     clear hl3
     subst hpv
     have HZ' := HZ.out
     have HS0 : Hid (SpI w wc sb bs lf (.slice (some ⟨b, off, none⟩) nn cn) (.slice a3 n3 c3) x.ps [] (.slice none 0 0) (fun _ => false) (fun _ => .slice none 0 0) (fun _ => .slice none 0 0)) :=
      ⟨⟨by omega, hsb2⟩, hbs, KT.out.below hbel, KR.out.below hbel, hBK, Rw.mono hPR (fun y hy _ => ⟨by omega, hy.2⟩), World.ownsRow_nil _ _ _ _, fun i hi => by (simp at hi), HBU.out.trans (hbel.mono HBU.out.size)⟩
     have HNB := hid (KN.out.below hbel)
     have c2' := HNB.out.cell (j := 2) rfl
     clear hbel hsb hsb2 hbs hBK hPR c0 c2 T0 HSRC k1 k2 k3 k4 k5 KT KR KN HZ' hlf
     go_wp2_with fail
     go_loopw [11, 50] (fun y i wr => ∃ (ts : List T) (nx : Nat) (kv : Value) (L : Nat → Bool) (P K : Nat → Value), i = .int .i64 (ts.length : Int) ∧ y = .int .i64 (nx : Int) ∧ Hid (ts.length ≤ ni) ∧ Hid (SpI w wr sb bs lf (.slice (some ⟨b, off, none⟩) nn cn) (.slice a3 n3 c3) x.ps ts kv L P K) ∧ Hid (rdJ (rdS ns f) ts (x.kids.drop ts.length) nx = rdSL (rdS ns f) x.kids (p + 1))) (fun _ i _ => ni - (intOf i).toNat)
     case atStart => exact ⟨[], p + 1, _, _, _, _, rfl, by go_num, Nat.zero_le _, HS0.out, by show _ = _; rw [rdJ_nil]; rfl⟩
     case round =>
      obtain ⟨ts, nx, kv, L, P, K, rfl, rfl, HTL, HSP, HRD⟩ := hrel
      generalize hk : ts.length = k at *
      have HKL := hid hk
      clear hk
      have HBL := hid HSP.out.bel
      have r0 := HSP.out.res.cell (j := 0) rfl
      have r1 := HSP.out.res.cell (j := 1) rfl
      have r2 := HSP.out.res.cell (j := 2) rfl
      have q0 := HSP.out.res.free 0
      have q1 := HSP.out.res.free 1
      have q2 := HSP.out.res.free 2
      by_cases hlt : k < ni
      ·have hlt' : (k : Int) < (ni : Int) := by omega
       obtain ⟨bi, offi, hai, _, _, hci⟩ := (HI.out.below HBL.out).at (by omega)
       subst hai
       have hck := hci k hlt
       have HKD : Hid (x.kids.drop k = iAt x.kids k :: x.kids.drop (k + 1)) := by
        show _ = _
        have hl : k < x.kids.length := by rw [← li.out]; exact hlt
        rw [List.drop_eq_getElem_cons hl]
        simp [iAt, hl]
       clear hci
       generalize hkd : iAt x.kids k = kd at hck HKD
       clear hkd
       by_cases hne : kd = (nx : Int)
       ·have e1 : (kd != (nx : Int)) = false := by simp [hne]
        have HEQ := hid hne
        clear hne
        have t0 := HSP.out.tre.cell (j := 0) rfl
        have HNr := hid (HN.out.below HBL.out)
        have hw1 : IntKind.i64.wrap (d + 1) = d + 1 := by rw [IntKind.wrap_i64]; omega
        go_wp2_with fail
        refine (HIH.out (by omega) S (some ⟨b, off, none⟩) nn cn kd (d + 1) wr HNr.out (by have := HD.out; omega)).mono ?_
        rintro e w1 ⟨hpost, hb1⟩
        have HSP1 := hid (HSP.out.keep hb1)
        cases hr : rdS ns f kd with
        | none =>
         rw [hr] at hpost
         have he : e = .returned (.tuple #[.agg #[.bool false, .slice none 0 0, .slice none 0 0], .int .i64 0, .bool false]) := hpost
         subst he
         have HR : Hid (rdS ns (f + 1) (p : Int) = none) := by
          show _ = _
          have h1 := HRD.out
          rw [HKD.out, rdJ_no _ _ _ _ _ (.inr hr)] at h1
          rw [HR0.out, ← h1]
         have HSP2 := hid (HSP1.out.keep (below_new (o := .cells #[.bool false, .slice none 0 0, .slice none 0 0] 115) (Below.refl _ _)))
         clear hpost hb1 hr r0 r1 r2 q0 q1 q2 t0 HSP HSP1 HBL
         have HBL := hid HSP2.out.bel
         have r0 := HSP2.out.res.cell (j := 0) rfl
         have r1 := HSP2.out.res.cell (j := 1) rfl
         have r2 := HSP2.out.res.cell (j := 2) rfl
         have q0 := HSP2.out.res.free 0
         have q1 := HSP2.out.res.free 1
         have q2 := HSP2.out.res.free 2
         have HR' := HR
         go_wp2
         try simp only [Exit.inBlock, Exit.then]
         refine bodyPost_ret (v := .tuple #[.agg #[.bool false, .slice none 0 0, .slice none 0 0], .int .i64 0, .bool false]) ?_ rfl ?_
         ·refine results_sub3 rfl _ _ _ rfl rfl rfl ?_ ?_ ?_
          ·go_simp
          ·go_simp
          ·go_simp
         ·exact ⟨by rw [HR.out]; rfl, ((HBL.out.setCell (by show w.heap.size ≤ w.heap.size + 1; omega) _).setCell (by show w.heap.size ≤ w.heap.size + 1; omega) _).setCell (by show w.heap.size ≤ w.heap.size + 1; omega) _⟩
        | some tn =>
         obtain ⟨t, n1⟩ := tn
         rw [hr] at hpost
         obtain ⟨l1, ap1, np1, cp1, ak1, nk1, ck1, he, hsub⟩ := hpost
         subst he
         have HSP2 := hid (HSP1.out.keep (below_new (o := .cells #[.bool l1, .slice ap1 np1 cp1, .slice ak1 nk1 ck1] 115) (Below.refl _ _)))
         have HSP3 := hid (HSP2.out.keep (below_new (o := .cells #[.bool l1, .slice ap1 np1 cp1, .slice ak1 nk1 ck1] 115) (Below.refl _ _)))
         have HSB : Hid (Sub ((w1.alloc (.cells #[.bool l1, .slice ap1 np1 cp1, .slice ak1 nk1 ck1] 115)).alloc (.cells #[.bool l1, .slice ap1 np1 cp1, .slice ak1 nk1 ck1] 115)) (fun y => bs ≤ y ∧ y < ((w1.alloc (.cells #[.bool l1, .slice ap1 np1 cp1, .slice ak1 nk1 ck1] 115)).alloc (.cells #[.bool l1, .slice ap1 np1 cp1, .slice ak1 nk1 ck1] 115)).heap.size ∧ kv.ownBlock ≠ some y) l1 (.slice ap1 np1 cp1) (.slice ak1 nk1 ck1) t) := by
          refine ((hsub.kept (below_new (Below.refl _ _))).kept (below_new (Below.refl _ _))).mono (fun y hy hlt => ⟨?_, hlt, fun e => ?_⟩)
          ·have := HSP.out.hi; have := hy.1; omega
          ·have := (World.ownsRow.lt HSP.out.row y e).2; have := hy.1; omega
         have HBN : Hid (Bk ((w1.alloc (.cells #[.bool l1, .slice ap1 np1 cp1, .slice ak1 nk1 ck1] 115)).alloc (.cells #[.bool l1, .slice ap1 np1 cp1, .slice ak1 nk1 ck1] 115)) (w1.heap.size + 1) 115 [.bool l1, .slice ap1 np1 cp1, .slice ak1 nk1 ck1]) := by
          have := Bk.new (w1.alloc (.cells #[.bool l1, .slice ap1 np1 cp1, .slice ak1 nk1 ck1] 115)) 115 [.bool l1, .slice ap1 np1 cp1, .slice ak1 nk1 ck1]
          show Bk _ _ _ _
          simpa using this
         have HRD2 : Hid (rdJ (rdS ns f) (ts ++ [t]) (x.kids.drop (ts ++ [t]).length) n1 = rdSL (rdS ns f) x.kids (p + 1)) := by
          show _ = _
          rw [← HRD.out, HKD.out, rdJ_step _ _ _ _ _ _ _ HEQ.out hr, List.length_append, HKL.out]
          rfl
         have HTL2 : Hid ((ts ++ [t]).length = k + 1) := by show _ = _; rw [List.length_append, HKL.out]; rfl
         obtain ⟨ak, ck, hkv⟩ := own_shape HSP3.out.row
         rw [HKL.out] at hkv
         subst hkv
         have HOW : Hid (World.ownsRow ((w1.alloc (.cells #[.bool l1, .slice ap1 np1 cp1, .slice ak1 nk1 ck1] 115)).alloc (.cells #[.bool l1, .slice ap1 np1 cp1, .slice ak1 nk1 ck1] 115)) bs 115 3 (.slice ak k ck) k (ncs (mkV L P K k))) := by
          have := HSP3.out.row
          rw [HKL.out] at this
          exact this
         have hki : k ≤ 1048576 := by omega
         have s2 := HSP2.out.sub.cell (j := 2) rfl
         have HHI := hid HSP3.out.hi
         clear hb1 hr r0 r1 r2 q0 q1 q2 t0 HSP HSP1 HSP2 HBL hsub HRD
         go_wp2_with (at_builtin; refine wpList_append_sub rfl _ _ rfl bs _ k (mkV L P K k) rfl HOW.out (w1.heap.size + 1) l1 ap1 np1 cp1 ak1 nk1 ck1 rfl HBN.out hki HHI.out ?_)
         intro v4 w4 hO4 hg4 ha4
         obtain ⟨a4, c4, hv4⟩ := own_shape hO4
         subst hv4
         have HSP4 := hid (HSP3.out.push HSB.out (by rw [HKL.out]; exact hO4) hg4 (by simpa using ha4))
         have K4 := HSP3.out.sub.to (only_of_grown (R := fun y => bs ≤ y) hg4 (fun y e => (World.ownsRow.lt HSP3.out.row y e).1)) (by have := HSP3.out.lo; omega)
         have s4 := K4.cell (j := 2) rfl
         have f4 := K4.free 2
         clear hO4 hg4 ha4 K4 HOW HBN HSB HSP3 s2 HHI
         go_wp2
         go_roundw
         case rel => exact ⟨ts ++ [t], n1, _, _, _, _, by rw [HTL2.out]; go_num, rfl, by show _ ≤ _; rw [HTL2.out]; omega, HSP4.out, HRD2.out⟩
         case measure => simp [intOf]; omega
       ·have e1 : (kd != (nx : Int)) = true := by simp [hne]
        have HR : Hid (rdS ns (f + 1) (p : Int) = none) := by
         show _ = _
         have h1 := HRD.out
         rw [HKD.out, rdJ_no _ _ _ _ _ (.inl hne)] at h1
         rw [HR0.out, ← h1]
        clear hne
        go_wp2
        try simp only [Exit.inBlock, Exit.then]
        refine bodyPost_ret (v := .tuple #[.agg #[.bool false, .slice none 0 0, .slice none 0 0], .int .i64 0, .bool false]) ?_ rfl ?_
        ·refine results_sub3 rfl _ _ _ rfl rfl rfl ?_ ?_ ?_
         ·go_simp
         ·go_simp
         ·go_simp
        ·exact ⟨by rw [HR.out]; rfl, ((HBL.out.setCell (by show w.heap.size ≤ w.heap.size + 1; omega) _).setCell (by show w.heap.size ≤ w.heap.size + 1; omega) _).setCell (by show w.heap.size ≤ w.heap.size + 1; omega) _⟩
      ·have hk' : k = ni := by have := HTL.out; omega
       have HR : Hid (rdS ns (f + 1) (p : Int) = some (.mk x.ps ts, nx)) := by
        show _ = _
        have h1 := HRD.out
        rw [hk', li.out, List.drop_length, rdJ_end] at h1
        rw [HR0.out, ← h1]
       obtain ⟨ak, ck, hkv⟩ := own_shape HSP.out.row
       rw [HKL.out] at hkv
       subst hkv
       have HDN := hid (HSP.out.done (by rw [HKL.out, hk', hLF]))
       have s0 := HSP.out.sub.cell (j := 0) rfl
       have s1 := HSP.out.sub.cell (j := 1) rfl
       have s2 := HSP.out.sub.cell (j := 2) rfl
       have HWL : Hid (w.heap.size + 1 < wr.heap.size) := HSP.out.res.lt
       clear hk' HSP HRD hLF
       go_wp2
       try simp only [Exit.inBlock, Exit.then]
       refine bodyPost_ret (v := .tuple #[.agg #[.bool lf, .slice a3 n3 c3, .slice ak k ck], .int .i64 nx, .bool true]) ?_ rfl ?_
       ·refine results_sub3 rfl _ _ _ rfl rfl rfl ?_ ?_ ?_
        ·go_simp
        ·go_simp
        ·go_simp
       ·refine ⟨?_, ((HBL.out.setCell (by show w.heap.size ≤ w.heap.size + 1; omega) _).setCell (by show w.heap.size ≤ w.heap.size + 1; omega) _).setCell (by show w.heap.size ≤ w.heap.size + 1; omega) _⟩
        rw [HR.out]
        refine ⟨lf, a3, n3, c3, ak, k, ck, rfl, ?_⟩
        have o : Only (fun y => y = w.heap.size + 1) wr (((wr.setCell ⟨w.heap.size + 1, 0, none⟩ (.bool lf)).setCell ⟨w.heap.size + 1, 1, none⟩ (.slice a3 n3 c3)).setCell ⟨w.heap.size + 1, 2, none⟩ (.slice ak k ck)) := ((only_set (R := fun y => y = w.heap.size + 1) rfl _).trans (only_set (R := fun y => y = w.heap.size + 1) rfl _)).trans (only_set (R := fun y => y = w.heap.size + 1) rfl _)
        exact (HDN.out.to o (fun y hy _ e => hy.2 e)).mono (fun y hy hlt => ⟨hy.1.1, hlt⟩)
open Go.RowKit
theorem results_sub2 {fn : Func} {p u : Tmp} (h : fn.results = #[.cell p 115, .tmp u]) (tmps : Array Value) (w : World) (g : Nat) {x y z b : Value} (hp : tmps.getD p undef = .pointer (some ⟨g, 0, none⟩)) (hb : tmps.getD u undef = b)
  (c0 : w.cell? ⟨g, 0, none⟩ = some x) (c1 : w.cell? ⟨g, 1, none⟩ = some y) (c2 : w.cell? ⟨g, 2, none⟩ = some z) : (results fn tmps).run Tryz.prog w = .ok (.tuple #[.agg #[x, y, z], b]) w := by
 have hp' : tmps[p]?.getD undef = .pointer (some ⟨g, 0, none⟩) := by simpa using hp
 have hb' : tmps[u]?.getD undef = b := by simpa using hb
 simp [results, h, hp', hb', asAddr, load_sub c0 c1 c2]
theorem take_no {P : Program} {md : Region.Mode} {ops : Array Oper} {Q : Exit → Act → World → Prop} {S : World → Prop} {i : Nat} {oi : Oper} {fuel : Nat} {listed : Array Bool} {a : Act} {w : World} (hi : ops[i]? = some oi)
  (hs : Region.noSelect ops = true) (hf : Region.free md ops listed i = true) (hr : (Region.ready md ops listed).contains i = true)
  (hQ : ∀ c a w, Q (.panic c) (a.put oi.dst undef) w → Q (.panic c) a w) (hw : Region.wanted oi (yielded ops a.tmps) = false) (hS : S w)
  (h : wpAnyH P md ops Q S fuel (listed.setIfInBounds i true) (a.put oi.dst undef) w) : wpAnyH P md ops Q S (fuel + 1) listed a w :=
 wpAnyH_take hi hs hf hr hQ (Or.inr ⟨hw, rfl⟩) hS h
def rootS (ns : List NB) : Option T := if ns.length = 0 then some (.mk [] []) else match rdS ns 13 0 with
 | none => none
 | some (t, n) => if n = ns.length then some t else none
def RootPost (o : Option T) (w : World) (e : Ending) (w' : World) : Prop := match o with
 | none => ∃ lf ap np cp ak nk ck, e = .returned (.tuple #[.agg #[.bool lf, .slice ap np cp, .slice ak nk ck], .bool false])
 | some t => ∃ lf ap np cp ak nk ck, e = .returned (.tuple #[.agg #[.bool lf, .slice ap np cp, .slice ak nk ck], .bool true]) ∧ Sub w' (fun y => w.heap.size ≤ y ∧ y < w'.heap.size) lf (.slice ap np cp) (.slice ak nk ck) t
set_option maxHeartbeats 4000000 in
theorem specRoot_any (ns : List NB) (hlen : ns.length ≤ 1048576) (hsm : smallN ns) (S : Nat → Prop) (an : Option Addr) (nn cn : Nat) (w : World) (hN : Nr w S (.slice an nn cn) ns) :
  Calls Tryz.prog 65 #[.agg #[.slice an nn cn]] w fun e w' => RootPost (rootS ns) w e w' ∧ Below w.heap.size w w' := by
 have hnn := hid hN.len.1
 have hnn2 := hN.len.2.1
 have hnn3 := hN.len.2.2
 have HN := hid hN
 clear hN
 by_cases h0 : nn = 0
 ·have HR : Hid (rootS ns = some (.mk [] [])) := by show _ = _; rw [rootS, if_pos]; rw [← hnn.out]; exact h0
  clear HN hnn
  subst h0
  go_enter Tryz.func65, Tryz.ntmps65
  go_wp2
  try simp only [Exit.inBlock, Exit.then]
  refine bodyPost_ret (v := .tuple #[.agg #[.bool true, .slice none 0 0, .slice none 0 0], .bool true]) ?_ rfl ?_
  ·refine results_sub2 rfl _ _ _ rfl rfl ?_ ?_ ?_
   ·go_simp
   ·go_simp
   ·go_simp
  ·refine ⟨?_, below_new (below_new (Below.refl _ _))⟩
   rw [HR.out]
   exact ⟨true, none, 0, 0, none, 0, 0, rfl, .mk true _ _ [] [] (fun _ => false) (fun _ => .slice none 0 0) (fun _ => .slice none 0 0) rfl (rw_nil _ _) (rw_nil _ _) (fun i hi => by simp at hi)⟩
 ·have e1 : ((nn : Int) == 0) = false := by simp; omega
  have HRS : Hid (rootS ns = match rdS ns 13 0 with
    | none => none
    | some (t, n) => if n = ns.length then some t else none) := by show _ = _; rw [rootS, if_neg]; rw [← hnn.out]; exact h0
  have HB0 : Hid (Below w.heap.size w ((w.alloc (.cells #[.slice an nn cn] 33)).alloc (.cells #[.bool false, .slice none 0 0, .slice none 0 0] 115))) := below_new (below_new (Below.refl _ _))
  have KT : Hid (Bk ((w.alloc (.cells #[.slice an nn cn] 33)).alloc (.cells #[.bool false, .slice none 0 0, .slice none 0 0] 115)) w.heap.size 33 [.slice an nn cn]) := (Bk.new w 33 [.slice an nn cn]).alloc _
  have KR : Hid (Bk ((w.alloc (.cells #[.slice an nn cn] 33)).alloc (.cells #[.bool false, .slice none 0 0, .slice none 0 0] 115)) (w.heap.size + 1) 115 [.bool false, .slice none 0 0, .slice none 0 0]) := by
   have := Bk.new (w.alloc (.cells #[.slice an nn cn] 33)) 115 [.bool false, .slice none 0 0, .slice none 0 0]
   show Bk _ _ _ _
   simpa using this
  have HZ : Hid (((w.alloc (.cells #[.slice an nn cn] 33)).alloc (.cells #[.bool false, .slice none 0 0, .slice none 0 0] 115)).heap.size = w.heap.size + 2) := by show _ = _; simp
  clear h0
  go_enter Tryz.func65, Tryz.ntmps65
  go_wp2_with fail
  refine (specRead_any ns hlen hsm 13 (Nat.le_refl _) S an nn cn 0 0 _ (HN.out.below HB0.out) (by omega)).mono ?_
  generalize (w.alloc (.cells #[.slice an nn cn] 33)).alloc (.cells #[.bool false, .slice none 0 0, .slice none 0 0] 115) = U at *
  rintro e w1 ⟨hpost, hb1⟩
  have HB1 := hid (HB0.out.trans (hb1.mono HB0.out.size))
  have KT1 := hid (KT.out.below hb1)
  have KR1 := hid (KR.out.below hb1)
  have HU := hid hb1.size
  cases hr : rdS ns 13 0 with
  | none =>
   rw [hr] at hpost HRS
   have he : e = .returned (.tuple #[.agg #[.bool false, .slice none 0 0, .slice none 0 0], .int .i64 0, .bool false]) := hpost
   subst he
   have KT2 := hid (KT1.out.alloc (.cells #[.bool false, .slice none 0 0, .slice none 0 0] 115))
   have KR2 := hid (KR1.out.alloc (.cells #[.bool false, .slice none 0 0, .slice none 0 0] 115))
   have t0 := KT2.out.cell (j := 0) rfl
   have r0 := KR2.out.cell (j := 0) rfl
   have r1 := KR2.out.cell (j := 1) rfl
   have r2 := KR2.out.cell (j := 2) rfl
   have q0 := KR2.out.free 0
   have q1 := KR2.out.free 1
   have q2 := KR2.out.free 2
   clear hpost hb1 KT KR KT1 KR1 HB0
   have d0 := (Bk.new w1 115 [.bool false, .slice none 0 0, .slice none 0 0]).cell (j := 0) rfl
   have d1 := (Bk.new w1 115 [.bool false, .slice none 0 0, .slice none 0 0]).cell (j := 1) rfl
   have d2 := (Bk.new w1 115 [.bool false, .slice none 0 0, .slice none 0 0]).cell (j := 2) rfl
   have HB2 := hid ((HB1.out.alloc HB1.out.size (.cells #[.bool false, .slice none 0 0, .slice none 0 0] 115)).drew)
   have hne1 : ¬ w1.heap.size = w.heap.size + 1 := by have := HU.out; have := HZ.out; omega
   have hne2 : ¬ w.heap.size = w.heap.size + 1 := by omega
   clear hr
   go_wp2_with fail
   generalize w1.alloc (.cells #[.bool false, .slice none 0 0, .slice none 0 0] 115) = u at *
   have T0 : Hid (KO (fun y => y = w.heap.size + 1) u u [(⟨w1.heap.size, 0, none⟩, .bool false), (⟨w1.heap.size, 1, none⟩, .slice none 0 0), (⟨w1.heap.size, 2, none⟩, .slice none 0 0), (⟨w.heap.size, 0, none⟩, .slice an nn cn)]) := ⟨fun p hp => by simp at hp; rcases hp with rfl | rfl | rfl | rfl <;> exact ⟨by assumption, by assumption⟩, Only.refl _ _⟩
   refine wp_region_noPanic ?_
   refine wp_region_held_drew (S := (fun z => z.cell? ⟨w1.heap.size, 0, none⟩ = some (.bool false) ∧ z.cell? ⟨w1.heap.size, 1, none⟩ = some (.slice none 0 0) ∧ z.cell? ⟨w1.heap.size, 2, none⟩ = some (.slice none 0 0) ∧ z.cell? ⟨w.heap.size, 0, none⟩ = some (.slice an nn cn) ∧ KO (fun y => y = w.heap.size + 1) u z [(⟨w1.heap.size, 0, none⟩, .bool false), (⟨w1.heap.size, 1, none⟩, .slice none 0 0), (⟨w1.heap.size, 2, none⟩, .slice none 0 0), (⟨w.heap.size, 0, none⟩, .slice an nn cn)])) (by kernel_rfl) ?_ (fun hHeld => ?_)
   ·exact ko4 ⟨T0.out.cells, only_drew _ _ 1⟩
   simp only [List.size_toArray, List.length_cons, List.length_nil, Array.replicate_succ, Array.replicate_zero, Nat.reduceAdd, List.push_toArray, List.nil_append, List.cons_append]
   refine wpAnyH_take (i := 0) (v := .agg #[.bool false, .slice none 0 0, .slice none 0 0]) rfl (by kernel_rfl) (by kernel_rfl) (by kernel_rfl) (fun _ _ _ h => h) (Or.inl ⟨by rfl, ?_⟩) (by assumption) ?_
   ·intro w hSw
    obtain ⟨g1', g2', g3', g4', _⟩ := hSw
    go_simp
   try simp only [List.getElem_toArray]
   try simp only [List.getElem_cons_succ]
   try simp only [List.getElem_cons_zero]
   try simp only [Act.put]
   try simp only [List.setIfInBounds_toArray]
   try simp only [List.set_cons_succ]
   try simp only [List.set_cons_zero]
   refine wpAnyH_take (i := 1) (v := .bool false) rfl (by kernel_rfl) (by kernel_rfl) (by kernel_rfl) (fun _ _ _ h => h) (Or.inl ⟨by rfl, ?_⟩) (by assumption) ?_
   ·intro w hSw
    obtain ⟨g1', g2', g3', g4', _⟩ := hSw
    go_simp
   try simp only [List.getElem_toArray]
   try simp only [List.getElem_cons_succ]
   try simp only [List.getElem_cons_zero]
   try simp only [Act.put]
   try simp only [List.setIfInBounds_toArray]
   try simp only [List.set_cons_succ]
   try simp only [List.set_cons_zero]
   refine wpAnyH_take (i := 2) (v := .bool false) rfl (by kernel_rfl) (by kernel_rfl) (by kernel_rfl) (fun _ _ _ h => h) (Or.inl ⟨by rfl, ?_⟩) (by assumption) ?_
   ·intro w hSw
    obtain ⟨g1', g2', g3', g4', _⟩ := hSw
    go_simp
   try simp only [List.getElem_toArray]
   try simp only [List.getElem_cons_succ]
   try simp only [List.getElem_cons_zero]
   try simp only [Act.put]
   try simp only [List.setIfInBounds_toArray]
   try simp only [List.set_cons_succ]
   try simp only [List.set_cons_zero]
   refine take_no (i := 3) rfl (by kernel_rfl) (by kernel_rfl) (by kernel_rfl) (fun _ _ _ h => h) (by rfl) (by assumption) ?_
   try simp only [List.getElem_toArray]
   try simp only [List.getElem_cons_succ]
   try simp only [List.getElem_cons_zero]
   try simp only [Act.put]
   try simp only [List.setIfInBounds_toArray]
   try simp only [List.set_cons_succ]
   try simp only [List.set_cons_zero]
   refine take_no (i := 4) rfl (by kernel_rfl) (by kernel_rfl) (by kernel_rfl) (fun _ _ _ h => h) (by rfl) (by assumption) ?_
   try simp only [List.getElem_toArray]
   try simp only [List.getElem_cons_succ]
   try simp only [List.getElem_cons_zero]
   try simp only [Act.put]
   try simp only [List.setIfInBounds_toArray]
   try simp only [List.set_cons_succ]
   try simp only [List.set_cons_zero]
   refine take_no (i := 5) rfl (by kernel_rfl) (by kernel_rfl) (by kernel_rfl) (fun _ _ _ h => h) (by rfl) (by assumption) ?_
   try simp only [List.getElem_toArray]
   try simp only [List.getElem_cons_succ]
   try simp only [List.getElem_cons_zero]
   try simp only [Act.put]
   try simp only [List.setIfInBounds_toArray]
   try simp only [List.set_cons_succ]
   try simp only [List.set_cons_zero]
   refine take_no (i := 6) rfl (by kernel_rfl) (by kernel_rfl) (by kernel_rfl) (fun _ _ _ h => h) (by rfl) (by assumption) ?_
   try simp only [List.getElem_toArray]
   try simp only [List.getElem_cons_succ]
   try simp only [List.getElem_cons_zero]
   try simp only [Act.put]
   try simp only [List.setIfInBounds_toArray]
   try simp only [List.set_cons_succ]
   try simp only [List.set_cons_zero]
   refine take_no (i := 7) rfl (by kernel_rfl) (by kernel_rfl) (by kernel_rfl) (fun _ _ _ h => h) (by rfl) (by assumption) ?_
   try simp only [List.getElem_toArray]
   try simp only [List.getElem_cons_succ]
   try simp only [List.getElem_cons_zero]
   try simp only [Act.put]
   try simp only [List.setIfInBounds_toArray]
   try simp only [List.set_cons_succ]
   try simp only [List.set_cons_zero]
   refine wpAnyH_take (i := 8) (v := .bool false) rfl (by kernel_rfl) (by kernel_rfl) (by kernel_rfl) (fun _ _ _ h => h) (Or.inl ⟨by rfl, ?_⟩) (by assumption) ?_
   ·intro w hSw
    obtain ⟨g1', g2', g3', g4', _⟩ := hSw
    go_simp
   try simp only [List.getElem_toArray]
   try simp only [List.getElem_cons_succ]
   try simp only [List.getElem_cons_zero]
   try simp only [Act.put]
   try simp only [List.setIfInBounds_toArray]
   try simp only [List.set_cons_succ]
   try simp only [List.set_cons_zero]
   refine wpAnyH_ready (rs := [9]) (by kernel_rfl) (by simp) ?_
   refine AllReadyH.cons rfl (fun K1 hK => ?_) AllReadyH.nil
   go_simp
   try go_wp2_with fail
   refine hK.out _ _ ?_ (fun hHeld => ?_)
   ·first | assumption | exact ko4 ⟨T0.out.cells, only_drew _ _ 1⟩ | exact ko4o ((only_set (R := fun y => y = w.heap.size + 1) rfl _).trans ((only_set (R := fun y => y = w.heap.size + 1) rfl _).trans (only_set (R := fun y => y = w.heap.size + 1) rfl _))) (by assumption)
   clear hK K1
   try simp only [List.getElem_toArray]
   try simp only [List.getElem_cons_succ]
   try simp only [List.getElem_cons_zero]
   try simp only [Act.put]
   try simp only [List.setIfInBounds_toArray]
   try simp only [List.set_cons_succ]
   try simp only [List.set_cons_zero]
   refine wpAnyH_ready (rs := [10]) (by kernel_rfl) (by simp) ?_
   refine AllReadyH.cons rfl (fun K1 hK => ?_) AllReadyH.nil
   go_simp
   try go_wp2_with fail
   refine hK.out _ _ ?_ (fun hHeld => ?_)
   ·first | assumption | exact ko4 ⟨T0.out.cells, only_drew _ _ 1⟩ | exact ko4o ((only_set (R := fun y => y = w.heap.size + 1) rfl _).trans ((only_set (R := fun y => y = w.heap.size + 1) rfl _).trans (only_set (R := fun y => y = w.heap.size + 1) rfl _))) (by assumption)
   clear hK K1
   try simp only [List.getElem_toArray]
   try simp only [List.getElem_cons_succ]
   try simp only [List.getElem_cons_zero]
   try simp only [Act.put]
   try simp only [List.setIfInBounds_toArray]
   try simp only [List.set_cons_succ]
   try simp only [List.set_cons_zero]
   refine wpAnyH_done (by kernel_rfl) ?_ _
   refine NoPanic.normal ?_
   go_wp2
   try simp only [Exit.inBlock, Exit.then]
   refine bodyPost_ret (v := .tuple #[.agg #[.bool false, .slice none 0 0, .slice none 0 0], .bool false]) ?_ rfl ?_
   ·refine results_sub2 rfl _ _ _ rfl rfl ?_ ?_ ?_
    ·go_simp
    ·go_simp
    ·go_simp
   ·refine ⟨?_, (((HB2.out.setCell (by show w.heap.size ≤ w.heap.size + 1; omega) _).setCell (by show w.heap.size ≤ w.heap.size + 1; omega) _).setCell (by show w.heap.size ≤ w.heap.size + 1; omega) _)⟩
    rw [HRS.out]
    exact ⟨_, _, _, _, _, _, _, rfl⟩
  | some tn =>
   obtain ⟨t, n⟩ := tn
   rw [hr] at hpost HRS
   obtain ⟨lf, ap, np, cp, ak, nk, ck, he, hsub⟩ := hpost
   subst he
   have KT2 := hid (KT1.out.alloc (.cells #[.bool lf, .slice ap np cp, .slice ak nk ck] 115))
   have KR2 := hid (KR1.out.alloc (.cells #[.bool lf, .slice ap np cp, .slice ak nk ck] 115))
   have t0 := KT2.out.cell (j := 0) rfl
   have r0 := KR2.out.cell (j := 0) rfl
   have r1 := KR2.out.cell (j := 1) rfl
   have r2 := KR2.out.cell (j := 2) rfl
   have q0 := KR2.out.free 0
   have q1 := KR2.out.free 1
   have q2 := KR2.out.free 2
   have d0 := (Bk.new w1 115 [.bool lf, .slice ap np cp, .slice ak nk ck]).cell (j := 0) rfl
   have d1 := (Bk.new w1 115 [.bool lf, .slice ap np cp, .slice ak nk ck]).cell (j := 1) rfl
   have d2 := (Bk.new w1 115 [.bool lf, .slice ap np cp, .slice ak nk ck]).cell (j := 2) rfl
   have HB2 := hid ((HB1.out.alloc HB1.out.size (.cells #[.bool lf, .slice ap np cp, .slice ak nk ck] 115)).drew)
   have HSB : Hid (Sub (w1.alloc (.cells #[.bool lf, .slice ap np cp, .slice ak nk ck] 115)).drew (fun y => w.heap.size + 2 ≤ y) lf (.slice ap np cp) (.slice ak nk ck) t) := ((hsub.kept (below_new (Below.refl _ _))).kept (below_drew _)).mono (fun y hy _ => by have := HZ.out; have := hy.1; omega)
   have hne1 : ¬ w1.heap.size = w.heap.size + 1 := by have := HU.out; have := HZ.out; omega
   have hne2 : ¬ w.heap.size = w.heap.size + 1 := by omega
   have HFIN : Hid (∀ b : Bool, b = decide (n = ns.length) → ∀ e w', e = .returned (.tuple #[.agg #[.bool lf, .slice ap np cp, .slice ak nk ck], .bool b]) → Sub w' (fun y => w.heap.size ≤ y ∧ y < w'.heap.size) lf (.slice ap np cp) (.slice ak nk ck) t → RootPost (rootS ns) w e w') := by
    rintro b rfl e w' rfl hs
    rw [HRS.out]
    simp only
    by_cases hn : n = ns.length
    ·rw [if_pos hn, decide_eq_true hn]; exact ⟨lf, ap, np, cp, ak, nk, ck, rfl, hs⟩
    ·rw [if_neg hn, decide_eq_false hn]; exact ⟨lf, ap, np, cp, ak, nk, ck, rfl⟩
   clear hb1 hr KT KR KT1 KR1 HB0 hsub HRS
   go_wp2_with fail
   generalize w1.alloc (.cells #[.bool lf, .slice ap np cp, .slice ak nk ck] 115) = u at *
   have T0 : Hid (KO (fun y => y = w.heap.size + 1) u u [(⟨w1.heap.size, 0, none⟩, .bool lf), (⟨w1.heap.size, 1, none⟩, .slice ap np cp), (⟨w1.heap.size, 2, none⟩, .slice ak nk ck), (⟨w.heap.size, 0, none⟩, .slice an nn cn)]) := ⟨fun p hp => by simp at hp; rcases hp with rfl | rfl | rfl | rfl <;> exact ⟨by assumption, by assumption⟩, Only.refl _ _⟩
   go_region_held3 (fun z => z.cell? ⟨w1.heap.size, 0, none⟩ = some (.bool lf) ∧ z.cell? ⟨w1.heap.size, 1, none⟩ = some (.slice ap np cp) ∧ z.cell? ⟨w1.heap.size, 2, none⟩ = some (.slice ak nk ck) ∧ z.cell? ⟨w.heap.size, 0, none⟩ = some (.slice an nn cn) ∧ KO (fun y => y = w.heap.size + 1) u z [(⟨w1.heap.size, 0, none⟩, .bool lf), (⟨w1.heap.size, 1, none⟩, .slice ap np cp), (⟨w1.heap.size, 2, none⟩, .slice ak nk ck), (⟨w.heap.size, 0, none⟩, .slice an nn cn)]) (first | assumption | exact ko4 ⟨T0.out.cells, only_drew _ _ 1⟩ | exact ko4o ((only_set (R := fun y => y = w.heap.size + 1) rfl _).trans ((only_set (R := fun y => y = w.heap.size + 1) rfl _).trans (only_set (R := fun y => y = w.heap.size + 1) rfl _))) (by assumption)) (first | fail)
   all_goals
    have hbeq : ((n : Int) == (nn : Int)) = decide (n = ns.length) := by
     rw [← hnn.out]
     by_cases h : n = nn
     ·rw [decide_eq_true h, h]; simp
     ·rw [decide_eq_false h]; simp; omega
    go_wp2
    try simp only [Exit.inBlock, Exit.then]
    refine bodyPost_ret (v := .tuple #[.agg #[.bool lf, .slice ap np cp, .slice ak nk ck], .bool (decide (n = ns.length))]) ?_ rfl ?_
    ·refine results_sub2 rfl _ _ _ rfl ?_ ?_ ?_ ?_
     ·show Value.bool ((n : Int) == (nn : Int)) = _
      rw [hbeq]
     ·go_simp
     ·go_simp
     ·go_simp
    ·refine ⟨HFIN.out _ rfl _ _ rfl ?_, (((HB2.out.setCell (by show w.heap.size ≤ w.heap.size + 1; omega) _).setCell (by show w.heap.size ≤ w.heap.size + 1; omega) _).setCell (by show w.heap.size ≤ w.heap.size + 1; omega) _)⟩
     have o : Only (fun y => y = w.heap.size + 1) u.drew (((u.drew.setCell ⟨w.heap.size + 1, 0, none⟩ (.bool lf)).setCell ⟨w.heap.size + 1, 1, none⟩ (.slice ap np cp)).setCell ⟨w.heap.size + 1, 2, none⟩ (.slice ak nk ck)) := ((only_set (R := fun y => y = w.heap.size + 1) rfl _).trans (only_set (R := fun y => y = w.heap.size + 1) rfl _)).trans (only_set (R := fun y => y = w.heap.size + 1) rfl _)
     exact (HSB.out.to o (fun y hy _ e => by omega)).mono (fun y hy hlt => ⟨by omega, hlt⟩)
open Go.RowKit
def LayPost (w : World) (F : Nat → Prop) (v : Value) (ms : List NB) (e : Ending) (w' : World) : Prop :=
 ∃ v', e = .returned v' ∧ NO w' (fun y => F y ∨ (w.heap.size ≤ y ∧ y < w'.heap.size ∧ v'.ownBlock ≠ some y)) v' ms ∧ Only (fun y => v.ownBlock = some y) w w' ∧ ∀ y, v'.ownBlock = some y → v.ownBlock = some y ∨ w.heap.size ≤ y
set_option maxHeartbeats 8000000 in
set_option maxRecDepth 20000 in
theorem specLay_any (t : T) : ∀ (S : Nat → Prop) (lf : Bool) (ap ak : Option Addr) (np cp nk ck : Nat) (w : World) (F : Nat → Prop) (av : Option Addr) (nv cv : Nat) (ns : List NB) (r : Bool), Sub w S lf (.slice ap np cp) (.slice ak nk ck) t → (∀ y, S y → (Value.slice av nv cv).ownBlock ≠ some y) →
  NO w F (.slice av nv cv) ns → ns.length + t.size ≤ 1048576 → t.full r = true →
  Calls Tryz.prog 70 #[.slice av nv cv, .agg #[.bool lf, .slice ap np cp, .slice ak nk ck]] w fun e w' => LayPost w F (.slice av nv cv) (ns ++ lay ns.length t) e w' := by
 induction t using T.ind
 rename_i ps ks ih
 intro S lf ap ak np cp nk ck w F av nv cv ns r h hSv hN hsz hfu
 obtain ⟨ap', np', cp', ak', nk', ck', e1, e2, HNP, HNK, b1, b2, hlf, hP⟩ := h.shape
 cases e1
 cases e2
 obtain ⟨av', nv', cv', e3, HNV⟩ := hN.shape
 cases e3
 have H0 := hid h
 have HP := hid hP
 have HIH := hid ih
 have HSV := hid hSv
 have HN := hid hN
 have HSZ := hid hsz
 have HFU := hid hfu
 simp only [T.ks, T.ps] at HNK HNP HP
 have hnl : nv ≤ 1048576 := by have := HNV.out; have := HSZ.out; omega
 have HLF := hid hlf
 clear h ih hP hSv hN hsz hfu hlf
 have HB0 : Hid (Below w.heap.size w ((w.alloc (.cells #[.bool lf, .slice ap np cp, .slice ak nk ck] 115)).alloc (.cells #[.slice none 0 0, .slice none 0 0, .slice none 0 0] 85))) := below_new (below_new (Below.refl _ _))
 have KP : Hid (Bk ((w.alloc (.cells #[.bool lf, .slice ap np cp, .slice ak nk ck] 115)).alloc (.cells #[.slice none 0 0, .slice none 0 0, .slice none 0 0] 85)) w.heap.size 115 [.bool lf, .slice ap np cp, .slice ak nk ck]) := (Bk.new w 115 [.bool lf, .slice ap np cp, .slice ak nk ck]).alloc _
 have KZ : Hid (Bk ((w.alloc (.cells #[.bool lf, .slice ap np cp, .slice ak nk ck] 115)).alloc (.cells #[.slice none 0 0, .slice none 0 0, .slice none 0 0] 85)) (w.heap.size + 1) 85 [.slice none 0 0, .slice none 0 0, .slice none 0 0]) := by
  have := Bk.new (w.alloc (.cells #[.bool lf, .slice ap np cp, .slice ak nk ck] 115)) 85 [.slice none 0 0, .slice none 0 0, .slice none 0 0]
  show Bk _ _ _ _
  simpa using this
 have HN0 := hid (HN.out.kept HB0.out)
 have HVW := hid HN.out.lt
 go_enter Tryz.func70, Tryz.ntmps70
 go_wp2_with (at_builtin; refine wpList_append_zero rfl _ _ rfl F _ ns rfl HN0.out (w.heap.size + 1) rfl KZ.out ?q1 ?_)
 case q1 => have := HSZ.out; omega
 intro g1 n1 c1 w1 hN1 HN1L hg1 ha1
 have HO1 : Hid (Only (fun y => (Value.slice av nv cv).ownBlock = some y) w w1) := (only_of_below HB0.out _).trans (only_of_grown hg1 (fun k e => e))
 have HV1 : Hid (∀ y, (Value.slice (some ⟨g1, 0, none⟩) n1 c1).ownBlock = some y → (Value.slice av nv cv).ownBlock = some y ∨ w.heap.size + 2 ≤ y) := by
  intro y e
  rcases ha1 with ha | ha
  ·exact .inl (ha ▸ e)
  ·rw [ha] at e; cases e; right; simp
 have KP1 : Hid (Bk w1 w.heap.size 115 [.bool lf, .slice ap np cp, .slice ak nk ck]) := KP.out.to (only_of_grown (R := fun y => y < w.heap.size) hg1 (fun y e => HVW.out y e)) (by omega)
 have HN1 := hid hN1
 have HWS : Hid (w.heap.size + 2 ≤ w1.heap.size) := by have := hg1.size; simp at this; exact this
 have HSW : Hid (Sub w1 S lf (.slice ap np cp) (.slice ak nk ck) (.mk ps ks)) := H0.out.to HO1.out (fun y hy _ e => HSV.out y hy e)
 have HPW : Hid (Pr w1 S (.slice ap np cp) ps) := HP.out.to HO1.out (fun y hy _ e => HSV.out y hy e)
 have p0 := KP1.out.cell (j := 0) rfl
 have p1 := KP1.out.cell (j := 1) rfl
 have p2 := KP1.out.cell (j := 2) rfl
 have HSUB : Hid (Sub w (fun y => S y ∧ y < w.heap.size) lf (.slice ap np cp) (.slice ak nk ck) (.mk ps ks)) := H0.out.mono (fun y hy h => ⟨hy, h⟩)
 clear hN1 hg1 ha1 KP KZ HN0 HB0 H0 HP
 have hn1 : Hid (n1 = nv + 1) := by show _ = _; rw [HN1L.out, HNV.out]
 have hlt1 : (nv : Int) < (n1 : Int) := by have := hn1.out; omega
 by_cases hk : nk = 0
 ·have hlf' : lf = true := by rw [HLF.out, hk]; rfl
  have hks : ks = [] := List.eq_nil_of_length_eq_zero (by have := HNK.out; omega)
  subst hlf' hks
  have hps : ps.length ≤ 4 := (full_lf HFU.out).1
  have HO := hid (ow_new w1 w1.heap.size (Nat.le_refl _))
  have HB1 := hid (below_new (o := .cells #[] 112) (w := w1) (Below.refl _ _))
  have p1' := (KP1.out.alloc (.cells #[] 112)).cell (j := 1) rfl
  clear hk HLF
  go_wp2_with (at_builtin; refine wpList_append_pairs rfl _ _ rfl w1.heap.size _ [] rfl HO.out S _ ps rfl (HPW.out.below HB1.out) ?q1 ?q2 ?_)
  case q1 => simp; omega
  case q2 => simp
  intro v2 w2 hO2 hg2
  obtain ⟨a2, n2, c2, hv2, HN2⟩ := hO2.shape'
  subst hv2
  have HO2 : Hid (Ow w2 w1.heap.size (.slice a2 n2 c2) ps) := hO2
  have HWB : Hid (Below w1.heap.size w1 w2) := HB1.out.trans (grown_belowB HO.out hg2 (by simp))
  have HN2' := hid (HN1.out.kept HWB.out)
  have HG1 : Hid (g1 < w1.heap.size) := HN1.out.lt g1 rfl
  have HF1 : Hid (∀ y, F y → y < w1.heap.size ∧ g1 ≠ y) := by
   intro y hy
   obtain ⟨V, _, _, _, n4, _⟩ := HN1.out
   exact ⟨(n4 y hy).1, fun e => (n4 y hy).2 (by rw [← e]; rfl)⟩
  obtain ⟨⟨x0, x1, x2, m0, _, _⟩, mf⟩ := HN2'.out.cells ns.length (by simp)
  have mf0 := mf (nv * 3)
  rw [← HNV.out] at m0
  have HFIN : Hid (NO (w2.setCell ⟨g1, nv * 3, none⟩ (.slice a2 n2 c2)) (fun y => F y ∨ (w.heap.size ≤ y ∧ y < (w2.setCell ⟨g1, nv * 3, none⟩ (.slice a2 n2 c2)).heap.size ∧ (Value.slice (some ⟨g1, 0, none⟩) n1 c1).ownBlock ≠ some y)) (.slice (some ⟨g1, 0, none⟩) n1 c1) (ns ++ lay ns.length (.mk ps []))) := by
   have hz : (w2.setCell ⟨g1, nv * 3, none⟩ (.slice a2 n2 c2)).heap.size = w2.heap.size := by simp [World.setCell]
   have hsz2 := HWB.out.size
   have e : lay ns.length (.mk ps []) = [⟨ps, [], []⟩] := by simp [lay]
   rw [hz, e]
   have hO0 : w2.ownsRow 0 112 2 (.slice a2 n2 c2) ps.length (pcs ps) := own_lower HO2.out
   have := NO.put0 (F := fun y => F y ∨ (w.heap.size ≤ y ∧ y < w2.heap.size ∧ (Value.slice (some ⟨g1, 0, none⟩) n1 c1).ownBlock ≠ some y)) (ms := ns) (l := []) (z := ⟨[], [], []⟩) HN2'.out (fun y hy => .inl hy) (by
    rintro y (hy | hy)
    ·exact ⟨by have := HF1.out y hy; omega, fun e => (HF1.out y hy).2 (by cases e; rfl)⟩
    ·exact hy.2) hO0 (fun y hy => by
     have h1 := own_ge HO2.out y hy
     have h2 := (World.ownsRow.lt HO2.out y hy).2
     exact ⟨.inr ⟨by have := HWS.out; omega, h2, fun e => by simp [Value.ownBlock] at e; have := HG1.out; omega⟩, fun hf => by have := HF1.out y hf; omega⟩)
   rw [← HNV.out] at this
   exact this
  have HOF : Hid (Only (fun y => (Value.slice av nv cv).ownBlock = some y) w (w2.setCell ⟨g1, nv * 3, none⟩ (.slice a2 n2 c2))) := by
   refine (HO1.out.trans (only_of_below HWB.out _)).then (only_set (R := fun y => y = g1) rfl _) (fun y hy e => ?_)
   subst e
   rcases HV1.out y rfl with h | h
   ·exact h
   ·omega
  clear hO2 hg2 mf HN2' HO2
  go_wp2
  go_ret
  exact ⟨_, rfl, HFIN.out, HOF.out, fun y hy => (HV1.out y hy).imp id (fun h => by omega)⟩
 ·have hlf' : lf = false := by rw [HLF.out]; simp [hk]
  subst hlf'
  have hkne : ks ≠ [] := by rintro rfl; have := HNK.out; simp at this; omega
  have HBR := hid (full_br HFU.out hkne)
  have HLY : Hid (ns ++ lay ns.length (T.mk ps ks) = ns ++ ⟨[], ks.tail.map T.least, places (ns.length + 1) ks⟩ :: layL (ns.length + 1) ks) := by show _ = _; simp [lay, hkne]
  have HSZK : Hid (ns.length + 1 + szL ks ≤ 1048576) := by have := HSZ.out; simp only [T.size] at this; show _ ≤ _; omega
  have HI0 : Hid (LyI w (w1.alloc (.cells #[.slice none 0 0, .slice none 0 0, .slice none 0 0] 85)) F (.slice av nv cv) (.slice (some ⟨g1, 0, none⟩) n1 c1) (.bool false) (.slice ap np cp) (.slice ak nk ck) w1.heap.size (.slice none 0 0) (.slice none 0 0) F (ns ++ [⟨[], [], []⟩]) [] []) := by
   have hF := fun y hy => (show y < w.heap.size from by obtain ⟨V, _, _, _, n4, _⟩ := HN.out; exact (n4 y hy).1)
   have hws := HWS.out
   refine ⟨hF, HVW.out, by omega, HN1.out.kept (below_new (Below.refl _ _)), KP1.out.alloc _, Bk.new w1 85 [.slice none 0 0, .slice none 0 0, .slice none 0 0], World.ownsRow_nil _ _ _ _, World.ownsRow_nil _ _ _ _, fun y hy => ⟨.inl hy, by have := hF y hy; omega, by simp [Value.ownBlock], by simp [Value.ownBlock]⟩, fun y hy => hy, fun y hy => ⟨(HV1.out y hy).imp id (fun h => by omega), ?_, by simp [Value.ownBlock], by simp [Value.ownBlock]⟩, fun y hy => (by cases hy), fun y hy => (by cases hy), HO1.out.trans (only_alloc _ _ _)⟩
   have := HN1.out.lt y hy
   omega
  have p2' := HI0.out.par.cell (j := 2) rfl
  clear hk HLF HN1 KP1 HN
  go_wp2_with fail
  go_loopw [0, 29] (fun x i wr => ∃ (k : Nat) (a' : Option Addr) (n' c' : Nat) (kx ki : Value) (Fk : Nat → Prop), k ≤ nk ∧ i = .int .i64 k ∧ x = .slice a' n' c' ∧ Hid (LyI w wr F (.slice av nv cv) (.slice a' n' c') (.bool false) (.slice ap np cp) (.slice ak nk ck) w1.heap.size kx ki Fk (ns ++ ⟨[], [], []⟩ :: layL (ns.length + 1) (ks.take k)) ((ks.take k).tail.map T.least) (places (ns.length + 1) (ks.take k)))) (fun _ i _ => nk - (intOf i).toNat)
  case atStart => exact ⟨0, _, _, _, _, _, F, Nat.zero_le _, rfl, rfl, by show LyI _ _ _ _ _ _ _ _ _ _ _ _ _ _ _; simpa [layL, places] using HI0.out⟩
  case round =>
   obtain ⟨k, a', n', c', kx, ki, Fk, hkn, rfl, rfl, HL⟩ := hrel
   by_cases hlt : k < nk
   ·have hlt' : (k : Int) < (nk : Int) := by omega
    have hks : k < ks.length := by rw [← HNK.out]; exact hlt
    obtain ⟨aki, cki, hki⟩ := own_shape HL.out.ri
    generalize hnki : (places (ns.length + 1) (ks.take k)).length = nki at hki
    have HNKI := hid hnki
    clear hnki
    subst hki
    have HLu := hid (HL.out.keep (below_new (o := .cells #[.int .i64 (n' : Int)] 3) (Below.refl _ _)))
    have y2 := HL.out.nod.cell (j := 2) rfl
    obtain ⟨aq, nq', cq, eq, HNQ⟩ := HL.out.nodes.shape
    cases eq
    have HLN : Hid (n' = ns.length + 1 + szL (ks.take k)) := by show _ = _; rw [HNQ.out]; simp [layL_length]; omega
    have hkk : nki ≤ 1048576 := by
     have h1 := HNKI.out
     rw [places_length, List.length_take] at h1
     have h2 := HBR.out.2.1
     omega
    have HRI : Hid (World.ownsRow (wr.alloc (.cells #[.int .i64 (n' : Int)] 3)) 0 3 1 (.slice aki nki cki) (places (ns.length + 1) (ks.take k)).length ((places (ns.length + 1) (ks.take k)).map (Value.int .i64))) := HLu.out.ri
    rw [HNKI.out] at HRI
    go_wp2_with (at_builtin; refine wpList_append_int1 rfl _ _ rfl _ nki _ rfl HRI.out wr.heap.size (n' : Int) rfl (Bk.new wr 3 [.int .i64 (n' : Int)]) hkk ?_)
    intro ai2 ni2 ci2 w2 hO2 hg2 ha2
    have HL2 : Hid (LyI w (w2.setCell ⟨w1.heap.size, 2, none⟩ (.slice ai2 ni2 ci2)) F (.slice av nv cv) (.slice a' n' c') (.bool false) (.slice ap np cp) (.slice ak nk ck) w1.heap.size kx (.slice ai2 ni2 ci2) Fk (ns ++ ⟨[], [], []⟩ :: layL (ns.length + 1) (ks.take k)) ((ks.take k).tail.map T.least) (places (ns.length + 1) (ks.take (k + 1)))) := by
     have h1 := HLu.out.addKid (n' : Int) (by rw [HNKI.out]; exact hO2) hg2 (by simpa using ha2)
     have h2 : places (ns.length + 1) (ks.take (k + 1)) = places (ns.length + 1) (ks.take k) ++ [(n' : Int)] := by rw [places_take ks k _ hks, HLN.out]
     show LyI _ _ _ _ _ _ _ _ _ _ _ _ _ _ _
     rw [h2]
     exact h1
    have K2 := HLu.out.nod.to (only_of_grown (R := fun y => (Value.slice aki nki cki).ownBlock = some y) hg2 (fun y e => e)) (fun e => (HLu.out.ib _ e).2 rfl)
    have z2 := K2.cell (j := 2) rfl
    have zf := K2.free 2
    clear hO2 hg2 ha2 K2 HRI HLu HL y2
    cases k with
    | zero =>
     have HLX := HL2
     -- the kid's nodes
     have HSUBX := hid (HSUB.out.to HLX.out.only (fun y hy _ e => HSV.out y hy.1 e))
     obtain ⟨gk, ofk, hak, _, _, hkid⟩ := HSUBX.out.kids (by omega)
     try subst hak
     obtain ⟨l1, ap1, np1, cp1, ak1, nk1, ck1, x0, x1, x2, hs1⟩ := hkid 0 hlt
     simp only [Nat.zero_mul, Nat.add_zero] at x0 x1 x2
     have HS1 := hid hs1
     have pp2 := HLX.out.par.cell (j := 2) rfl
     have HLEN : Hid ((ns ++ ⟨[], [], []⟩ :: layL (ns.length + 1) (ks.take (0))).length = ns.length + 1 + szL (ks.take (0))) := by show _ = _; simp [layL_length]; omega
     have HEQ : Hid ((ns ++ ⟨[], [], []⟩ :: layL (ns.length + 1) (ks.take (0))) ++ lay (ns ++ ⟨[], [], []⟩ :: layL (ns.length + 1) (ks.take (0))).length (tAt ks (0)) = ns ++ ⟨[], [], []⟩ :: layL (ns.length + 1) (ks.take (0 + 1))) := by
      show _ = _
      rw [HLEN.out, layL_take ks (0) (ns.length + 1) hks]
      simp
     have HBND : Hid ((ns ++ ⟨[], [], []⟩ :: layL (ns.length + 1) (ks.take (0))).length + (tAt ks (0)).size ≤ 1048576) := by
      show _ ≤ _
      have h1 := szL_take_le ks (0 + 1)
      rw [szL_take ks (0) hks] at h1
      have h2 := HSZK.out
      rw [HLEN.out]
      omega
     have HVS : Hid (∀ y, (S y ∧ y < w.heap.size) → (Value.slice a' n' c').ownBlock ≠ some y) := by
      intro y hy e
      rcases (HLX.out.vb y e).1 with h | h
      ·exact HSV.out y hy.1 h
      ·omega
     simp only [T.ks] at HS1
     clear hkid hs1 HSUBX
     go_wp2_with fail
     refine (HIH.out (tAt ks (0)) (tAt_mem hks) (fun y => S y ∧ y < w.heap.size) l1 ap1 ak1 np1 cp1 nk1 ck1 _ Fk a' n' c' (ns ++ ⟨[], [], []⟩ :: layL (ns.length + 1) (ks.take (0))) false HS1.out HVS.out HLX.out.nodes HBND.out (HBR.out.2.2.2 _ (tAt_mem hks))).mono ?_
     rintro e w9 ⟨v9, rfl, hN9, ho9, hv9⟩
     rw [HEQ.out] at hN9
     obtain ⟨a9, n9, c9, e9, _⟩ := hN9.shape
     subst e9
     have HL9 := hid (HLX.out.sub hN9 ho9 hv9)
     clear hN9 ho9 hv9 x0 x1 x2 pp2 HLX HS1
     go_wp2
     go_roundw
     case rel => exact ⟨0 + 1, a9, n9, c9, _, _, _, by omega, by go_num, rfl, by show LyI _ _ _ _ _ _ _ _ _ _ _ _ _ _ _; have e : (ks.take (0 + 1)).tail.map T.least = (ks.take 0).tail.map T.least := (by cases ks <;> simp); rw [e]; exact HL9.out⟩
     case measure => simp [intOf]; omega
    | succ k' =>
     have hk1 : (0 : Int) < (k' : Int) + 1 := by omega
     have hk2 : (k' : Int) + 1 < (nk : Int) := by omega
     have hk3 : 0 ≤ (k' : Int) + 1 := by omega
     have hk4 : ((k' : Int) + 1).toNat = k' + 1 := by omega
     generalize hU2 : w2.setCell ⟨w1.heap.size, 2, none⟩ (.slice ai2 ni2 ci2) = u2 at HL2
     obtain ⟨akx, ckx, hkx⟩ := own_shape HL2.out.rx
     generalize hnkx : ((ks.take (k' + 1)).tail.map T.least).length = nkx at hkx
     have HNKX := hid hnkx
     clear hnkx
     subst hkx
     have HSUB2 := hid (HSUB.out.to HL2.out.only (fun y hy _ e => HSV.out y hy.1 e))
     obtain ⟨gk, ofk, hak, hgs, _, hkid⟩ := HSUB2.out.kids (by omega)
     subst hak
     obtain ⟨l1, ap1, np1, cp1, ak1, nk1, ck1, x0, x1, x2, hs1⟩ := hkid (k' + 1) hlt
     have n1c := HL2.out.nod.cell (j := 1) rfl
     have n1f := HL2.out.nod.free 1
     have pp2 := HL2.out.par.cell (j := 2) rfl
     have hnbx : (Value.slice akx nkx ckx).ownBlock ≠ some w1.heap.size := fun e => (HL2.out.xb _ e).2.1 rfl
     have hgk : ¬ ((Value.slice akx nkx ckx).ownBlock = some gk ∨ gk = w1.heap.size) := by
      have h1 : gk < w.heap.size := hgs.2
      have h2 := HL2.out.lo
      rintro (e | e)
      ·have := (HL2.out.xb _ e).1; omega
      ·omega
     have hpb : ¬ ((Value.slice akx nkx ckx).ownBlock = some w.heap.size ∨ w.heap.size = w1.heap.size) := by
      have h2 := HL2.out.lo
      rintro (e | e)
      ·have := (HL2.out.xb _ e).1; omega
      ·omega
     have T0 : Hid (KO (fun y => (Value.slice akx nkx ckx).ownBlock = some y ∨ y = w1.heap.size) u2 u2 [(⟨w.heap.size, 2, none⟩, .slice (some ⟨gk, ofk, none⟩) nk ck), (⟨gk, ofk + (k' + 1) * 3, none⟩, .bool l1), (⟨gk, ofk + (k' + 1) * 3 + 1, none⟩, .slice ap1 np1 cp1), (⟨gk, ofk + (k' + 1) * 3 + 2, none⟩, .slice ak1 nk1 ck1)]) := ⟨fun p hp => by simp at hp; rcases hp with rfl | rfl | rfl | rfl <;> exact ⟨by assumption, by assumption⟩, Only.refl _ _⟩
     have HLE : Hid (∀ z, Below u2.heap.size u2 z → Calls Tryz.prog 110 #[.agg #[.bool l1, .slice ap1 np1 cp1, .slice ak1 nk1 ck1]] z fun e w' => e = .returned (.string (tAt ks (k' + 1)).least) ∧ Below z.heap.size z w') := fun z hz => specLeast_any (tAt ks (k' + 1)) _ l1 ap1 ak1 np1 cp1 nk1 ck1 z (by simp only [T.ks] at hs1; exact hs1.kept hz)
     have HOW : Hid (∀ z o, Below u2.drew.heap.size u2.drew z → World.ownsRow (z.alloc o) 0 9 1 (.slice akx nkx ckx) nkx (((ks.take (k' + 1)).tail.map T.least).map Value.string)) := fun z o hz => by
      have h1 := ((HL2.out.keep (below_drew _)).keep hz).keep (below_new (o := o) (Below.refl _ _))
      have h2 := h1.rx
      rw [HNKX.out] at h2
      exact h2
     have HCK : Hid (∀ z, Below u2.drew.heap.size u2.drew z → z.cell? ⟨w1.heap.size, 1, none⟩ = some (.slice akx nkx ckx) ∧ ∀ o, (z.alloc o).cell? ⟨w1.heap.size, 1, none⟩ = some (.slice akx nkx ckx)) := fun z hz =>
      ⟨((HL2.out.keep (below_drew _)).keep hz).nod.cell (j := 1) rfl, fun o => (((HL2.out.keep (below_drew _)).keep hz).keep (below_new (o := o) (Below.refl _ _))).nod.cell (j := 1) rfl⟩
     have HFK : Hid (∀ z o, Below u2.drew.heap.size u2.drew z → (z.alloc o).frozen? ⟨w1.heap.size, 1, none⟩ = false) := fun z o hz => (((HL2.out.keep (below_drew _)).keep hz).keep (below_new (o := o) (Below.refl _ _))).nod.free 1
     have hkx2 : nkx ≤ 1048576 := by
      have h1 := HNKX.out
      simp at h1
      have h2 := HBR.out.2.1
      omega
     have HFIN : Hid (∀ z o, Below u2.drew.heap.size u2.drew z → ∀ a5 n5 c5 w5, w5.ownsRow 0 9 1 (.slice a5 n5 c5) (nkx + 1) (((ks.take (k' + 1)).tail.map T.least).map Value.string ++ [.string (tAt ks (k' + 1)).least]) → (z.alloc o).grownBy w5 (Value.slice akx nkx ckx).ownBlock → ((Value.slice a5 n5 c5).ownBlock = (Value.slice akx nkx ckx).ownBlock ∨ (Value.slice a5 n5 c5).ownBlock = some (z.alloc o).heap.size) →
       LyI w (w5.setCell ⟨w1.heap.size, 1, none⟩ (.slice a5 n5 c5)) F (.slice av nv cv) (.slice a' n' c') (.bool false) (.slice ap np cp) (.slice (some ⟨gk, ofk, none⟩) nk ck) w1.heap.size (.slice a5 n5 c5) (.slice ai2 ni2 ci2) Fk (ns ++ ⟨[], [], []⟩ :: layL (ns.length + 1) (ks.take (k' + 1))) ((ks.take (k' + 1 + 1)).tail.map T.least) (places (ns.length + 1) (ks.take (k' + 1 + 1)))) := fun z o hz a5 n5 c5 w5 hO hg ha => by
      have h1 := (((HL2.out.keep (below_drew _)).keep hz).keep (below_new (o := o) (Below.refl _ _))).addKey (tAt ks (k' + 1)).least (by rw [HNKX.out]; exact hO) hg ha
      rw [keys_take ks k' hks]
      exact h1
     clear hkid hs1 HSUB2
     go_wp2_with fail
     clear hU2
     refine wp_region_noPanic ?_
     refine wp_region_held_drew (S := (fun z => z.cell? ⟨w.heap.size, 2, none⟩ = some (.slice (some ⟨gk, ofk, none⟩) nk ck) ∧ z.cell? ⟨gk, ofk + (k' + 1) * 3, none⟩ = some (.bool l1) ∧ z.cell? ⟨gk, ofk + (k' + 1) * 3 + 1, none⟩ = some (.slice ap1 np1 cp1) ∧ z.cell? ⟨gk, ofk + (k' + 1) * 3 + 2, none⟩ = some (.slice ak1 nk1 ck1) ∧ KO (fun y => (Value.slice akx nkx ckx).ownBlock = some y ∨ y = w1.heap.size) u2 z [(⟨w.heap.size, 2, none⟩, .slice (some ⟨gk, ofk, none⟩) nk ck), (⟨gk, ofk + (k' + 1) * 3, none⟩, .bool l1), (⟨gk, ofk + (k' + 1) * 3 + 1, none⟩, .slice ap1 np1 cp1), (⟨gk, ofk + (k' + 1) * 3 + 2, none⟩, .slice ak1 nk1 ck1)])) (by kernel_rfl) ?_ (fun hHeld => ?_)
     ·exact ko4 ⟨T0.out.cells, only_drew _ _ 1⟩
     simp only [List.size_toArray, List.length_cons, List.length_nil, Array.replicate_succ, Array.replicate_zero, Nat.reduceAdd, List.push_toArray, List.nil_append, List.cons_append]
     refine wpAnyH_take (i := 0) (v := .pointer (some ⟨w1.heap.size, 1, none⟩)) rfl (by kernel_rfl) (by kernel_rfl) (by kernel_rfl) (fun _ _ _ h => h) (Or.inl ⟨by rfl, ?_⟩) (by assumption) ?_
     ·intro w hSw
      obtain ⟨g1', g2', g3', g4', _⟩ := hSw
      go_simp
     try simp only [List.getElem_toArray]
     try simp only [List.getElem_cons_succ]
     try simp only [List.getElem_cons_zero]
     try simp only [Act.put]
     try simp only [List.setIfInBounds_toArray]
     try simp only [List.set_cons_succ]
     try simp only [List.set_cons_zero]
     refine wpAnyH_take (i := 2) (v := .pointer (some ⟨w.heap.size, 2, none⟩)) rfl (by kernel_rfl) (by kernel_rfl) (by kernel_rfl) (fun _ _ _ h => h) (Or.inl ⟨by rfl, ?_⟩) (by assumption) ?_
     ·intro w hSw
      obtain ⟨g1', g2', g3', g4', _⟩ := hSw
      go_simp
     try simp only [List.getElem_toArray]
     try simp only [List.getElem_cons_succ]
     try simp only [List.getElem_cons_zero]
     try simp only [Act.put]
     try simp only [List.setIfInBounds_toArray]
     try simp only [List.set_cons_succ]
     try simp only [List.set_cons_zero]
     refine wpAnyH_take (i := 3) (v := .slice (some ⟨gk, ofk, none⟩) nk ck) rfl (by kernel_rfl) (by kernel_rfl) (by kernel_rfl) (fun _ _ _ h => h) (Or.inl ⟨by rfl, ?_⟩) (by assumption) ?_
     ·intro w hSw
      obtain ⟨g1', g2', g3', g4', _⟩ := hSw
      go_simp
     try simp only [List.getElem_toArray]
     try simp only [List.getElem_cons_succ]
     try simp only [List.getElem_cons_zero]
     try simp only [Act.put]
     try simp only [List.setIfInBounds_toArray]
     try simp only [List.set_cons_succ]
     try simp only [List.set_cons_zero]
     refine wpAnyH_take (i := 4) (v := .int .i64 ((k' + 1 : Nat) : Int)) rfl (by kernel_rfl) (by kernel_rfl) (by kernel_rfl) (fun _ _ _ h => h) (Or.inl ⟨by rfl, ?_⟩) (by assumption) ?_
     ·intro w hSw
      obtain ⟨g1', g2', g3', g4', _⟩ := hSw
      go_simp
     try simp only [List.getElem_toArray]
     try simp only [List.getElem_cons_succ]
     try simp only [List.getElem_cons_zero]
     try simp only [Act.put]
     try simp only [List.setIfInBounds_toArray]
     try simp only [List.set_cons_succ]
     try simp only [List.set_cons_zero]
     refine wpAnyH_take (i := 5) (v := .pointer (some ⟨gk, ofk + (k' + 1) * 3, none⟩)) rfl (by kernel_rfl) (by kernel_rfl) (by kernel_rfl) (fun _ _ _ h => h) (Or.inl ⟨by rfl, ?_⟩) (by assumption) ?_
     ·intro w hSw
      obtain ⟨g1', g2', g3', g4', _⟩ := hSw
      go_simp
     try simp only [List.getElem_toArray]
     try simp only [List.getElem_cons_succ]
     try simp only [List.getElem_cons_zero]
     try simp only [Act.put]
     try simp only [List.setIfInBounds_toArray]
     try simp only [List.set_cons_succ]
     try simp only [List.set_cons_zero]
     refine wpAnyH_take (i := 6) (v := .agg #[.bool l1, .slice ap1 np1 cp1, .slice ak1 nk1 ck1]) rfl (by kernel_rfl) (by kernel_rfl) (by kernel_rfl) (fun _ _ _ h => h) (Or.inl ⟨by rfl, ?_⟩) (by assumption) ?_
     ·intro w hSw
      obtain ⟨g1', g2', g3', g4', _⟩ := hSw
      go_simp
     try simp only [List.getElem_toArray]
     try simp only [List.getElem_cons_succ]
     try simp only [List.getElem_cons_zero]
     try simp only [Act.put]
     try simp only [List.setIfInBounds_toArray]
     try simp only [List.set_cons_succ]
     try simp only [List.set_cons_zero]
     refine wpAnyH_ready (rs := [1, 7]) (by kernel_rfl) (by simp) ?_
     refine AllReadyH.cons rfl (fun K1 hK => ?_) (AllReadyH.cons rfl (fun K1 hK => ?_) AllReadyH.nil)
     ·skip
      go_simp
      try go_wp2_with fail
      refine hK.out _ _ ?_ (fun hHeld => ?_)
      ·first | assumption | exact ko4 ⟨T0.out.cells, only_drew _ _ 1⟩ | exact ko4o (only_of_below hbC _) (by assumption) | exact ko4o (only_alloc _ _ _) (by assumption) | exact ko4o (only_of_grown hg5 (fun y e => .inl e)) (by assumption) | exact ko4o (only_set (.inr rfl) _) (by assumption)
      clear hK K1
      try simp only [List.getElem_toArray]
      try simp only [List.getElem_cons_succ]
      try simp only [List.getElem_cons_zero]
      try simp only [Act.put]
      try simp only [List.setIfInBounds_toArray]
      try simp only [List.set_cons_succ]
      try simp only [List.set_cons_zero]
      refine wpAnyH_ready (rs := [7]) (by kernel_rfl) (by simp) ?_
      refine AllReadyH.cons rfl (fun K1 hK => ?_) AllReadyH.nil
      go_simp
      refine (HLE.out _ (below_drew _)).mono ?_
      rintro e w' ⟨rfl, hbC⟩
      have hq1 := (HCK.out _ hbC).1
      have hq2 := (HCK.out _ hbC).2
      go_wp2_with fail
      refine hK.out _ _ ?_ (fun hHeld => ?_)
      ·first | assumption | exact ko4 ⟨T0.out.cells, only_drew _ _ 1⟩ | exact ko4o (only_of_below hbC _) (by assumption) | exact ko4o (only_alloc _ _ _) (by assumption) | exact ko4o (only_of_grown hg5 (fun y e => .inl e)) (by assumption) | exact ko4o (only_set (.inr rfl) _) (by assumption)
      clear hK K1
      try simp only [List.getElem_toArray]
      try simp only [List.getElem_cons_succ]
      try simp only [List.getElem_cons_zero]
      try simp only [Act.put]
      try simp only [List.setIfInBounds_toArray]
      try simp only [List.set_cons_succ]
      try simp only [List.set_cons_zero]
      refine wpAnyH_ready (rs := [8]) (by kernel_rfl) (by simp) ?_
      refine AllReadyH.cons rfl (fun K1 hK => ?_) AllReadyH.nil
      go_simp
      try go_wp2_with fail
      refine hK.out _ _ ?_ (fun hHeld => ?_)
      ·first | assumption | exact ko4 ⟨T0.out.cells, only_drew _ _ 1⟩ | exact ko4o (only_of_below hbC _) (by assumption) | exact ko4o (only_alloc _ _ _) (by assumption) | exact ko4o (only_of_grown hg5 (fun y e => .inl e)) (by assumption) | exact ko4o (only_set (.inr rfl) _) (by assumption)
      clear hK K1
      try simp only [List.getElem_toArray]
      try simp only [List.getElem_cons_succ]
      try simp only [List.getElem_cons_zero]
      try simp only [Act.put]
      try simp only [List.setIfInBounds_toArray]
      try simp only [List.set_cons_succ]
      try simp only [List.set_cons_zero]
      refine wpAnyH_ready (rs := [9]) (by kernel_rfl) (by simp) ?_
      refine AllReadyH.cons rfl (fun K1 hK => ?_) AllReadyH.nil
      refine step_append_str1 rfl _ _ rfl _ nkx _ rfl (HOW.out _ _ hbC) _ (tAt ks (k' + 1)).least rfl (by simp) hkx2 w1.heap.size 1 _ (hq2 _) (HFK.out _ _ hbC) hnbx ?_
      intro a5 n5 c5 w5 hO5 hg5 ha5 hc5 hf5
      refine hK.out _ _ ?_ (fun hHeld => ?_)
      ·first | assumption | exact ko4 ⟨T0.out.cells, only_drew _ _ 1⟩ | exact ko4o (only_of_below hbC _) (by assumption) | exact ko4o (only_alloc _ _ _) (by assumption) | exact ko4o (only_of_grown hg5 (fun y e => .inl e)) (by assumption) | exact ko4o (only_set (.inr rfl) _) (by assumption)
      clear hK K1
      try simp only [List.getElem_toArray]
      try simp only [List.getElem_cons_succ]
      try simp only [List.getElem_cons_zero]
      try simp only [Act.put]
      try simp only [List.setIfInBounds_toArray]
      try simp only [List.set_cons_succ]
      try simp only [List.set_cons_zero]
      refine wpAnyH_ready (rs := [10]) (by kernel_rfl) (by simp) ?_
      refine AllReadyH.cons rfl (fun K1 hK => ?_) AllReadyH.nil
      go_simp
      try go_wp2_with fail
      refine hK.out _ _ ?_ (fun hHeld => ?_)
      ·first | assumption | exact ko4 ⟨T0.out.cells, only_drew _ _ 1⟩ | exact ko4o (only_of_below hbC _) (by assumption) | exact ko4o (only_alloc _ _ _) (by assumption) | exact ko4o (only_of_grown hg5 (fun y e => .inl e)) (by assumption) | exact ko4o (only_set (.inr rfl) _) (by assumption)
      clear hK K1
      try simp only [List.getElem_toArray]
      try simp only [List.getElem_cons_succ]
      try simp only [List.getElem_cons_zero]
      try simp only [Act.put]
      try simp only [List.setIfInBounds_toArray]
      try simp only [List.set_cons_succ]
      try simp only [List.set_cons_zero]
      refine wpAnyH_ready (rs := [11]) (by kernel_rfl) (by simp) ?_
      refine AllReadyH.cons rfl (fun K1 hK => ?_) AllReadyH.nil
      go_simp
      try go_wp2_with fail
      refine hK.out _ _ ?_ (fun hHeld => ?_)
      ·first | assumption | exact ko4 ⟨T0.out.cells, only_drew _ _ 1⟩ | exact ko4o (only_of_below hbC _) (by assumption) | exact ko4o (only_alloc _ _ _) (by assumption) | exact ko4o (only_of_grown hg5 (fun y e => .inl e)) (by assumption) | exact ko4o (only_set (.inr rfl) _) (by assumption)
      clear hK K1
      try simp only [List.getElem_toArray]
      try simp only [List.getElem_cons_succ]
      try simp only [List.getElem_cons_zero]
      try simp only [Act.put]
      try simp only [List.setIfInBounds_toArray]
      try simp only [List.set_cons_succ]
      try simp only [List.set_cons_zero]
      refine wpAnyH_done (by kernel_rfl) ?_ _
      refine NoPanic.normal ?_
      have HLX := hid (HFIN.out _ _ hbC _ _ _ _ hO5 hg5 ha5)
      clear hO5 hg5 ha5 hc5 hf5 hbC hq1 hq2 HFIN HFK HCK HOW HLE T0 hgk hpb hnbx HL2 z2 zf n1c n1f pp2 x0 x1 x2 hHeld
      -- the kid's nodes
      have HSUBX := hid (HSUB.out.to HLX.out.only (fun y hy _ e => HSV.out y hy.1 e))
      obtain ⟨gk9, ofk9, hak, _, _, hkid⟩ := HSUBX.out.kids (by omega)
      cases hak
      obtain ⟨l9, ap9, np9, cp9, ak9, nk9, ck9, x0, x1, x2, hs1⟩ := hkid (k' + 1) hlt
      have HS1 := hid hs1
      have pp2 := HLX.out.par.cell (j := 2) rfl
      have HLEN : Hid ((ns ++ ⟨[], [], []⟩ :: layL (ns.length + 1) (ks.take (k' + 1))).length = ns.length + 1 + szL (ks.take (k' + 1))) := by show _ = _; simp [layL_length]; omega
      have HEQ : Hid ((ns ++ ⟨[], [], []⟩ :: layL (ns.length + 1) (ks.take (k' + 1))) ++ lay (ns ++ ⟨[], [], []⟩ :: layL (ns.length + 1) (ks.take (k' + 1))).length (tAt ks (k' + 1)) = ns ++ ⟨[], [], []⟩ :: layL (ns.length + 1) (ks.take (k' + 1 + 1))) := by
       show _ = _
       rw [HLEN.out, layL_take ks (k' + 1) (ns.length + 1) hks]
       simp
      have HBND : Hid ((ns ++ ⟨[], [], []⟩ :: layL (ns.length + 1) (ks.take (k' + 1))).length + (tAt ks (k' + 1)).size ≤ 1048576) := by
       show _ ≤ _
       have h1 := szL_take_le ks (k' + 1 + 1)
       rw [szL_take ks (k' + 1) hks] at h1
       have h2 := HSZK.out
       rw [HLEN.out]
       omega
      have HVS : Hid (∀ y, (S y ∧ y < w.heap.size) → (Value.slice a' n' c').ownBlock ≠ some y) := by
       intro y hy e
       rcases (HLX.out.vb y e).1 with h | h
       ·exact HSV.out y hy.1 h
       ·omega
      simp only [T.ks] at HS1
      clear hkid hs1 HSUBX
      go_wp2_with fail
      refine (HIH.out (tAt ks (k' + 1)) (tAt_mem hks) (fun y => S y ∧ y < w.heap.size) l9 ap9 ak9 np9 cp9 nk9 ck9 _ Fk a' n' c' (ns ++ ⟨[], [], []⟩ :: layL (ns.length + 1) (ks.take (k' + 1))) false HS1.out HVS.out HLX.out.nodes HBND.out (HBR.out.2.2.2 _ (tAt_mem hks))).mono ?_
      rintro e w9 ⟨v9, rfl, hN9, ho9, hv9⟩
      rw [HEQ.out] at hN9
      obtain ⟨aZ, nZ, cZ, e9, _⟩ := hN9.shape
      subst e9
      have HL9 := hid (HLX.out.sub hN9 ho9 hv9)
      clear hN9 ho9 hv9 x0 x1 x2 pp2 HLX HS1
      go_wp2
      go_roundw
      case rel => exact ⟨k' + 1 + 1, aZ, nZ, cZ, _, _, _, by omega, by go_num, rfl, HL9.out⟩
      case measure => simp [intOf]; omega
     ·skip
      go_simp
      refine (HLE.out _ (below_drew _)).mono ?_
      rintro e w' ⟨rfl, hbC⟩
      have hq1 := (HCK.out _ hbC).1
      have hq2 := (HCK.out _ hbC).2
      go_wp2_with fail
      refine hK.out _ _ ?_ (fun hHeld => ?_)
      ·first | assumption | exact ko4 ⟨T0.out.cells, only_drew _ _ 1⟩ | exact ko4o (only_of_below hbC _) (by assumption) | exact ko4o (only_alloc _ _ _) (by assumption) | exact ko4o (only_of_grown hg5 (fun y e => .inl e)) (by assumption) | exact ko4o (only_set (.inr rfl) _) (by assumption)
      clear hK K1
      try simp only [List.getElem_toArray]
      try simp only [List.getElem_cons_succ]
      try simp only [List.getElem_cons_zero]
      try simp only [Act.put]
      try simp only [List.setIfInBounds_toArray]
      try simp only [List.set_cons_succ]
      try simp only [List.set_cons_zero]
      refine wpAnyH_ready (rs := [1, 8]) (by kernel_rfl) (by simp) ?_
      refine AllReadyH.cons rfl (fun K1 hK => ?_) (AllReadyH.cons rfl (fun K1 hK => ?_) AllReadyH.nil)
      ·skip
       go_simp
       try go_wp2_with fail
       refine hK.out _ _ ?_ (fun hHeld => ?_)
       ·first | assumption | exact ko4 ⟨T0.out.cells, only_drew _ _ 1⟩ | exact ko4o (only_of_below hbC _) (by assumption) | exact ko4o (only_alloc _ _ _) (by assumption) | exact ko4o (only_of_grown hg5 (fun y e => .inl e)) (by assumption) | exact ko4o (only_set (.inr rfl) _) (by assumption)
       clear hK K1
       try simp only [List.getElem_toArray]
       try simp only [List.getElem_cons_succ]
       try simp only [List.getElem_cons_zero]
       try simp only [Act.put]
       try simp only [List.setIfInBounds_toArray]
       try simp only [List.set_cons_succ]
       try simp only [List.set_cons_zero]
       refine wpAnyH_ready (rs := [8]) (by kernel_rfl) (by simp) ?_
       refine AllReadyH.cons rfl (fun K1 hK => ?_) AllReadyH.nil
       go_simp
       try go_wp2_with fail
       refine hK.out _ _ ?_ (fun hHeld => ?_)
       ·first | assumption | exact ko4 ⟨T0.out.cells, only_drew _ _ 1⟩ | exact ko4o (only_of_below hbC _) (by assumption) | exact ko4o (only_alloc _ _ _) (by assumption) | exact ko4o (only_of_grown hg5 (fun y e => .inl e)) (by assumption) | exact ko4o (only_set (.inr rfl) _) (by assumption)
       clear hK K1
       try simp only [List.getElem_toArray]
       try simp only [List.getElem_cons_succ]
       try simp only [List.getElem_cons_zero]
       try simp only [Act.put]
       try simp only [List.setIfInBounds_toArray]
       try simp only [List.set_cons_succ]
       try simp only [List.set_cons_zero]
       refine wpAnyH_ready (rs := [9]) (by kernel_rfl) (by simp) ?_
       refine AllReadyH.cons rfl (fun K1 hK => ?_) AllReadyH.nil
       refine step_append_str1 rfl _ _ rfl _ nkx _ rfl (HOW.out _ _ hbC) _ (tAt ks (k' + 1)).least rfl (by simp) hkx2 w1.heap.size 1 _ (hq2 _) (HFK.out _ _ hbC) hnbx ?_
       intro a5 n5 c5 w5 hO5 hg5 ha5 hc5 hf5
       refine hK.out _ _ ?_ (fun hHeld => ?_)
       ·first | assumption | exact ko4 ⟨T0.out.cells, only_drew _ _ 1⟩ | exact ko4o (only_of_below hbC _) (by assumption) | exact ko4o (only_alloc _ _ _) (by assumption) | exact ko4o (only_of_grown hg5 (fun y e => .inl e)) (by assumption) | exact ko4o (only_set (.inr rfl) _) (by assumption)
       clear hK K1
       try simp only [List.getElem_toArray]
       try simp only [List.getElem_cons_succ]
       try simp only [List.getElem_cons_zero]
       try simp only [Act.put]
       try simp only [List.setIfInBounds_toArray]
       try simp only [List.set_cons_succ]
       try simp only [List.set_cons_zero]
       refine wpAnyH_ready (rs := [10]) (by kernel_rfl) (by simp) ?_
       refine AllReadyH.cons rfl (fun K1 hK => ?_) AllReadyH.nil
       go_simp
       try go_wp2_with fail
       refine hK.out _ _ ?_ (fun hHeld => ?_)
       ·first | assumption | exact ko4 ⟨T0.out.cells, only_drew _ _ 1⟩ | exact ko4o (only_of_below hbC _) (by assumption) | exact ko4o (only_alloc _ _ _) (by assumption) | exact ko4o (only_of_grown hg5 (fun y e => .inl e)) (by assumption) | exact ko4o (only_set (.inr rfl) _) (by assumption)
       clear hK K1
       try simp only [List.getElem_toArray]
       try simp only [List.getElem_cons_succ]
       try simp only [List.getElem_cons_zero]
       try simp only [Act.put]
       try simp only [List.setIfInBounds_toArray]
       try simp only [List.set_cons_succ]
       try simp only [List.set_cons_zero]
       refine wpAnyH_ready (rs := [11]) (by kernel_rfl) (by simp) ?_
       refine AllReadyH.cons rfl (fun K1 hK => ?_) AllReadyH.nil
       go_simp
       try go_wp2_with fail
       refine hK.out _ _ ?_ (fun hHeld => ?_)
       ·first | assumption | exact ko4 ⟨T0.out.cells, only_drew _ _ 1⟩ | exact ko4o (only_of_below hbC _) (by assumption) | exact ko4o (only_alloc _ _ _) (by assumption) | exact ko4o (only_of_grown hg5 (fun y e => .inl e)) (by assumption) | exact ko4o (only_set (.inr rfl) _) (by assumption)
       clear hK K1
       try simp only [List.getElem_toArray]
       try simp only [List.getElem_cons_succ]
       try simp only [List.getElem_cons_zero]
       try simp only [Act.put]
       try simp only [List.setIfInBounds_toArray]
       try simp only [List.set_cons_succ]
       try simp only [List.set_cons_zero]
       refine wpAnyH_done (by kernel_rfl) ?_ _
       refine NoPanic.normal ?_
       have HLX := hid (HFIN.out _ _ hbC _ _ _ _ hO5 hg5 ha5)
       clear hO5 hg5 ha5 hc5 hf5 hbC hq1 hq2 HFIN HFK HCK HOW HLE T0 hgk hpb hnbx HL2 z2 zf n1c n1f pp2 x0 x1 x2 hHeld
       -- the kid's nodes
       have HSUBX := hid (HSUB.out.to HLX.out.only (fun y hy _ e => HSV.out y hy.1 e))
       obtain ⟨gk9, ofk9, hak, _, _, hkid⟩ := HSUBX.out.kids (by omega)
       cases hak
       obtain ⟨l9, ap9, np9, cp9, ak9, nk9, ck9, x0, x1, x2, hs1⟩ := hkid (k' + 1) hlt
       have HS1 := hid hs1
       have pp2 := HLX.out.par.cell (j := 2) rfl
       have HLEN : Hid ((ns ++ ⟨[], [], []⟩ :: layL (ns.length + 1) (ks.take (k' + 1))).length = ns.length + 1 + szL (ks.take (k' + 1))) := by show _ = _; simp [layL_length]; omega
       have HEQ : Hid ((ns ++ ⟨[], [], []⟩ :: layL (ns.length + 1) (ks.take (k' + 1))) ++ lay (ns ++ ⟨[], [], []⟩ :: layL (ns.length + 1) (ks.take (k' + 1))).length (tAt ks (k' + 1)) = ns ++ ⟨[], [], []⟩ :: layL (ns.length + 1) (ks.take (k' + 1 + 1))) := by
        show _ = _
        rw [HLEN.out, layL_take ks (k' + 1) (ns.length + 1) hks]
        simp
       have HBND : Hid ((ns ++ ⟨[], [], []⟩ :: layL (ns.length + 1) (ks.take (k' + 1))).length + (tAt ks (k' + 1)).size ≤ 1048576) := by
        show _ ≤ _
        have h1 := szL_take_le ks (k' + 1 + 1)
        rw [szL_take ks (k' + 1) hks] at h1
        have h2 := HSZK.out
        rw [HLEN.out]
        omega
       have HVS : Hid (∀ y, (S y ∧ y < w.heap.size) → (Value.slice a' n' c').ownBlock ≠ some y) := by
        intro y hy e
        rcases (HLX.out.vb y e).1 with h | h
        ·exact HSV.out y hy.1 h
        ·omega
       simp only [T.ks] at HS1
       clear hkid hs1 HSUBX
       go_wp2_with fail
       refine (HIH.out (tAt ks (k' + 1)) (tAt_mem hks) (fun y => S y ∧ y < w.heap.size) l9 ap9 ak9 np9 cp9 nk9 ck9 _ Fk a' n' c' (ns ++ ⟨[], [], []⟩ :: layL (ns.length + 1) (ks.take (k' + 1))) false HS1.out HVS.out HLX.out.nodes HBND.out (HBR.out.2.2.2 _ (tAt_mem hks))).mono ?_
       rintro e w9 ⟨v9, rfl, hN9, ho9, hv9⟩
       rw [HEQ.out] at hN9
       obtain ⟨aZ, nZ, cZ, e9, _⟩ := hN9.shape
       subst e9
       have HL9 := hid (HLX.out.sub hN9 ho9 hv9)
       clear hN9 ho9 hv9 x0 x1 x2 pp2 HLX HS1
       go_wp2
       go_roundw
       case rel => exact ⟨k' + 1 + 1, aZ, nZ, cZ, _, _, _, by omega, by go_num, rfl, HL9.out⟩
       case measure => simp [intOf]; omega
      ·skip
       go_simp
       try go_wp2_with fail
       refine hK.out _ _ ?_ (fun hHeld => ?_)
       ·first | assumption | exact ko4 ⟨T0.out.cells, only_drew _ _ 1⟩ | exact ko4o (only_of_below hbC _) (by assumption) | exact ko4o (only_alloc _ _ _) (by assumption) | exact ko4o (only_of_grown hg5 (fun y e => .inl e)) (by assumption) | exact ko4o (only_set (.inr rfl) _) (by assumption)
       clear hK K1
       try simp only [List.getElem_toArray]
       try simp only [List.getElem_cons_succ]
       try simp only [List.getElem_cons_zero]
       try simp only [Act.put]
       try simp only [List.setIfInBounds_toArray]
       try simp only [List.set_cons_succ]
       try simp only [List.set_cons_zero]
       refine wpAnyH_ready (rs := [1]) (by kernel_rfl) (by simp) ?_
       refine AllReadyH.cons rfl (fun K1 hK => ?_) AllReadyH.nil
       go_simp
       try go_wp2_with fail
       refine hK.out _ _ ?_ (fun hHeld => ?_)
       ·first | assumption | exact ko4 ⟨T0.out.cells, only_drew _ _ 1⟩ | exact ko4o (only_of_below hbC _) (by assumption) | exact ko4o (only_alloc _ _ _) (by assumption) | exact ko4o (only_of_grown hg5 (fun y e => .inl e)) (by assumption) | exact ko4o (only_set (.inr rfl) _) (by assumption)
       clear hK K1
       try simp only [List.getElem_toArray]
       try simp only [List.getElem_cons_succ]
       try simp only [List.getElem_cons_zero]
       try simp only [Act.put]
       try simp only [List.setIfInBounds_toArray]
       try simp only [List.set_cons_succ]
       try simp only [List.set_cons_zero]
       refine wpAnyH_ready (rs := [9]) (by kernel_rfl) (by simp) ?_
       refine AllReadyH.cons rfl (fun K1 hK => ?_) AllReadyH.nil
       refine step_append_str1 rfl _ _ rfl _ nkx _ rfl (HOW.out _ _ hbC) _ (tAt ks (k' + 1)).least rfl (by simp) hkx2 w1.heap.size 1 _ (hq2 _) (HFK.out _ _ hbC) hnbx ?_
       intro a5 n5 c5 w5 hO5 hg5 ha5 hc5 hf5
       refine hK.out _ _ ?_ (fun hHeld => ?_)
       ·first | assumption | exact ko4 ⟨T0.out.cells, only_drew _ _ 1⟩ | exact ko4o (only_of_below hbC _) (by assumption) | exact ko4o (only_alloc _ _ _) (by assumption) | exact ko4o (only_of_grown hg5 (fun y e => .inl e)) (by assumption) | exact ko4o (only_set (.inr rfl) _) (by assumption)
       clear hK K1
       try simp only [List.getElem_toArray]
       try simp only [List.getElem_cons_succ]
       try simp only [List.getElem_cons_zero]
       try simp only [Act.put]
       try simp only [List.setIfInBounds_toArray]
       try simp only [List.set_cons_succ]
       try simp only [List.set_cons_zero]
       refine wpAnyH_ready (rs := [10]) (by kernel_rfl) (by simp) ?_
       refine AllReadyH.cons rfl (fun K1 hK => ?_) AllReadyH.nil
       go_simp
       try go_wp2_with fail
       refine hK.out _ _ ?_ (fun hHeld => ?_)
       ·first | assumption | exact ko4 ⟨T0.out.cells, only_drew _ _ 1⟩ | exact ko4o (only_of_below hbC _) (by assumption) | exact ko4o (only_alloc _ _ _) (by assumption) | exact ko4o (only_of_grown hg5 (fun y e => .inl e)) (by assumption) | exact ko4o (only_set (.inr rfl) _) (by assumption)
       clear hK K1
       try simp only [List.getElem_toArray]
       try simp only [List.getElem_cons_succ]
       try simp only [List.getElem_cons_zero]
       try simp only [Act.put]
       try simp only [List.setIfInBounds_toArray]
       try simp only [List.set_cons_succ]
       try simp only [List.set_cons_zero]
       refine wpAnyH_ready (rs := [11]) (by kernel_rfl) (by simp) ?_
       refine AllReadyH.cons rfl (fun K1 hK => ?_) AllReadyH.nil
       go_simp
       try go_wp2_with fail
       refine hK.out _ _ ?_ (fun hHeld => ?_)
       ·first | assumption | exact ko4 ⟨T0.out.cells, only_drew _ _ 1⟩ | exact ko4o (only_of_below hbC _) (by assumption) | exact ko4o (only_alloc _ _ _) (by assumption) | exact ko4o (only_of_grown hg5 (fun y e => .inl e)) (by assumption) | exact ko4o (only_set (.inr rfl) _) (by assumption)
       clear hK K1
       try simp only [List.getElem_toArray]
       try simp only [List.getElem_cons_succ]
       try simp only [List.getElem_cons_zero]
       try simp only [Act.put]
       try simp only [List.setIfInBounds_toArray]
       try simp only [List.set_cons_succ]
       try simp only [List.set_cons_zero]
       refine wpAnyH_done (by kernel_rfl) ?_ _
       refine NoPanic.normal ?_
       have HLX := hid (HFIN.out _ _ hbC _ _ _ _ hO5 hg5 ha5)
       clear hO5 hg5 ha5 hc5 hf5 hbC hq1 hq2 HFIN HFK HCK HOW HLE T0 hgk hpb hnbx HL2 z2 zf n1c n1f pp2 x0 x1 x2 hHeld
       -- the kid's nodes
       have HSUBX := hid (HSUB.out.to HLX.out.only (fun y hy _ e => HSV.out y hy.1 e))
       obtain ⟨gk9, ofk9, hak, _, _, hkid⟩ := HSUBX.out.kids (by omega)
       cases hak
       obtain ⟨l9, ap9, np9, cp9, ak9, nk9, ck9, x0, x1, x2, hs1⟩ := hkid (k' + 1) hlt
       have HS1 := hid hs1
       have pp2 := HLX.out.par.cell (j := 2) rfl
       have HLEN : Hid ((ns ++ ⟨[], [], []⟩ :: layL (ns.length + 1) (ks.take (k' + 1))).length = ns.length + 1 + szL (ks.take (k' + 1))) := by show _ = _; simp [layL_length]; omega
       have HEQ : Hid ((ns ++ ⟨[], [], []⟩ :: layL (ns.length + 1) (ks.take (k' + 1))) ++ lay (ns ++ ⟨[], [], []⟩ :: layL (ns.length + 1) (ks.take (k' + 1))).length (tAt ks (k' + 1)) = ns ++ ⟨[], [], []⟩ :: layL (ns.length + 1) (ks.take (k' + 1 + 1))) := by
        show _ = _
        rw [HLEN.out, layL_take ks (k' + 1) (ns.length + 1) hks]
        simp
       have HBND : Hid ((ns ++ ⟨[], [], []⟩ :: layL (ns.length + 1) (ks.take (k' + 1))).length + (tAt ks (k' + 1)).size ≤ 1048576) := by
        show _ ≤ _
        have h1 := szL_take_le ks (k' + 1 + 1)
        rw [szL_take ks (k' + 1) hks] at h1
        have h2 := HSZK.out
        rw [HLEN.out]
        omega
       have HVS : Hid (∀ y, (S y ∧ y < w.heap.size) → (Value.slice a' n' c').ownBlock ≠ some y) := by
        intro y hy e
        rcases (HLX.out.vb y e).1 with h | h
        ·exact HSV.out y hy.1 h
        ·omega
       simp only [T.ks] at HS1
       clear hkid hs1 HSUBX
       go_wp2_with fail
       refine (HIH.out (tAt ks (k' + 1)) (tAt_mem hks) (fun y => S y ∧ y < w.heap.size) l9 ap9 ak9 np9 cp9 nk9 ck9 _ Fk a' n' c' (ns ++ ⟨[], [], []⟩ :: layL (ns.length + 1) (ks.take (k' + 1))) false HS1.out HVS.out HLX.out.nodes HBND.out (HBR.out.2.2.2 _ (tAt_mem hks))).mono ?_
       rintro e w9 ⟨v9, rfl, hN9, ho9, hv9⟩
       rw [HEQ.out] at hN9
       obtain ⟨aZ, nZ, cZ, e9, _⟩ := hN9.shape
       subst e9
       have HL9 := hid (HLX.out.sub hN9 ho9 hv9)
       clear hN9 ho9 hv9 x0 x1 x2 pp2 HLX HS1
       go_wp2
       go_roundw
       case rel => exact ⟨k' + 1 + 1, aZ, nZ, cZ, _, _, _, by omega, by go_num, rfl, HL9.out⟩
       case measure => simp [intOf]; omega
   ·have hk' : k = nk := by omega
    have HTK : Hid (ks.take k = ks) := by show _ = _; rw [hk', HNK.out, List.take_length]
    rw [HTK.out] at HL
    obtain ⟨g', ha', HNn⟩ := HL.out.nodes.rowAt (by simp; omega)
    subst ha'
    obtain ⟨akx, ckx, hkx⟩ := own_shape HL.out.rx
    generalize (ks.tail.map T.least).length = nkx at hkx
    subst hkx
    obtain ⟨aki, cki, hki⟩ := own_shape HL.out.ri
    generalize (places (ns.length + 1) ks).length = nki at hki
    subst hki
    have n0 := HL.out.nod.cell (j := 0) rfl
    have n1c := HL.out.nod.cell (j := 1) rfl
    have n2c := HL.out.nod.cell (j := 2) rfl
    obtain ⟨⟨x0, x1, x2, m0, m1, m2⟩, mf⟩ := HL.out.nodes.cells ns.length (by simp)
    rw [← HNV.out] at m0 m1 m2
    have mf0 := mf (nv * 3)
    have mf1 := mf (nv * 3 + 1)
    have mf2 := mf (nv * 3 + 2)
    have hltn : (nv : Int) < (n' : Int) := by
     have h1 := HNn.out
     simp at h1
     have h2 := HNV.out
     omega
    have HFIN : Hid (NO (((wr.setCell ⟨g', nv * 3, none⟩ (.slice none 0 0)).setCell ⟨g', nv * 3 + 1, none⟩ (.slice akx nkx ckx)).setCell ⟨g', nv * 3 + 2, none⟩ (.slice aki nki cki)) (fun y => F y ∨ (w.heap.size ≤ y ∧ y < (((wr.setCell ⟨g', nv * 3, none⟩ (.slice none 0 0)).setCell ⟨g', nv * 3 + 1, none⟩ (.slice akx nkx ckx)).setCell ⟨g', nv * 3 + 2, none⟩ (.slice aki nki cki)).heap.size ∧ (Value.slice (some ⟨g', 0, none⟩) n' c').ownBlock ≠ some y)) (.slice (some ⟨g', 0, none⟩) n' c') (ns ++ ⟨[], ks.tail.map T.least, places (ns.length + 1) ks⟩ :: layL (ns.length + 1) ks)) := by
     have hz : (((wr.setCell ⟨g', nv * 3, none⟩ (.slice none 0 0)).setCell ⟨g', nv * 3 + 1, none⟩ (.slice akx nkx ckx)).setCell ⟨g', nv * 3 + 2, none⟩ (.slice aki nki cki)).heap.size = wr.heap.size := by simp [World.setCell]
     rw [hz]
     have hG : ∀ y, (fun y => F y ∨ (w.heap.size ≤ y ∧ y < wr.heap.size ∧ (Value.slice (some ⟨g', 0, none⟩) n' c').ownBlock ≠ some y)) y → y < wr.heap.size ∧ (Value.slice (some ⟨g', 0, none⟩) n' c').ownBlock ≠ some y := by
      rintro y (hy | hy)
      ·obtain ⟨V, _, _, _, n4, _⟩ := HL.out.nodes
       exact n4 y (HL.out.ff y hy)
      ·exact hy.2
     have hbl : ∀ y, bl (.slice none 0 0, .slice akx nkx ckx, .slice aki nki cki) y → (w.heap.size ≤ y ∧ y < wr.heap.size ∧ (Value.slice (some ⟨g', 0, none⟩) n' c').ownBlock ≠ some y) := by
      rintro y (e | e | e)
      ·cases e
      ·exact ⟨by have := (HL.out.xb y e).1; omega, (World.ownsRow.lt HL.out.rx y e).2, fun d => (HL.out.vb y d).2.2.1 e⟩
      ·exact ⟨by have := (HL.out.ib y e).1; omega, (World.ownsRow.lt HL.out.ri y e).2, fun d => (HL.out.vb y d).2.2.2 e⟩
     have hown : OwN wr (.slice none 0 0, .slice akx nkx ckx, .slice aki nki cki) ⟨[], ks.tail.map T.least, places (ns.length + 1) ks⟩ := ⟨World.ownsRow_nil _ _ _ _, HL.out.rx, HL.out.ri⟩
     have hp : N1K wr (fun y => F y ∨ (w.heap.size ≤ y ∧ y < wr.heap.size ∧ (Value.slice (some ⟨g', 0, none⟩) n' c').ownBlock ≠ some y)) (.slice none 0 0, .slice akx nkx ckx, .slice aki nki cki) ⟨[], ks.tail.map T.least, places (ns.length + 1) ks⟩ :=
      ⟨hown.n1 (fun y hy => .inr (hbl y hy)), hown, fun y => ⟨fun e => by (cases e), fun e => (HL.out.xb y e).2.2⟩, fun y hy => .inr (hbl y hy)⟩
     have := NO.put (ms := ns) (l := layL (ns.length + 1) ks) (z := ⟨[], [], []⟩) rfl HL.out.nodes (fun y hy => ?_) hG _ hp (fun y hy hf => ?_)
     ·rw [← HNV.out] at this
      rw [← HNV.out]
      exact this
     ·obtain ⟨V, _, _, _, n4, _⟩ := HL.out.nodes
      rcases (HL.out.fk y hy).1 with h | h
      ·exact .inl h
      ·exact .inr ⟨by omega, n4 y hy⟩
     ·rcases hy with e | e | e
      ·cases e
      ·exact (HL.out.fk y hf).2.2.1 e
      ·exact (HL.out.fk y hf).2.2.2 e
    have HOF : Hid (Only (fun y => (Value.slice av nv cv).ownBlock = some y) w (((wr.setCell ⟨g', nv * 3, none⟩ (.slice none 0 0)).setCell ⟨g', nv * 3 + 1, none⟩ (.slice akx nkx ckx)).setCell ⟨g', nv * 3 + 2, none⟩ (.slice aki nki cki))) := by
     refine HL.out.only.then (((only_set (R := fun y => y = g') rfl _).trans (only_set (R := fun y => y = g') rfl _)).trans (only_set (R := fun y => y = g') rfl _)) (fun y hy e => ?_)
     subst e
     rcases (HL.out.vb y rfl).1 with h | h
     ·exact h
     ·omega
    have HVB : Hid (∀ y, (Value.slice (some ⟨g', 0, none⟩) n' c').ownBlock = some y → (Value.slice av nv cv).ownBlock = some y ∨ w.heap.size ≤ y) := fun y hy => (HL.out.vb y hy).1.imp id (fun h => by omega)
    clear hk' HL mf HNn
    go_wp2
    go_ret
    refine ⟨_, rfl, ?_, HOF.out, HVB.out⟩
    rw [HLY.out]
    exact HFIN.out
open Go.RowKit
theorem neq_pair (a b c d : ByteArray) (w : World) : (binOp .neq 112 (.agg #[.string a, .string b]) (.agg #[.string c, .string d])).run Tryz.prog w = .ok (.bool (!decide ((a, b) = (c, d)))) w := by
 have u9 := Tryz.underlying9
 have hS : Tryz.prog.underlying 112 = some (.struct (Tryz.prog.fieldsOf 112)) := by kernel_rfl
 have hp : Tryz.prog.stoodInHeld 112 = false := by kernel_rfl
 rw [run_neq_struct, show (10000 : Nat) = 9999 + 1 from rfl, run_equalIn_agg w 9999 112 _ _ hS hp]
 simp only [Program.fieldsOf, Tryz.underlying112]
 by_cases h1 : a = c
 ·subst h1
  by_cases h2 : b = d
  ·subst h2
   rw [decide_eq_true rfl]
   go_simp
  ·have t2 := str_beq h2
   rw [decide_eq_false (by simp [h2])]
   clear h2
   go_simp
 ·have t1 := str_beq h1
  rw [decide_eq_false (by simp [h1])]
  clear h1
  go_simp
set_option maxHeartbeats 8000000 in
theorem sameNode_any (S S' : Nat → Prop) (ap ax ai ap' ax' ai' : Option Addr) (np cp nx cx ni ci np' cp' nx' cx' ni' ci' : Nat) (x y : NB) (w : World)
  (hP : Pr w S (.slice ap np cp) x.ps) (hS : Sr w S (.slice ax nx cx) x.keys) (hI : Ir w S (.slice ai ni ci) x.kids) (hP' : Pr w S' (.slice ap' np' cp') y.ps) (hS' : Sr w S' (.slice ax' nx' cx') y.keys) (hI' : Ir w S' (.slice ai' ni' ci') y.kids) :
  Calls Tryz.prog 71 #[.agg #[.slice ap np cp, .slice ax nx cx, .slice ai ni ci], .agg #[.slice ap' np' cp', .slice ax' nx' cx', .slice ai' ni' ci']] w fun e w' => e = .returned (.bool (decide (x = y))) ∧ Below w.heap.size w w' := by
 have HP := hid hP
 have HS := hid hS
 have HI := hid hI
 have HP' := hid hP'
 have HS' := hid hS'
 have HI' := hid hI'
 have lp := hid (Rw.len hP).1
 have ls := hid (Rw.len hS).1
 have li := hid (Rw.len hI).1
 have lp' := hid (Rw.len hP').1
 have ls' := hid (Rw.len hS').1
 have li' := hid (Rw.len hI').1
 have b1 := (Rw.len hP).2
 have b2 := (Rw.len hS).2
 have b3 := (Rw.len hI).2
 have b1' := (Rw.len hP').2
 have b2' := (Rw.len hS').2
 have b3' := (Rw.len hI').2
 clear hP hS hI hP' hS' hI'
 have HB0 : Hid (Below w.heap.size w ((w.alloc (.cells #[.slice ap np cp, .slice ax nx cx, .slice ai ni ci] 85)).alloc (.cells #[.slice ap' np' cp', .slice ax' nx' cx', .slice ai' ni' ci'] 85))) := below_new (below_new (Below.refl _ _))
 have KA : Hid (Bk ((w.alloc (.cells #[.slice ap np cp, .slice ax nx cx, .slice ai ni ci] 85)).alloc (.cells #[.slice ap' np' cp', .slice ax' nx' cx', .slice ai' ni' ci'] 85)) w.heap.size 85 [.slice ap np cp, .slice ax nx cx, .slice ai ni ci]) := (Bk.new w 85 [.slice ap np cp, .slice ax nx cx, .slice ai ni ci]).alloc _
 have KB : Hid (Bk ((w.alloc (.cells #[.slice ap np cp, .slice ax nx cx, .slice ai ni ci] 85)).alloc (.cells #[.slice ap' np' cp', .slice ax' nx' cx', .slice ai' ni' ci'] 85)) (w.heap.size + 1) 85 [.slice ap' np' cp', .slice ax' nx' cx', .slice ai' ni' ci']) := by
  have := Bk.new (w.alloc (.cells #[.slice ap np cp, .slice ax nx cx, .slice ai ni ci] 85)) 85 [.slice ap' np' cp', .slice ax' nx' cx', .slice ai' ni' ci']
  show Bk _ _ _ _
  simpa using this
 by_cases h1 : np = np'
 ·have e1 : ((np : Int) != (np' : Int)) = false := by simp [h1]
  by_cases h2 : nx = nx'
  ·have e2 : ((nx : Int) != (nx' : Int)) = false := by simp [h2]
   by_cases h3 : ni = ni'
   ·have e3 : ((ni : Int) != (ni' : Int)) = false := by simp [h3]
    subst h1 h2 h3
    have HXY : Hid (x.ps = y.ps → x.keys = y.keys → x.kids = y.kids → decide (x = y) = true) := by
     intro q1 q2 q3
     rw [decide_eq_true_eq]
     cases x; cases y; simp_all
    have HNE : Hid (∀ (P : Prop), (x = y → P) → ¬ P → decide (x = y) = false) := fun P q1 q2 => decide_eq_false (fun e => q2 (q1 e))
    go_enter Tryz.func71, Tryz.ntmps71
    go_wp2_with fail
    generalize (w.alloc (.cells #[.slice ap np cp, .slice ax nx cx, .slice ai ni ci] 85)).alloc (.cells #[.slice ap' np cp', .slice ax' nx cx', .slice ai' ni ci'] 85) = u at *
    have a0 := KA.out.cell (j := 0) rfl
    have a1 := KA.out.cell (j := 1) rfl
    have a2 := KA.out.cell (j := 2) rfl
    have d0 := KB.out.cell (j := 0) rfl
    have d1 := KB.out.cell (j := 1) rfl
    have d2 := KB.out.cell (j := 2) rfl
    have HPu := hid (HP.out.below HB0.out)
    have HPu' := hid (HP'.out.below HB0.out)
    have HSu := hid (HS.out.below HB0.out)
    have HSu' := hid (HS'.out.below HB0.out)
    have HIu := hid (HI.out.below HB0.out)
    have HIu' := hid (HI'.out.below HB0.out)
    clear KA KB HP HP' HS HS' HI HI'
    go_loopw [36] (fun i wr => ∃ k q : Nat, k ≤ np ∧ i = .int .i64 k ∧ wr = u.drewN q ∧ Hid (x.ps.take k = y.ps.take k)) (fun i _ => np - (intOf i).toNat)
    case atStart => exact ⟨0, 0, Nat.zero_le _, rfl, rfl, rfl⟩
    case round =>
     obtain ⟨k, q, hk, rfl, rfl, HT⟩ := hrel
     by_cases hlt : k < np
     ·have hlt' : (k : Int) < (np : Int) := by omega
      obtain ⟨g, off, hap, _, _, hc⟩ := HPu.out.at (by omega)
      obtain ⟨g', off', hap', _, _, hc'⟩ := HPu'.out.at (by omega)
      subst hap hap'
      have m0 := (hc k hlt).1
      have m1 := (hc k hlt).2
      have m0' := (hc' k hlt).1
      have m1' := (hc' k hlt).2
      have HSS : Hid (pAtB x.ps k = pAtB y.ps k → x.ps.take (k + 1) = y.ps.take (k + 1)) := by
       intro e
       have hl : k < x.ps.length := by rw [← lp.out]; exact hlt
       have hl' : k < y.ps.length := by rw [← lp'.out]; exact hlt
       rw [List.take_succ_eq_append_getElem hl, List.take_succ_eq_append_getElem hl', HT.out]
       simp [pAtB, hl, hl'] at e
       rw [e]
      have HFF : Hid (pAtB x.ps k ≠ pAtB y.ps k → decide (x = y) = false) := fun e => HNE.out _ (fun q => by rw [q]) e
      clear hc hc'
      generalize pAtB x.ps k = cx1 at *
      generalize pAtB y.ps k = cx2 at *
      obtain ⟨k1, v1⟩ := cx1
      obtain ⟨k2, v2⟩ := cx2
      have hnq := neq_pair k1 v1 k2 v2
      by_cases he : (k1, v1) = (k2, v2)
      ·have HS1 := hid (HSS.out he)
       rw [decide_eq_true he] at hnq
       clear he HSS HFF
       go_wp2_with fail
       go_quiet (fail)
       go_wp2
       go_roundw
       case rel => exact ⟨k + 1, q + nq, by omega, by go_num, rfl, HS1.out⟩
       case measure => simp [intOf]; omega
      ·have HF1 := hid (HFF.out he)
       rw [decide_eq_false he] at hnq
       clear he HSS HFF
       go_wp2_with fail
       go_quiet (fail)
       go_wp2
       go_ret
       exact ⟨by rw [HF1.out]; rfl, Below.drewN' (Below.drewN' HB0.out _) _⟩
     ·have HQ1 : Hid (x.ps = y.ps) := by
       show _ = _
       have e := HT.out
       rwa [List.take_of_length_le (by rw [← lp.out]; omega), List.take_of_length_le (by rw [← lp'.out]; omega)] at e
      clear HT
      go_wp2_with fail
      go_loopw [54] (fun i wr => ∃ k q : Nat, k ≤ nx ∧ i = .int .i64 k ∧ wr = u.drewN q ∧ Hid (x.keys.take k = y.keys.take k)) (fun i _ => nx - (intOf i).toNat)
      case atStart => exact ⟨0, q, Nat.zero_le _, rfl, rfl, rfl⟩
      case round =>
       clear hk hlt
       obtain ⟨k, q, hk, rfl, rfl, HT⟩ := hrel
       by_cases hlt : k < nx
       ·have hlt' : (k : Int) < (nx : Int) := by omega
        obtain ⟨g, off, hap, _, _, hc⟩ := HSu.out.at (by omega)
        obtain ⟨g', off', hap', _, _, hc'⟩ := HSu'.out.at (by omega)
        subst hap hap'
        have m0 := hc k hlt
        have m0' := hc' k hlt
        have HSS : Hid (sAt x.keys k = sAt y.keys k → x.keys.take (k + 1) = y.keys.take (k + 1)) := by
         intro e
         have hl : k < x.keys.length := by rw [← ls.out]; exact hlt
         have hl' : k < y.keys.length := by rw [← ls'.out]; exact hlt
         rw [List.take_succ_eq_append_getElem hl, List.take_succ_eq_append_getElem hl', HT.out]
         simp [sAt, hl, hl'] at e
         rw [e]
        have HFF : Hid (sAt x.keys k ≠ sAt y.keys k → decide (x = y) = false) := fun e => HNE.out _ (fun q => by rw [q]) e
        clear hc hc'
        generalize sAt x.keys k = k1 at *
        generalize sAt y.keys k = k2 at *
        by_cases he : k1 = k2
        ·have HS1 := hid (HSS.out he)
         subst he
         skip
         clear HSS HFF
         go_wp2_with fail
         go_quiet (fail)
         go_wp2
         go_roundw
         case rel => exact ⟨k + 1, q + nq, by omega, by go_num, rfl, HS1.out⟩
         case measure => simp [intOf]; omega
        ·have HF1 := hid (HFF.out he)
         have t := str_beq he
         clear he HSS HFF
         go_wp2_with fail
         go_quiet (fail)
         go_wp2
         go_ret
         exact ⟨by rw [HF1.out]; rfl, Below.drewN' (Below.drewN' HB0.out _) _⟩
       ·have HQ2 : Hid (x.keys = y.keys) := by
         show _ = _
         have e := HT.out
         rwa [List.take_of_length_le (by rw [← ls.out]; omega), List.take_of_length_le (by rw [← ls'.out]; omega)] at e
        clear HT
        go_wp2_with fail
        go_loopw [72] (fun i wr => ∃ k q : Nat, k ≤ ni ∧ i = .int .i64 k ∧ wr = u.drewN q ∧ Hid (x.kids.take k = y.kids.take k)) (fun i _ => ni - (intOf i).toNat)
        case atStart => exact ⟨0, q, Nat.zero_le _, rfl, rfl, rfl⟩
        case round =>
         clear hk hlt
         obtain ⟨k, q, hk, rfl, rfl, HT⟩ := hrel
         by_cases hlt : k < ni
         ·have hlt' : (k : Int) < (ni : Int) := by omega
          obtain ⟨g, off, hap, _, _, hc⟩ := HIu.out.at (by omega)
          obtain ⟨g', off', hap', _, _, hc'⟩ := HIu'.out.at (by omega)
          subst hap hap'
          have m0 := hc k hlt
          have m0' := hc' k hlt
          have HSS : Hid (iAt x.kids k = iAt y.kids k → x.kids.take (k + 1) = y.kids.take (k + 1)) := by
           intro e
           have hl : k < x.kids.length := by rw [← li.out]; exact hlt
           have hl' : k < y.kids.length := by rw [← li'.out]; exact hlt
           rw [List.take_succ_eq_append_getElem hl, List.take_succ_eq_append_getElem hl', HT.out]
           simp [iAt, hl, hl'] at e
           rw [e]
          have HFF : Hid (iAt x.kids k ≠ iAt y.kids k → decide (x = y) = false) := fun e => HNE.out _ (fun q => by rw [q]) e
          clear hc hc'
          generalize iAt x.kids k = k1 at *
          generalize iAt y.kids k = k2 at *
          by_cases he : k1 = k2
          ·have HS1 := hid (HSS.out he)
           subst he
           have t : (k1 != k1) = false := by simp
           clear HSS HFF
           go_wp2_with fail
           go_quiet (fail)
           go_wp2
           go_roundw
           case rel => exact ⟨k + 1, q + nq, by omega, by go_num, rfl, HS1.out⟩
           case measure => simp [intOf]; omega
          ·have HF1 := hid (HFF.out he)
           have t : (k1 != k2) = true := by simp [he]
           clear he HSS HFF
           go_wp2_with fail
           go_quiet (fail)
           go_wp2
           go_ret
           exact ⟨by rw [HF1.out]; rfl, Below.drewN' (Below.drewN' HB0.out _) _⟩
         ·have HQ3 : Hid (x.kids = y.kids) := by
           show _ = _
           have e := HT.out
           rwa [List.take_of_length_le (by rw [← li.out]; omega), List.take_of_length_le (by rw [← li'.out]; omega)] at e
          clear HT
          have HF := hid (HXY.out HQ1.out HQ2.out HQ3.out)
          go_wp2
          go_ret
          exact ⟨by rw [HF.out]; rfl, Below.drewN' HB0.out _⟩
   ·have HF : Hid (decide (x = y) = false) := by
     show _ = _
     rw [decide_eq_false_iff_not]
     rintro rfl
     exact h3 (by rw [li.out, li'.out])
    have e3 : ((ni : Int) != (ni' : Int)) = true := by simp; omega
    clear h3
    go_enter Tryz.func71, Tryz.ntmps71
    go_wp2
    go_ret
    exact ⟨by rw [HF.out]; rfl, below_new (below_new (Below.refl _ _))⟩
  ·have HF : Hid (decide (x = y) = false) := by
    show _ = _
    rw [decide_eq_false_iff_not]
    rintro rfl
    exact h2 (by rw [ls.out, ls'.out])
   have e2 : ((nx : Int) != (nx' : Int)) = true := by simp; omega
   clear h2
   go_enter Tryz.func71, Tryz.ntmps71
   go_wp2
   go_ret
   exact ⟨by rw [HF.out]; rfl, below_new (below_new (Below.refl _ _))⟩
 ·have HF : Hid (decide (x = y) = false) := by
   show _ = _
   rw [decide_eq_false_iff_not]
   rintro rfl
   exact h1 (by rw [lp.out, lp'.out])
  have e1 : ((np : Int) != (np' : Int)) = true := by simp; omega
  clear h1
  go_enter Tryz.func71, Tryz.ntmps71
  go_wp2
  go_ret
  exact ⟨by rw [HF.out]; rfl, below_new (below_new (Below.refl _ _))⟩
open Go.RowKit
theorem rdSL_info (f : Nat) (rd : Int → Option (T × Nat)) (hrd : ∀ a t n, rd a = some (t, n) → 0 ≤ a ∧ (n : Int) = a + t.size ∧ t.ht ≤ f) : ∀ (kids : List Int) (nx : Nat) (ts : List T) (n : Nat), rdSL rd kids nx = some (ts, n) → n = nx + szL ts ∧ htL ts ≤ f
 | [], nx, ts, n, h => by
  simp only [rdSL, Option.some.injEq, Prod.mk.injEq] at h
  obtain ⟨rfl, rfl⟩ := h
  simp [szL, htL]
 | k :: kids, nx, ts, n, h => by
  simp only [rdSL] at h
  split at h
  ·cases h
  ·rename_i he
   cases hr : rd k with
   | none => simp [hr] at h
   | some x =>
    obtain ⟨t, n1⟩ := x
    simp only [hr] at h
    cases hs : rdSL rd kids n1 with
    | none => simp [hs] at h
    | some y =>
     obtain ⟨ts', n2⟩ := y
     simp only [hs, Option.some.injEq, Prod.mk.injEq] at h
     obtain ⟨rfl, rfl⟩ := h
     have h1 := hrd k t n1 hr
     have h2 := rdSL_info f rd hrd kids n1 ts' n2 hs
     have he' : k = (nx : Int) := by
      by_cases q : k = (nx : Int)
      ·exact q
      ·exact absurd q he
     simp only [szL, htL]
     omega
theorem rdS_info (ns : List NB) : ∀ (f : Nat) (a : Int) (t : T) (n : Nat), rdS ns f a = some (t, n) → 0 ≤ a ∧ (n : Int) = a + t.size ∧ t.ht ≤ f
 | 0, a, t, n, h => by simp [rdS] at h
 | f + 1, a, t, n, h => by
  rw [rdS] at h
  split at h
  ·cases h
  ·rename_i hc
   cases hs : rdSL (rdS ns f) (nAt ns a.toNat).kids (a.toNat + 1) with
   | none => simp [hs] at h
   | some x =>
    obtain ⟨ts, n1⟩ := x
    simp only [hs, Option.some.injEq, Prod.mk.injEq] at h
    obtain ⟨rfl, rfl⟩ := h
    have := rdSL_info f (rdS ns f) (rdS_info ns f) _ _ _ _ hs
    simp only [T.size, T.ht]
    omega
theorem kc7 {u v : World} {a0 a1 a2 a3 a4 a5 a6 : Addr} {x0 x1 x2 x3 x4 x5 x6 : Value} (h : KC u v [(a0, x0), (a1, x1), (a2, x2), (a3, x3), (a4, x4), (a5, x5), (a6, x6)]) : v.cell? a0 = some x0 ∧ v.cell? a1 = some x1 ∧ v.cell? a2 = some x2 ∧ v.cell? a3 = some x3 ∧ v.cell? a4 = some x4 ∧ v.cell? a5 = some x5 ∧ v.cell? a6 = some x6 ∧ KC u v [(a0, x0), (a1, x1), (a2, x2), (a3, x3), (a4, x4), (a5, x5), (a6, x6)] := ⟨h.at (by simp), h.at (by simp), h.at (by simp), h.at (by simp), h.at (by simp), h.at (by simp), h.at (by simp), h⟩
theorem kc7c {u v v' : World} {a0 a1 a2 a3 a4 a5 a6 : Addr} {x0 x1 x2 x3 x4 x5 x6 : Value} (k : Below v.heap.size v v') (h : v.cell? a0 = some x0 ∧ v.cell? a1 = some x1 ∧ v.cell? a2 = some x2 ∧ v.cell? a3 = some x3 ∧ v.cell? a4 = some x4 ∧ v.cell? a5 = some x5 ∧ v.cell? a6 = some x6 ∧ KC u v [(a0, x0), (a1, x1), (a2, x2), (a3, x3), (a4, x4), (a5, x5), (a6, x6)]) : v'.cell? a0 = some x0 ∧ v'.cell? a1 = some x1 ∧ v'.cell? a2 = some x2 ∧ v'.cell? a3 = some x3 ∧ v'.cell? a4 = some x4 ∧ v'.cell? a5 = some x5 ∧ v'.cell? a6 = some x6 ∧ KC u v' [(a0, x0), (a1, x1), (a2, x2), (a3, x3), (a4, x4), (a5, x5), (a6, x6)] := kc7 (KC.call h.2.2.2.2.2.2.2 k)
set_option maxHeartbeats 8000000 in
theorem specTreeOk_any (ns : List NB) (hlen : ns.length ≤ 1048576) (hsm : smallN ns) (S : Nat → Prop) (an : Option Addr) (nn cn : Nat) (w : World) (hN : Nr w S (.slice an nn cn) ns) :
  Calls Tryz.prog 27 #[.agg #[.slice an nn cn]] w fun e w' => e = .returned (.bool (spOk ns)) ∧ Below w.heap.size w w' := by
 have hnn := hid hN.len.1
 have hnn2 := hN.len.2.1
 have hnn3 := hN.len.2.2
 have HN := hid hN
 clear hN
 have HB0 := hid (below_new (o := .cells #[.slice an nn cn] 33) (w := w) (Below.refl _ _))
 have KT := hid (Bk.new w 33 [.slice an nn cn])
 by_cases h0 : nn = 0
 ·have HR : Hid (spOk ns = true) := by show _ = _; rw [spOk, if_pos]; rw [← hnn.out]; exact h0
  clear HN hnn
  subst h0
  go_enter Tryz.func27, Tryz.ntmps27
  go_wp2
  go_ret
  exact ⟨by rw [HR.out]; rfl, HB0.out⟩
 ·have e1 : ((nn : Int) == 0) = false := by simp; omega
  by_cases h4 : 400 < nn
  ·have e2 : (400 : Int) < (nn : Int) := by omega
   have HR : Hid (spOk ns = false) := by show _ = _; rw [spOk, if_neg, if_pos] <;> rw [← hnn.out] <;> assumption
   clear h0 h4
   go_enter Tryz.func27, Tryz.ntmps27
   go_wp2
   go_ret
   exact ⟨by rw [HR.out]; rfl, HB0.out⟩
  ·have e2 : ¬ (400 : Int) < (nn : Int) := by omega
   have HRS : Hid (spOk ns = match rdS ns 13 0 with
     | none => false
     | some (t, n) => decide (n = ns.length) && t.full true && decide (0 ≤ t.dp) && pOk t.all && decide (lay 0 t = ns)) := by
    show _ = _
    rw [spOk, if_neg (by rw [← hnn.out]; exact h0), if_neg (by rw [← hnn.out]; exact h4)]
    try (cases rdS ns 13 0 <;> rfl)
   have HRT : Hid (rootS ns = match rdS ns 13 0 with
     | none => none
     | some (t, n) => if n = ns.length then some t else none) := by
    show _ = _
    rw [rootS, if_neg (by rw [← hnn.out]; exact h0)]
    try (cases rdS ns 13 0 <;> rfl)
   have hnl : nn ≤ 400 := by omega
   clear h0 h4
   go_enter Tryz.func27, Tryz.ntmps27
   go_wp2_with fail
   refine (specRoot_any ns hlen hsm S an nn cn _ (HN.out.below HB0.out)).mono ?_
   generalize w.alloc (.cells #[.slice an nn cn] 33) = U at *
   rintro e w1 ⟨hpost, hb1⟩
   have HB1 := hid (HB0.out.trans (hb1.mono HB0.out.size))
   have KT1 := hid (KT.out.below hb1)
   cases hr : rootS ns with
   | none =>
    rw [hr] at hpost
    obtain ⟨lf, ap, np, cp, ak, nk, ck, he⟩ := hpost
    subst he
    have HR : Hid (spOk ns = false) := by
     show _ = _
     rw [HRS.out]
     have h1 := HRT.out
     rw [hr] at h1
     cases hx : rdS ns 13 0 with
     | none => rfl
     | some x =>
      obtain ⟨t, n⟩ := x
      rw [hx] at h1
      simp only at h1 ⊢
      split at h1
      ·cases h1
      ·rename_i hn
       simp [hn]
    clear hb1 hr
    go_wp2
    go_ret
    exact ⟨by rw [HR.out]; rfl, HB1.out.alloc HB1.out.size _⟩
   | some t =>
    rw [hr] at hpost
    obtain ⟨lf, ap, np, cp, ak, nk, ck, he, hsub⟩ := hpost
    subst he
    have HRD : Hid (rdS ns 13 0 = some (t, ns.length)) := by
     show _ = _
     have h1 := HRT.out
     rw [hr] at h1
     cases hx : rdS ns 13 0 with
     | none => rw [hx] at h1; cases h1
     | some x =>
      obtain ⟨t', n⟩ := x
      rw [hx] at h1
      simp only at h1
      split at h1
      ·rename_i hn; cases h1; rw [hn]
      ·cases h1
    have HSP : Hid (spOk ns = (t.full true && decide (0 ≤ t.dp) && pOk t.all && decide (lay 0 t = ns))) := by
     show _ = _
     rw [HRS.out, HRD.out]
     simp
    have HTI := hid (rdS_info ns 13 0 t ns.length HRD.out)
    have HB2 := hid (HB1.out.alloc HB1.out.size (.cells #[.bool lf, .slice ap np cp, .slice ak nk ck] 115))
    have KT2 := hid (KT1.out.alloc (.cells #[.bool lf, .slice ap np cp, .slice ak nk ck] 115))
    have KS2 := hid (Bk.new w1 115 [.bool lf, .slice ap np cp, .slice ak nk ck])
    have HS2 : Hid (Sub (w1.alloc (.cells #[.bool lf, .slice ap np cp, .slice ak nk ck] 115)) (fun y => U.heap.size ≤ y ∧ y < w1.heap.size) lf (.slice ap np cp) (.slice ak nk ck) t) := hsub.kept (below_new (Below.refl _ _))
    clear hb1 hr hsub KT KT1 HB0 HB1 HRS HRT
    go_wp2_with fail
    refine (specFull_any t _ true lf ap ak np cp nk ck _ HS2.out).mono ?_
    generalize hgw : w1.heap.size = sb at *
    clear hgw
    generalize w1.alloc (.cells #[.bool lf, .slice ap np cp, .slice ak nk ck] 115) = w2 at *
    rintro e w3 ⟨rfl, hb3⟩
    have HB3 := hid (HB2.out.trans (hb3.mono HB2.out.size))
    have KT3 := hid (KT2.out.below hb3)
    have KS3 := hid (KS2.out.below hb3)
    have HS3 := hid (HS2.out.kept hb3)
    clear hb3 HB2 KT2 KS2 HS2
    cases hfu : t.full true
    ·have HR : Hid (spOk ns = false) := by show _ = _; rw [HSP.out, hfu]; rfl
     clear hfu
     go_wp2
     go_ret
     exact ⟨by rw [HR.out]; rfl, HB3.out⟩
    ·have HFU := hid hfu
     clear hfu
     have s0 := KS3.out.cell (j := 0) rfl
     have s1 := KS3.out.cell (j := 1) rfl
     have s2 := KS3.out.cell (j := 2) rfl
     go_wp2_with fail
     refine (specDeep_any t _ lf ap ak np cp nk ck w3 HS3.out (by have := HTI.out.2.2; omega)).mono ?_
     rintro e w4 ⟨rfl, hb4⟩
     have HB4 := hid (HB3.out.trans (hb4.mono HB3.out.size))
     have KT4 := hid (KT3.out.below hb4)
     have KS4 := hid (KS3.out.below hb4)
     have HS4 := hid (HS3.out.kept hb4)
     clear hb4 HB3 KT3 KS3 HS3 s0 s1 s2
     by_cases hdp : t.dp < 0
     ·have HR : Hid (spOk ns = false) := by show _ = _; rw [HSP.out, decide_eq_false (by omega : ¬ 0 ≤ t.dp)]; simp
      generalize t.dp = dd at *
      go_wp2
      go_ret
      exact ⟨by rw [HR.out]; rfl, HB4.out⟩
     ·have HDP := hid hdp
      have hal : t.all.length ≤ 1048576 := by
       have h1 := full_all_le t true HFU.out
       have h2 := HTI.out.2.1
       have h3 := hnn.out
       omega
      have s0 := KS4.out.cell (j := 0) rfl
      have s1 := KS4.out.cell (j := 1) rfl
      have s2 := KS4.out.cell (j := 2) rfl
      have HAL := hid hal
      clear hal
      generalize hdd : t.dp = dd at hdp
      clear hdd
      go_wp2_with fail
      refine (specPairs_any t _ lf ap ak np cp nk ck w4 HS4.out HAL.out).mono ?_
      rintro e w5 ⟨v5, rfl, hO5, hb5⟩
      obtain ⟨a5, n5, c5, hv5, HN5⟩ := hO5.shape'
      subst hv5
      have HO5 := hid hO5
      have HB5 := hid (HB4.out.trans (hb5.mono HB4.out.size))
      have KT5 := hid (KT4.out.below hb5)
      have KS5 := hid (KS4.out.below hb5)
      have HS5 := hid (HS4.out.kept hb5)
      clear hb5 hO5 HB4 KT4 KS4 HS4 s0 s1 s2
      go_wp2_with fail
      refine (specPairsOk_any (fun _ => True) _ t.all w5 (HO5.out.pr (fun _ _ _ _ => trivial))).mono ?_
      rintro e w6 ⟨rfl, hb6⟩
      have HB6 := hid (HB5.out.trans (hb6.mono HB5.out.size))
      have KT6 := hid (KT5.out.below hb6)
      have KS6 := hid (KS5.out.below hb6)
      have HS6 := hid (HS5.out.kept hb6)
      clear hb6 HB5 KT5 KS5 HS5 HO5 HN5
      cases hpk : pOk t.all
      ·have HR : Hid (spOk ns = false) := by show _ = _; rw [HSP.out, hpk]; simp
       clear hpk
       go_wp2
       go_ret
       exact ⟨by rw [HR.out]; rfl, HB6.out⟩
      ·have HRV : Hid (spOk ns = decide (lay 0 t = ns)) := by show _ = _; rw [HSP.out, hpk, HFU.out, decide_eq_true (by have := HDP.out; omega : 0 ≤ t.dp)]; simp
       have s0 := KS6.out.cell (j := 0) rfl
       have s1 := KS6.out.cell (j := 1) rfl
       have s2 := KS6.out.cell (j := 2) rfl
       clear hpk HSP
       go_wp2_with fail
       refine (specLay_any t _ lf ap ak np cp nk ck w6 (fun _ => False) none 0 0 [] true HS6.out (fun y _ => by simp [Value.ownBlock]) (no_nil w6) (by have h2 := HTI.out.2.1; have h3 := hnn.out; simp; omega) HFU.out).mono ?_
       rintro e w7 ⟨v7, rfl, hN7, ho7, _⟩
       have hb7 : Below w6.heap.size w6 w7 := ho7.below (Nat.le_refl _) (fun b _ => by simp [Value.ownBlock])
       obtain ⟨a7, n7, c7, hv7, HN7L⟩ := hN7.shape
       subst hv7
       have HNR : Hid (Nr w7 (fun _ => True) (.slice a7 n7 c7) (lay 0 t)) := hN7.nr (fun _ _ => trivial)
       have HB7 := hid (HB6.out.trans (hb7.mono HB6.out.size))
       have KT7 := hid (KT6.out.below hb7)
       have HLL : Hid (n7 = nn) := by
        have h1 := HN7L.out
        have h2 := HTI.out.2.1
        have h3 := hnn.out
        simp [lay_length] at h1
        show _ = _
        omega
       have hn7 : n7 = nn := HLL.out
       clear hN7 ho7 hb7 HB6 KT6 KS6 HS6 HN7L s0 s1 s2
       subst hn7
       have t0 := KT7.out.cell (j := 0) rfl
       have hz : ((n7 : Int) != (n7 : Int)) = false := by simp
       have HTN : Hid (n7 = (lay 0 t).length) := HNR.out.len.1
       go_wp2_with fail
       go_loopw [48] (fun i wr => ∃ k : Nat, k ≤ n7 ∧ i = .int .i64 k ∧ Hid (Below w7.heap.size w7 wr) ∧ Hid ((lay 0 t).take k = ns.take k)) (fun i _ => n7 - (intOf i).toNat)
       case atStart => exact ⟨0, Nat.zero_le _, rfl, Below.refl _ _, rfl⟩
       case round =>
        obtain ⟨k, hk, rfl, HB, HT⟩ := hrel
        have HBB := hid (HB7.out.trans (HB.out.mono HB7.out.size))
        by_cases hlt : k < n7
        ·have hlt' : (k : Int) < (n7 : Int) := by omega
         have HP := hid (HNR.out.below HB.out)
         have HP' := hid (HN.out.below HBB.out)
         obtain ⟨bA, oA, hA, _, _, hcell⟩ := HP.out.at (by omega)
         obtain ⟨bT, oT, hT, _, _, hcell'⟩ := HP'.out.at (by omega)
         subst hA hT
         obtain ⟨ap1, np1, cp1, ax1, nx1, cx1, ai1, ni1, ci1, x0, x1, x2, hp, hx, hi⟩ := hcell k hlt
         obtain ⟨ap2, np2, cp2, ax2, nx2, cx2, ai2, ni2, ci2, y0, y1, y2, hp', hx', hi'⟩ := hcell' k hlt
         have tt := (KT7.out.below HB.out).cell (j := 0) rfl
         have HC : Hid (∀ v, Below wr.heap.size wr v → Calls Tryz.prog 71 #[.agg #[.slice ap1 np1 cp1, .slice ax1 nx1 cx1, .slice ai1 ni1 ci1], .agg #[.slice ap2 np2 cp2, .slice ax2 nx2 cx2, .slice ai2 ni2 ci2]] v fun e w' => e = .returned (.bool (decide (nAt (lay 0 t) k = nAt ns k))) ∧ Below v.heap.size v w') := fun v hv =>
          sameNode_any _ _ ap1 ax1 ai1 ap2 ax2 ai2 np1 cp1 nx1 cx1 ni1 ci1 np2 cp2 nx2 cx2 ni2 ci2 (nAt (lay 0 t) k) (nAt ns k) v (hp.below hv) (hx.below hv) (hi.below hv) (hp'.below hv) (hx'.below hv) (hi'.below hv)
         have HSS : Hid (nAt (lay 0 t) k = nAt ns k → (lay 0 t).take (k + 1) = ns.take (k + 1)) := by
          intro e
          have hl : k < (lay 0 t).length := by rw [← HTN.out]; exact hlt
          have hl' : k < ns.length := by rw [← hnn.out]; exact hlt
          rw [List.take_succ_eq_append_getElem hl, List.take_succ_eq_append_getElem hl', HT.out]
          simp [nAt, hl, hl'] at e
          rw [e]
         have HFF : Hid (nAt (lay 0 t) k ≠ nAt ns k → spOk ns = false) := by
          intro e
          rw [HRV.out, decide_eq_false_iff_not]
          intro e'
          exact e (by rw [e'])
         have T0 : Hid (KC wr wr [(⟨bA, oA + k * 3, none⟩, .slice ap1 np1 cp1), (⟨bA, oA + k * 3 + 1, none⟩, .slice ax1 nx1 cx1), (⟨bA, oA + k * 3 + 2, none⟩, .slice ai1 ni1 ci1), (⟨bT, oT + k * 3, none⟩, .slice ap2 np2 cp2), (⟨bT, oT + k * 3 + 1, none⟩, .slice ax2 nx2 cx2), (⟨bT, oT + k * 3 + 2, none⟩, .slice ai2 ni2 ci2), (⟨w.heap.size, 0, none⟩, .slice (some ⟨bT, oT, none⟩) n7 cn)]) := ⟨fun p hp => by simp at hp; rcases hp with rfl | rfl | rfl | rfl | rfl | rfl | rfl <;> assumption, Below.refl _ _⟩
         clear hcell hcell' HP HP' HT hp hx hi hp' hx' hi' x0 x1 x2 y0 y1 y2 tt t0
         generalize nAt (lay 0 t) k = cx1' at *
         generalize nAt ns k = cx2' at *
         by_cases he : cx1' = cx2'
         ·have HS1 := hid (HSS.out he)
          rw [decide_eq_true he] at HC
          clear he HSS HFF
          go_wp2_with fail
          go_region_held3 (fun v => v.cell? ⟨bA, oA + k * 3, none⟩ = some (.slice ap1 np1 cp1) ∧ v.cell? ⟨bA, oA + k * 3 + 1, none⟩ = some (.slice ax1 nx1 cx1) ∧ v.cell? ⟨bA, oA + k * 3 + 2, none⟩ = some (.slice ai1 ni1 ci1) ∧ v.cell? ⟨bT, oT + k * 3, none⟩ = some (.slice ap2 np2 cp2) ∧ v.cell? ⟨bT, oT + k * 3 + 1, none⟩ = some (.slice ax2 nx2 cx2) ∧ v.cell? ⟨bT, oT + k * 3 + 2, none⟩ = some (.slice ai2 ni2 ci2) ∧ v.cell? ⟨w.heap.size, 0, none⟩ = some (.slice (some ⟨bT, oT, none⟩) n7 cn) ∧ KC wr v [(⟨bA, oA + k * 3, none⟩, .slice ap1 np1 cp1), (⟨bA, oA + k * 3 + 1, none⟩, .slice ax1 nx1 cx1), (⟨bA, oA + k * 3 + 2, none⟩, .slice ai1 ni1 ci1), (⟨bT, oT + k * 3, none⟩, .slice ap2 np2 cp2), (⟨bT, oT + k * 3 + 1, none⟩, .slice ax2 nx2 cx2), (⟨bT, oT + k * 3 + 2, none⟩, .slice ai2 ni2 ci2), (⟨w.heap.size, 0, none⟩, .slice (some ⟨bT, oT, none⟩) n7 cn)])
           (first | assumption | exact kc7 (T0.out.call (below_drew _)) | exact kc7c hbC (by assumption))
           (first | (go_at_call 71; refine (HC.out _ (KC.bel (by first | exact (by assumption : _ ∧ _ ∧ _ ∧ _ ∧ _ ∧ _ ∧ _ ∧ _).2.2.2.2.2.2.2))).mono ?_; rintro e w' ⟨rfl, hbC⟩))
          all_goals (rename_i hS; have HB8 := hid (Below.then' HB.out hS.2.2.2.2.2.2.2.bel (Nat.le_refl _)); clear hS; go_wp2)
          go_roundw
          case rel => exact ⟨k + 1, by omega, by go_num, HB8.out, HS1.out⟩
          case measure => simp [intOf]; omega
         ·have HF1 := hid (HFF.out he)
          rw [decide_eq_false he] at HC
          clear he HSS HFF
          go_wp2_with fail
          go_region_held3 (fun v => v.cell? ⟨bA, oA + k * 3, none⟩ = some (.slice ap1 np1 cp1) ∧ v.cell? ⟨bA, oA + k * 3 + 1, none⟩ = some (.slice ax1 nx1 cx1) ∧ v.cell? ⟨bA, oA + k * 3 + 2, none⟩ = some (.slice ai1 ni1 ci1) ∧ v.cell? ⟨bT, oT + k * 3, none⟩ = some (.slice ap2 np2 cp2) ∧ v.cell? ⟨bT, oT + k * 3 + 1, none⟩ = some (.slice ax2 nx2 cx2) ∧ v.cell? ⟨bT, oT + k * 3 + 2, none⟩ = some (.slice ai2 ni2 ci2) ∧ v.cell? ⟨w.heap.size, 0, none⟩ = some (.slice (some ⟨bT, oT, none⟩) n7 cn) ∧ KC wr v [(⟨bA, oA + k * 3, none⟩, .slice ap1 np1 cp1), (⟨bA, oA + k * 3 + 1, none⟩, .slice ax1 nx1 cx1), (⟨bA, oA + k * 3 + 2, none⟩, .slice ai1 ni1 ci1), (⟨bT, oT + k * 3, none⟩, .slice ap2 np2 cp2), (⟨bT, oT + k * 3 + 1, none⟩, .slice ax2 nx2 cx2), (⟨bT, oT + k * 3 + 2, none⟩, .slice ai2 ni2 ci2), (⟨w.heap.size, 0, none⟩, .slice (some ⟨bT, oT, none⟩) n7 cn)])
           (first | assumption | exact kc7 (T0.out.call (below_drew _)) | exact kc7c hbC (by assumption))
           (first | (go_at_call 71; refine (HC.out _ (KC.bel (by first | exact (by assumption : _ ∧ _ ∧ _ ∧ _ ∧ _ ∧ _ ∧ _ ∧ _).2.2.2.2.2.2.2))).mono ?_; rintro e w' ⟨rfl, hbC⟩))
          all_goals (rename_i hS; have HB8 := hid (Below.then' HBB.out hS.2.2.2.2.2.2.2.bel (Nat.le_refl _)); clear hS; go_wp2)
          go_ret
          exact ⟨by rw [HF1.out]; rfl, HB8.out⟩
        ·have HF : Hid (spOk ns = true) := by
          show _ = _
          rw [HRV.out, decide_eq_true_eq]
          have e := HT.out
          rwa [List.take_of_length_le (by rw [← HTN.out]; omega), List.take_of_length_le (by rw [← hnn.out]; omega)] at e
         clear HT
         go_wp2
         go_ret
         exact ⟨by rw [HF.out]; rfl, HBB.out⟩
open Go.RowKit
set_option linter.unusedVariables false
theorem mrd_root {zs : List Int} {g r : Int} (h : mrd zs = some (g, r)) : 0 ≤ r := by
 have := (mrd_iff zs g r).1 h
 unfold mtBytes at this
 by_cases e : mtOk g r = true
 ·simp only [mtOk, Bool.and_eq_true, Bool.or_eq_true, decide_eq_true_eq] at e
  omega
 ·rw [if_neg e] at this; cases this
theorem bestM_root (d : DK) : ∀ k, 0 ≤ (bestM d k).2
 | 0 => by simp [bestM]
 | k + 1 => by
  rw [bestM]
  unfold stepM
  have h := bestM_root d k
  cases e : shMeta d k with
  | none => exact h
  | some m =>
   simp only
   split
   ·exact mrd_root (g := m.1) (r := m.2) e
   ·exact h
def stR (d : DK) : Option LS := if (bestM d 2).2 = 0 then some ([], []) else ldV d.sh 400 (bestM d 2).2 ([], [])
def stC (d : DK) : Int := if dkOk d = false ∨ 0 < d.dw.length then 1 else if 0 < (bestM d 2).1 then (match stR d with
 | none => 3
 | some s => if (okT s.1).isSome = true then 0 else 3) else 2
theorem okT_nil : (okT []).isSome = true := rfl
def zeroS : Value := .agg #[.slice none 0 0, .slice none 0 0, .int .i64 0, .slice none 0 0, .slice none 0 0]
def SoPost (sa : Option Addr) (sn sc : Nat) (da : Option Addr) (dn dc : Nat) (d : DK) (w : World) (e : Ending) (w' : World) : Prop :=
 Below w.heap.size w w' ∧ ((stC d ≠ 0 ∧ e = .returned (.tuple #[zeroS, .int .i64 (stC d)])) ∨ ∃ s na nn nc pa pn pc V, stC d = 0 ∧ stR d = some s ∧ s.2.length = s.1.length ∧ e = .returned (.tuple #[.agg #[.slice sa sn sc, .slice da dn dc, .int .i64 (bestM d 2).1, .slice na nn nc, .slice pa pn pc], .int .i64 0]) ∧
  NA w' (.slice na nn nc) V s.1 ∧ w'.ownsRow 0 3 1 (.slice pa pn pc) s.2.length (s.2.map (Value.int .i64)) ∧ (∀ y, (Value.slice na nn nc).ownBlock = some y → w.heap.size ≤ y) ∧ (∀ i, i < s.1.length → ∀ y, bl (vAt V i) y → w.heap.size ≤ y) ∧ ∀ y, (Value.slice pa pn pc).ownBlock = some y → w.heap.size ≤ y ∧ (Value.slice na nn nc).ownBlock ≠ some y ∧ ∀ i, i < s.1.length → ¬ bl (vAt V i) y)
theorem load_sto {w : World} {g : Nat} {a b c x y : Value} (c0 : w.cell? ⟨g, 0, none⟩ = some a) (c1 : w.cell? ⟨g, 1, none⟩ = some b) (c2 : w.cell? ⟨g, 2, none⟩ = some c) (c3 : w.cell? ⟨g, 3, none⟩ = some x) (c4 : w.cell? ⟨g, 4, none⟩ = some y) :
  (loadVar 36 ⟨g, 0, none⟩).run Tryz.prog w = .ok (.agg #[a, b, c, x, y]) w := by go_simp
theorem results_sto {fn : Func} {p q : Tmp} (h : fn.results = #[.cell p 36, .tmp q]) (tmps : Array Value) (w : World) (g : Nat) {a b c x y z : Value} (hp : tmps.getD p undef = .pointer (some ⟨g, 0, none⟩)) (hq : tmps.getD q undef = z)
  (c0 : w.cell? ⟨g, 0, none⟩ = some a) (c1 : w.cell? ⟨g, 1, none⟩ = some b) (c2 : w.cell? ⟨g, 2, none⟩ = some c) (c3 : w.cell? ⟨g, 3, none⟩ = some x) (c4 : w.cell? ⟨g, 4, none⟩ = some y) : (results fn tmps).run Tryz.prog w = .ok (.tuple #[.agg #[a, b, c, x, y], z]) w := by
 have hp' : tmps[p]?.getD undef = .pointer (some ⟨g, 0, none⟩) := by simpa using hp
 have hq' : tmps[q]?.getD undef = z := by simpa using hq
 simp [results, h, hp', hq', asAddr, load_sto c0 c1 c2 c3 c4, Result.andThen]
theorem so_fin {w v : World} {G rb : Nat} {sl : Value} {na : Option Addr} {nn nc : Nat} {pa : Option Addr} {pn pc : Nat} {V : List V3} {s : LS} (sa : Option Addr) (sn sc : Nat) (da : Option Addr) (dn dc : Nat) (d : DK) (hb : Below w.heap.size w v) (hG : w.heap.size + 2 ≤ G) (hR : RS v (fun y => y = rb ∨ G ≤ y) rb sl na nn nc pa pn pc V s) (hc : stC d = 0) (hs : stR d = some s) (hl : s.2.length = s.1.length) (x0 x1 x2 x3 x4 : Value) :
  SoPost sa sn sc da dn dc d w (.returned (.tuple #[.agg #[.slice sa sn sc, .slice da dn dc, .int .i64 (bestM d 2).1, .slice na nn nc, .slice pa pn pc], .int .i64 0])) (((((v.setCell ⟨w.heap.size + 1, 0, none⟩ x0).setCell ⟨w.heap.size + 1, 1, none⟩ x1).setCell ⟨w.heap.size + 1, 2, none⟩ x2).setCell ⟨w.heap.size + 1, 3, none⟩ x3).setCell ⟨w.heap.size + 1, 4, none⟩ x4) := by
 have o : Only (fun y => y = w.heap.size + 1) v (((((v.setCell ⟨w.heap.size + 1, 0, none⟩ x0).setCell ⟨w.heap.size + 1, 1, none⟩ x1).setCell ⟨w.heap.size + 1, 2, none⟩ x2).setCell ⟨w.heap.size + 1, 3, none⟩ x3).setCell ⟨w.heap.size + 1, 4, none⟩ x4) := ((((only_set (R := fun y => y = w.heap.size + 1) rfl _).trans (only_set (R := fun y => y = w.heap.size + 1) rfl _)).trans (only_set (R := fun y => y = w.heap.size + 1) rfl _)).trans (only_set (R := fun y => y = w.heap.size + 1) rfl _)).trans (only_set (R := fun y => y = w.heap.size + 1) rfl _)
 have h1 : ∀ y, (Value.slice na nn nc).ownBlock = some y → G ≤ y := fun y e => (hR.pn' y e).1.elim (fun h => absurd h (hR.pn' y e).2) id
 have h2 : ∀ i, i < s.1.length → ∀ y, bl (vAt V i) y → G ≤ y := fun i hi y e => (hR.pb i hi y e).1.elim (fun h => absurd h (hR.pb i hi y e).2) id
 have h3 : ∀ y, (Value.slice pa pn pc).ownBlock = some y → G ≤ y := fun y e => (hR.pp y e).1.elim (fun h => absurd h (hR.pp y e).2.1) id
 refine ⟨hb.trans (o.below hb.size (fun y hy e => by omega)), .inr ⟨s, na, nn, nc, pa, pn, pc, V, hc, hs, hl, rfl, hR.nod.to o (fun y e e2 => by have := h1 y e; omega) (fun i hi y e e2 => by have := h2 i hi y e; omega), own_kept hR.pla o (fun y e e2 => by have := h3 y e; omega), fun y e => by have := h1 y e; omega, fun i hi y e => by have := h2 i hi y e; omega, fun y e => ⟨by have := h3 y e; omega, (hR.pp y e).2.2.1, (hR.pp y e).2.2.2⟩⟩⟩
set_option maxHeartbeats 8000000 in
set_option maxRecDepth 100000 in
theorem storeOn_any (S : Nat → Prop) (sa : Option Addr) (sn sc : Nat) (da : Option Addr) (dn dc : Nat) (d : DK) (w : World) (h : Dk w S sa sn sc da dn dc d) (hsm : smallD d) (he : Err w 0) (he2 : Err w 1) (he3 : Err w 2) :
  Calls Tryz.prog 30 #[.agg #[.slice sa sn sc, .slice da dn dc]] w fun e w' => SoPost sa sn sc da dn dc d w e w' := by
 have HD := hid h
 have HSM := hid hsm
 have HE := hid (And.intro he (And.intro he2 he3))
 have HDN := hid h.hd.len.1
 have hdc := h.hd.len.2.1
 have hdc' := h.hd.len.2.2
 have hsc := h.hs.len.2.1
 have hsc' := h.hs.len.2.2
 have HB0 : Hid (Below w.heap.size w ((w.alloc (.cells #[.slice sa sn sc, .slice da dn dc] 30)).alloc (.cells #[.slice none 0 0, .slice none 0 0, .int .i64 0, .slice none 0 0, .slice none 0 0] 36))) := below_new (below_new (Below.refl _ _))
 have KD := hid ((Bk.new w 30 [.slice sa sn sc, .slice da dn dc]).alloc (.cells #[.slice none 0 0, .slice none 0 0, .int .i64 0, .slice none 0 0, .slice none 0 0] 36))
 have KR : Hid (Bk ((w.alloc (.cells #[.slice sa sn sc, .slice da dn dc] 30)).alloc (.cells #[.slice none 0 0, .slice none 0 0, .int .i64 0, .slice none 0 0, .slice none 0 0] 36)) (w.heap.size + 1) 36 [.slice none 0 0, .slice none 0 0, .int .i64 0, .slice none 0 0, .slice none 0 0]) := by
  have h := Bk.new (w.alloc (.cells #[.slice sa sn sc, .slice da dn dc] 30)) 36 [.slice none 0 0, .slice none 0 0, .int .i64 0, .slice none 0 0, .slice none 0 0]
  show Bk _ _ _ _
  simpa using h
 have HOK := hid (fun v (hv : Below w.heap.size w v) => implDiskOk_any S sa sn sc da dn dc d v (HD.out.below hv))
 have HME := hid (fun v (hv : Below w.heap.size w v) => implDiskMeta_any S sa sn sc da dn dc d v (HD.out.below hv) hsm (he.below hv he.lt) (he2.below hv he2.lt))
 clear h hsm he he2 he3
 by_cases q1 : dkOk d = true
 ·by_cases q2 : dn = 0
  ·subst q2
   have HDW : Hid (d.dw.length = 0) := HDN.out.symm
   have HS1 : Hid (stC d = if 0 < (bestM d 2).1 then (match stR d with | none => 3 | some s => if (okT s.1).isSome = true then 0 else 3) else 2) := by show _ = _; rw [stC, if_neg (by rw [q1, HDW.out]; simp)]
   have HRT : Hid (stR d = if (bestM d 2).2 = 0 then some ([], []) else ldV d.sh 400 (bestM d 2).2 ([], [])) := rfl
   have HR0 := hid (bestM_root d 2)
   have HGG : Hid (∃ gg, gg = (bestM d 2).1) := ⟨_, rfl⟩
   have HRR : Hid (∃ rr, rr = (bestM d 2).2) := ⟨_, rfl⟩
   obtain ⟨gg, hgg⟩ := HGG.out
   obtain ⟨rr, hrr⟩ := HRR.out
   rw [← hgg] at HS1
   rw [← hrr] at HRT HR0
   rw [← hgg, ← hrr] at HME
   have HGG := hid hgg
   clear hgg hrr HRR
   by_cases q3 : 0 < gg
   ·have q3' : decide (0 < gg) = true := decide_eq_true q3
    rw [if_pos q3] at HS1
    have HSZ : Hid (∀ v, Below w.heap.size w v → w.heap.size + 1 < v.heap.size → True) := fun _ _ _ => trivial
    by_cases q4 : rr = 0
    ·rw [if_pos q4] at HRT
     have HC : Hid (stC d = 0) := by show _ = _; rw [HS1.out, HRT.out]; rfl
     subst q4
     go_enter Tryz.func30, Tryz.ntmps30
     go_wp2_with fail
     refine (HOK.out _ HB0.out).mono ?_
     rintro e w1 ⟨rfl, hb1⟩
     rw [q1]
     have B1 := hid (bt7 HB0.out hb1)
     have KD1 := hid (KD.out.below hb1)
     have KR1 := hid (KR.out.below hb1)
     have d0 := KD1.out.cell (j := 0) rfl
     have d1 := KD1.out.cell (j := 1) rfl
     clear hb1
     go_wp2_with fail
     refine (HME.out _ B1.out).mono ?_
     rintro e w2 ⟨rfl, hb2⟩
     have B2 := hid (bt7 B1.out hb2)
     have KD2 := hid (KD1.out.below hb2)
     have KR2 := hid (KR1.out.below hb2)
     clear hb2 d0 d1 B1 KD1 KR1
     rw [q3']
     have B3 : Hid (Below w.heap.size w ((w2.alloc (.cells #[.int .i64 gg, .int .i64 0] 61)).alloc (.cells #[.slice sa sn sc, .slice none 0 0, .slice none 0 0] 126))) := bt7 B2.out (below_new (below_new (Below.refl _ _)))
     have KD3 := hid ((KD2.out.alloc (.cells #[.int .i64 gg, .int .i64 0] 61)).alloc (.cells #[.slice sa sn sc, .slice none 0 0, .slice none 0 0] 126))
     have KR3 := hid ((KR2.out.alloc (.cells #[.int .i64 gg, .int .i64 0] 61)).alloc (.cells #[.slice sa sn sc, .slice none 0 0, .slice none 0 0] 126))
     have KM := hid ((Bk.new w2 61 [.int .i64 gg, .int .i64 0]).alloc (.cells #[.slice sa sn sc, .slice none 0 0, .slice none 0 0] 126))
     have KT : Hid (Bk ((w2.alloc (.cells #[.int .i64 gg, .int .i64 0] 61)).alloc (.cells #[.slice sa sn sc, .slice none 0 0, .slice none 0 0] 126)) (w2.heap.size + 1) 126 [.slice sa sn sc, .slice none 0 0, .slice none 0 0]) := by
      have h := Bk.new (w2.alloc (.cells #[.int .i64 gg, .int .i64 0] 61)) 126 [.slice sa sn sc, .slice none 0 0, .slice none 0 0]
      show Bk _ _ _ _
      simpa using h
     have HW2 : Hid (w.heap.size + 1 < w2.heap.size) := KR2.out.lt
     have R3 : Hid (RS ((w2.alloc (.cells #[.int .i64 gg, .int .i64 0] 61)).alloc (.cells #[.slice sa sn sc, .slice none 0 0, .slice none 0 0] 126)) (fun y => y = w2.heap.size + 1) (w2.heap.size + 1) (.slice sa sn sc) none 0 0 none 0 0 [] ([], [])) := ⟨KT.out, na_nil _, World.ownsRow_nil _ _ _ _, rfl, fun y e => (by cases e), fun i hi => (by simp at hi), fun y e => (by cases e)⟩
     have d0 := (KD2.out.alloc (.cells #[.int .i64 gg, .int .i64 0] 61)).cell (j := 0) rfl
     have t1 := KT.out.cell (j := 1) rfl
     have m1 := KM.out.cell (j := 1) rfl
     go_wp2_with fail
     refine (implTreeOk_any (fun _ => True) none 0 0 [] _ ((na_nil _).nr (fun _ _ => trivial))).mono ?_
     rintro e w4 ⟨rfl, hb4⟩
     rw [okT_nil]
     have B5 := hid (bt7 B3.out hb4)
     have KD5 := hid (KD3.out.below hb4)
     have KR5 := hid (KR3.out.below hb4)
     have KM5 := hid (KM.out.below hb4)
     have R5 := hid ((R3.out.below hb4).mono (Q := fun y => y = w2.heap.size + 1 ∨ w2.heap.size ≤ y) (fun y _ h => .inl h))
     have HSS := HRT
     have HLL : Hid ((([] : List Int)).length = (([] : List NB)).length) := rfl
     clear hb4 d0 t1 m1 B3 KD3 KR3 KM KT R3
     have d0 := KD5.out.cell (j := 0) rfl
     have d1 := KD5.out.cell (j := 1) rfl
     have r0 := KR5.out.cell (j := 0) rfl
     have r1 := KR5.out.cell (j := 1) rfl
     have r2 := KR5.out.cell (j := 2) rfl
     have r3 := KR5.out.cell (j := 3) rfl
     have r4 := KR5.out.cell (j := 4) rfl
     have f0 := KR5.out.free 0
     have f1 := KR5.out.free 1
     have f2 := KR5.out.free 2
     have f3 := KR5.out.free 3
     have f4 := KR5.out.free 4
     have m0 := KM5.out.cell (j := 0) rfl
     have m1 := KM5.out.cell (j := 1) rfl
     have t0 := R5.out.box.cell (j := 0) rfl
     have t1 := R5.out.box.cell (j := 1) rfl
     have t2 := R5.out.box.cell (j := 2) rfl
     go_wp2
     try simp only [Exit.inBlock, Exit.then]
     refine bodyPost_ret (v := .tuple #[.agg #[.slice sa sn sc, .slice da 0 dc, .int .i64 gg, .slice none 0 0, .slice none 0 0], .int .i64 0]) ?_ rfl ?_
     ·exact results_sto rfl _ _ (w.heap.size + 1) rfl rfl (by go_simp) (by go_simp) (by go_simp) (by go_simp) (by go_simp)
     ·have h := so_fin sa sn sc da 0 dc d B5.out (by have := HW2.out; omega) R5.out HC.out HSS.out HLL.out
      rw [← HGG.out] at h
      exact h _ _ _ _ _
    ·rw [if_neg q4] at HRT
     have q4' : (rr == 0) = false := by simp [q4]
     go_enter Tryz.func30, Tryz.ntmps30
     go_wp2_with fail
     refine (HOK.out _ HB0.out).mono ?_
     rintro e w1 ⟨rfl, hb1⟩
     rw [q1]
     have B1 := hid (bt7 HB0.out hb1)
     have KD1 := hid (KD.out.below hb1)
     have KR1 := hid (KR.out.below hb1)
     have d0 := KD1.out.cell (j := 0) rfl
     have d1 := KD1.out.cell (j := 1) rfl
     clear hb1
     go_wp2_with fail
     refine (HME.out _ B1.out).mono ?_
     rintro e w2 ⟨rfl, hb2⟩
     have B2 := hid (bt7 B1.out hb2)
     have KD2 := hid (KD1.out.below hb2)
     have KR2 := hid (KR1.out.below hb2)
     clear hb2 d0 d1 B1 KD1 KR1
     rw [q3']
     have B3 : Hid (Below w.heap.size w ((w2.alloc (.cells #[.int .i64 gg, .int .i64 rr] 61)).alloc (.cells #[.slice sa sn sc, .slice none 0 0, .slice none 0 0] 126))) := bt7 B2.out (below_new (below_new (Below.refl _ _)))
     have KD3 := hid ((KD2.out.alloc (.cells #[.int .i64 gg, .int .i64 rr] 61)).alloc (.cells #[.slice sa sn sc, .slice none 0 0, .slice none 0 0] 126))
     have KR3 := hid ((KR2.out.alloc (.cells #[.int .i64 gg, .int .i64 rr] 61)).alloc (.cells #[.slice sa sn sc, .slice none 0 0, .slice none 0 0] 126))
     have KM := hid ((Bk.new w2 61 [.int .i64 gg, .int .i64 rr]).alloc (.cells #[.slice sa sn sc, .slice none 0 0, .slice none 0 0] 126))
     have KT : Hid (Bk ((w2.alloc (.cells #[.int .i64 gg, .int .i64 rr] 61)).alloc (.cells #[.slice sa sn sc, .slice none 0 0, .slice none 0 0] 126)) (w2.heap.size + 1) 126 [.slice sa sn sc, .slice none 0 0, .slice none 0 0]) := by
      have h := Bk.new (w2.alloc (.cells #[.int .i64 gg, .int .i64 rr] 61)) 126 [.slice sa sn sc, .slice none 0 0, .slice none 0 0]
      show Bk _ _ _ _
      simpa using h
     have HW2 : Hid (w.heap.size + 1 < w2.heap.size) := KR2.out.lt
     have R3 : Hid (RS ((w2.alloc (.cells #[.int .i64 gg, .int .i64 rr] 61)).alloc (.cells #[.slice sa sn sc, .slice none 0 0, .slice none 0 0] 126)) (fun y => y = w2.heap.size + 1) (w2.heap.size + 1) (.slice sa sn sc) none 0 0 none 0 0 [] ([], [])) := ⟨KT.out, na_nil _, World.ownsRow_nil _ _ _ _, rfl, fun y e => (by cases e), fun i hi => (by simp at hi), fun y e => (by cases e)⟩
     have d0 := (KD2.out.alloc (.cells #[.int .i64 gg, .int .i64 rr] 61)).cell (j := 0) rfl
     have t1 := KT.out.cell (j := 1) rfl
     have m1 := KM.out.cell (j := 1) rfl
     have HZ3 : Hid (w2.heap.size + 1 < ((w2.alloc (.cells #[.int .i64 gg, .int .i64 rr] 61)).alloc (.cells #[.slice sa sn sc, .slice none 0 0, .slice none 0 0] 126)).heap.size) := KT.out.lt
     have RH3 : Hid (RH ((w2.alloc (.cells #[.int .i64 gg, .int .i64 rr] 61)).alloc (.cells #[.slice sa sn sc, .slice none 0 0, .slice none 0 0] 126)) (fun y => y < w.heap.size) (.slice sa sn sc) d.sh) := ⟨(HD.out.hs.mono (R := fun y => y < w.heap.size) (fun y _ h => h)).below B3.out, ⟨HE.out.1.below B3.out HE.out.1.lt, HE.out.1.lt⟩, ⟨HE.out.2.1.below B3.out HE.out.2.1.lt, HE.out.2.1.lt⟩, ⟨HE.out.2.2.below B3.out HE.out.2.2.lt, HE.out.2.2.lt⟩, HSM.out.1⟩
     have HRE := hid (treeRead_any d.sh sa sn sc (w2.heap.size + 1) 400 (fun y => y < w.heap.size) (fun y => y = w2.heap.size + 1) none 0 0 none 0 0 [] ([], []) rr _ RH3.out (fun y hy => ⟨Nat.lt_of_lt_of_le hy B3.out.size, fun e => by have := HW2.out; omega⟩) (fun y e => by rw [e]; exact HZ3.out) R3.out rfl (Nat.zero_le _) (Nat.le_refl _) HR0.out)
     go_wp2_with fail
     refine HRE.out.mono ?_
     clear HRE RH3 R3 d0 t1 m1
     rintro e w3 ⟨ho, ⟨hn, rfl⟩ | ⟨s', na, nn, nc, pa, pn, pc, V, hs', hl', rfl, hR'⟩⟩
     ·have HC : Hid (stC d = 3) := by show _ = _; rw [HS1.out, HRT.out, hn]
      have B4 : Hid (Below w.heap.size w w3) := B3.out.trans (ho.below B3.out.size (fun y hy e => by have := HW2.out; omega))
      have KR4 := hid (KR3.out.to ho (fun e => by have := HW2.out; omega))
      clear ho hn
      have r0 := KR4.out.cell (j := 0) rfl
      have r1 := KR4.out.cell (j := 1) rfl
      have r2 := KR4.out.cell (j := 2) rfl
      have r3 := KR4.out.cell (j := 3) rfl
      have r4 := KR4.out.cell (j := 4) rfl
      have f0 := KR4.out.free 0
      have f1 := KR4.out.free 1
      have f2 := KR4.out.free 2
      have f3 := KR4.out.free 3
      have f4 := KR4.out.free 4
      go_wp2
      try simp only [Exit.inBlock, Exit.then]
      refine bodyPost_ret (v := .tuple #[zeroS, .int .i64 3]) ?_ rfl ?_
      ·exact results_sto rfl _ _ (w.heap.size + 1) rfl rfl (by go_simp) (by go_simp) (by go_simp) (by go_simp) (by go_simp)
      ·refine ⟨?_, .inl ⟨by rw [HC.out]; decide, by rw [HC.out]⟩⟩
       exact (((((B4.out).setCell (p := ⟨w.heap.size + 1, 0, none⟩) (Nat.le_succ _) _).setCell (p := ⟨w.heap.size + 1, 1, none⟩) (Nat.le_succ _) _).setCell (p := ⟨w.heap.size + 1, 2, none⟩) (Nat.le_succ _) _).setCell (p := ⟨w.heap.size + 1, 3, none⟩) (Nat.le_succ _) _).setCell (p := ⟨w.heap.size + 1, 4, none⟩) (Nat.le_succ _) _
     ·have HSS : Hid (stR d = some s') := by show _ = _; rw [HRT.out, hs']
      have HLL := hid hl'
      have B4 : Hid (Below w.heap.size w w3) := B3.out.trans (ho.below B3.out.size (fun y hy e => by have := HW2.out; omega))
      have KR4 := hid (KR3.out.to ho (fun e => by have := HW2.out; omega))
      have KD4 := hid (KD3.out.to ho (fun e => by have := HW2.out; omega))
      have KM4 := hid (KM.out.to ho (fun e => by omega))
      have R4 := hid hR'
      have HNR := hid (hR'.nod.nr (S := fun _ => True) (fun _ _ => trivial))
      have HSC : Hid (stC d = if (okT s'.1).isSome = true then 0 else 3) := by show _ = _; rw [HS1.out, HSS.out]
      have t1 := R4.out.box.cell (j := 1) rfl
      clear hs' hl' ho hR' KR3 KD3 KM KT B3
      go_wp2_with fail
      refine (implTreeOk_any (fun _ => True) na nn nc s'.1 _ HNR.out).mono ?_
      rintro e w4 ⟨rfl, hb4⟩
      have B5 := hid (bt7 B4.out hb4)
      have KD5 := hid (KD4.out.below hb4)
      have KR5 := hid (KR4.out.below hb4)
      have KM5 := hid (KM4.out.below hb4)
      have R5 := hid (R4.out.below hb4)
      clear hb4 t1 HNR B4 KD4 KR4 KM4 R4
      by_cases q5 : (okT s'.1).isSome = true
      ·rw [q5]
       have HC : Hid (stC d = 0) := by show _ = _; rw [HSC.out, if_pos q5]
       have d0 := KD5.out.cell (j := 0) rfl
       have d1 := KD5.out.cell (j := 1) rfl
       have r0 := KR5.out.cell (j := 0) rfl
       have r1 := KR5.out.cell (j := 1) rfl
       have r2 := KR5.out.cell (j := 2) rfl
       have r3 := KR5.out.cell (j := 3) rfl
       have r4 := KR5.out.cell (j := 4) rfl
       have f0 := KR5.out.free 0
       have f1 := KR5.out.free 1
       have f2 := KR5.out.free 2
       have f3 := KR5.out.free 3
       have f4 := KR5.out.free 4
       have m0 := KM5.out.cell (j := 0) rfl
       have m1 := KM5.out.cell (j := 1) rfl
       have t0 := R5.out.box.cell (j := 0) rfl
       have t1 := R5.out.box.cell (j := 1) rfl
       have t2 := R5.out.box.cell (j := 2) rfl
       go_wp2
       try simp only [Exit.inBlock, Exit.then]
       refine bodyPost_ret (v := .tuple #[.agg #[.slice sa sn sc, .slice da 0 dc, .int .i64 gg, .slice na nn nc, .slice pa pn pc], .int .i64 0]) ?_ rfl ?_
       ·exact results_sto rfl _ _ (w.heap.size + 1) rfl rfl (by go_simp) (by go_simp) (by go_simp) (by go_simp) (by go_simp)
       ·have h := so_fin sa sn sc da 0 dc d B5.out (by have h1 := HW2.out; have h2 := HZ3.out; omega) R5.out HC.out HSS.out HLL.out
        rw [← HGG.out] at h
        exact h _ _ _ _ _
      ·have q5' : (okT s'.1).isSome = false := by simpa using q5
       rw [q5']
       have HC : Hid (stC d = 3) := by show _ = _; rw [HSC.out, if_neg q5]
       have r0 := KR5.out.cell (j := 0) rfl
       have r1 := KR5.out.cell (j := 1) rfl
       have r2 := KR5.out.cell (j := 2) rfl
       have r3 := KR5.out.cell (j := 3) rfl
       have r4 := KR5.out.cell (j := 4) rfl
       have f0 := KR5.out.free 0
       have f1 := KR5.out.free 1
       have f2 := KR5.out.free 2
       have f3 := KR5.out.free 3
       have f4 := KR5.out.free 4
       go_wp2
       try simp only [Exit.inBlock, Exit.then]
       refine bodyPost_ret (v := .tuple #[zeroS, .int .i64 3]) ?_ rfl ?_
       ·exact results_sto rfl _ _ (w.heap.size + 1) rfl rfl (by go_simp) (by go_simp) (by go_simp) (by go_simp) (by go_simp)
       ·refine ⟨?_, .inl ⟨by rw [HC.out]; decide, by rw [HC.out]⟩⟩
        exact (((((B5.out).setCell (p := ⟨w.heap.size + 1, 0, none⟩) (Nat.le_succ _) _).setCell (p := ⟨w.heap.size + 1, 1, none⟩) (Nat.le_succ _) _).setCell (p := ⟨w.heap.size + 1, 2, none⟩) (Nat.le_succ _) _).setCell (p := ⟨w.heap.size + 1, 3, none⟩) (Nat.le_succ _) _).setCell (p := ⟨w.heap.size + 1, 4, none⟩) (Nat.le_succ _) _
   ·have q3' : decide (0 < gg) = false := decide_eq_false q3
    rw [if_neg q3] at HS1
    have HC : Hid (stC d = 2) := HS1.out
    go_enter Tryz.func30, Tryz.ntmps30
    go_wp2_with fail
    refine (HOK.out _ HB0.out).mono ?_
    rintro e w1 ⟨rfl, hb1⟩
    rw [q1]
    have B1 := hid (bt7 HB0.out hb1)
    have KD1 := hid (KD.out.below hb1)
    have KR1 := hid (KR.out.below hb1)
    have d0 := KD1.out.cell (j := 0) rfl
    have d1 := KD1.out.cell (j := 1) rfl
    clear hb1
    go_wp2_with fail
    refine (HME.out _ B1.out).mono ?_
    rintro e w2 ⟨rfl, hb2⟩
    have B2 := hid (bt7 B1.out hb2)
    have KD2 := hid (KD1.out.below hb2)
    have KR2 := hid (KR1.out.below hb2)
    clear hb2 d0 d1 B1 KD1 KR1
    rw [q3']
    have KR3 := hid (KR2.out.alloc (.cells #[.int .i64 gg, .int .i64 rr] 61))
    have r0 := KR3.out.cell (j := 0) rfl
    have r1 := KR3.out.cell (j := 1) rfl
    have r2 := KR3.out.cell (j := 2) rfl
    have r3 := KR3.out.cell (j := 3) rfl
    have r4 := KR3.out.cell (j := 4) rfl
    have f0 := KR3.out.free 0
    have f1 := KR3.out.free 1
    have f2 := KR3.out.free 2
    have f3 := KR3.out.free 3
    have f4 := KR3.out.free 4
    go_wp2
    try simp only [Exit.inBlock, Exit.then]
    refine bodyPost_ret (v := .tuple #[zeroS, .int .i64 2]) ?_ rfl ?_
    ·exact results_sto rfl _ _ (w.heap.size + 1) rfl rfl (by go_simp) (by go_simp) (by go_simp) (by go_simp) (by go_simp)
    ·refine ⟨?_, .inl ⟨by rw [HC.out]; decide, by rw [HC.out]⟩⟩
     exact (((((bt7 B2.out (below_new (Below.refl _ _))).setCell (p := ⟨w.heap.size + 1, 0, none⟩) (Nat.le_succ _) _).setCell (p := ⟨w.heap.size + 1, 1, none⟩) (Nat.le_succ _) _).setCell (p := ⟨w.heap.size + 1, 2, none⟩) (Nat.le_succ _) _).setCell (p := ⟨w.heap.size + 1, 3, none⟩) (Nat.le_succ _) _).setCell (p := ⟨w.heap.size + 1, 4, none⟩) (Nat.le_succ _) _
  ·have HC : Hid (stC d = 1) := by show _ = _; rw [stC, if_pos (.inr (by have := HDN.out; omega))]
   have q2' : (0 : Int) < (dn : Int) := by omega
   go_enter Tryz.func30, Tryz.ntmps30
   go_wp2_with fail
   refine (HOK.out _ HB0.out).mono ?_
   rintro e w1 ⟨rfl, hb1⟩
   rw [q1]
   have B1 := hid (bt7 HB0.out hb1)
   have KD1 := hid (KD.out.below hb1)
   have KR1 := hid (KR.out.below hb1)
   have d0 := KD1.out.cell (j := 0) rfl
   have d1 := KD1.out.cell (j := 1) rfl
   clear hb1
   have r0 := KR1.out.cell (j := 0) rfl
   have r1 := KR1.out.cell (j := 1) rfl
   have r2 := KR1.out.cell (j := 2) rfl
   have r3 := KR1.out.cell (j := 3) rfl
   have r4 := KR1.out.cell (j := 4) rfl
   have f0 := KR1.out.free 0
   have f1 := KR1.out.free 1
   have f2 := KR1.out.free 2
   have f3 := KR1.out.free 3
   have f4 := KR1.out.free 4
   go_wp2
   try simp only [Exit.inBlock, Exit.then]
   refine bodyPost_ret (v := .tuple #[zeroS, .int .i64 1]) ?_ rfl ?_
   ·exact results_sto rfl _ _ (w.heap.size + 1) rfl rfl (by go_simp) (by go_simp) (by go_simp) (by go_simp) (by go_simp)
   ·refine ⟨?_, .inl ⟨by rw [HC.out]; decide, by rw [HC.out]⟩⟩
    exact (((((B1.out).setCell (p := ⟨w.heap.size + 1, 0, none⟩) (Nat.le_succ _) _).setCell (p := ⟨w.heap.size + 1, 1, none⟩) (Nat.le_succ _) _).setCell (p := ⟨w.heap.size + 1, 2, none⟩) (Nat.le_succ _) _).setCell (p := ⟨w.heap.size + 1, 3, none⟩) (Nat.le_succ _) _).setCell (p := ⟨w.heap.size + 1, 4, none⟩) (Nat.le_succ _) _
 ·have HC : Hid (stC d = 1) := by show _ = _; rw [stC, if_pos (.inl (by simpa using q1))]
  have q1' : dkOk d = false := by simpa using q1
  go_enter Tryz.func30, Tryz.ntmps30
  go_wp2_with fail
  refine (HOK.out _ HB0.out).mono ?_
  rintro e w1 ⟨rfl, hb1⟩
  rw [q1']
  have B1 := hid (bt7 HB0.out hb1)
  have K1 := hid (KR.out.below hb1)
  clear hb1
  have r0 := K1.out.cell (j := 0) rfl
  have r1 := K1.out.cell (j := 1) rfl
  have r2 := K1.out.cell (j := 2) rfl
  have r3 := K1.out.cell (j := 3) rfl
  have r4 := K1.out.cell (j := 4) rfl
  have f0 := K1.out.free 0
  have f1 := K1.out.free 1
  have f2 := K1.out.free 2
  have f3 := K1.out.free 3
  have f4 := K1.out.free 4
  go_wp2
  try simp only [Exit.inBlock, Exit.then]
  refine bodyPost_ret (v := .tuple #[zeroS, .int .i64 1]) ?_ rfl ?_
  ·exact results_sto rfl _ _ (w.heap.size + 1) rfl rfl (by go_simp) (by go_simp) (by go_simp) (by go_simp) (by go_simp)
  ·refine ⟨?_, .inl ⟨by rw [HC.out]; decide, by rw [HC.out]⟩⟩
   exact (((((B1.out).setCell (p := ⟨w.heap.size + 1, 0, none⟩) (Nat.le_succ _) _).setCell (p := ⟨w.heap.size + 1, 1, none⟩) (Nat.le_succ _) _).setCell (p := ⟨w.heap.size + 1, 2, none⟩) (Nat.le_succ _) _).setCell (p := ⟨w.heap.size + 1, 3, none⟩) (Nat.le_succ _) _).setCell (p := ⟨w.heap.size + 1, 4, none⟩) (Nat.le_succ _) _
open Go.RowKit
set_option linter.unusedVariables false
def stD (d : DK) : DK := if stC d = 0 then d else ⟨[], []⟩
def stG (d : DK) : Int := if stC d = 0 then (bestM d 2).1 else 0
def stL (d : DK) : LS := if stC d = 0 then (stR d).getD ([], []) else ([], [])
theorem stC_ok {d : DK} (h : stC d = 0) : dkOk d = true ∧ d.dw.length = 0 := by
 unfold stC at h
 split at h
 ·cases h
 ·rename_i h1
  have h2 := not_or.1 h1
  exact ⟨by simpa using h2.1, by omega⟩
theorem stD_small {d : DK} (h : smallD d) : smallD (stD d) ∧ (stD d).sh.length ≤ 1048576 ∧ (stD d).dw.length ≤ 1048576 := by
 unfold stD
 split
 ·rename_i hc
  obtain ⟨h1, h2⟩ := stC_ok hc
  simp only [dkOk, Bool.and_eq_true, decide_eq_true_eq] at h1
  exact ⟨h, by omega, by omega⟩
 ·exact ⟨⟨fun i hi => by simp at hi, fun i hi => by simp at hi⟩, by simp, by simp⟩
structure SN (w : World) (B : Nat) (na : Option Addr) (nn nc : Nat) (pa : Option Addr) (pn pc : Nat) (V : List V3) (s : LS) : Prop where
 nod : NA w (.slice na nn nc) V s.1
 pla : w.ownsRow 0 3 1 (.slice pa pn pc) s.2.length (s.2.map (Value.int .i64))
 len : s.2.length = s.1.length
 bn : ∀ y, (Value.slice na nn nc).ownBlock = some y → B ≤ y
 bb : ∀ i, i < s.1.length → ∀ y, bl (vAt V i) y → B ≤ y
 bp : ∀ y, (Value.slice pa pn pc).ownBlock = some y → B ≤ y ∧ (Value.slice na nn nc).ownBlock ≠ some y ∧ ∀ i, i < s.1.length → ¬ bl (vAt V i) y
def snb (na : Option Addr) (nn nc : Nat) (pa : Option Addr) (pn pc : Nat) (V : List V3) (s : LS) (y : Nat) : Prop := (Value.slice na nn nc).ownBlock = some y ∨ (Value.slice pa pn pc).ownBlock = some y ∨ ∃ i, i < s.1.length ∧ bl (vAt V i) y
theorem SN.to {w w' : World} {B : Nat} {R : Nat → Prop} {na : Option Addr} {nn nc : Nat} {pa : Option Addr} {pn pc : Nat} {V : List V3} {s : LS} (h : SN w B na nn nc pa pn pc V s) (ho : Only R w w') (hR : ∀ y, snb na nn nc pa pn pc V s y → ¬ R y) : SN w' B na nn nc pa pn pc V s :=
 ⟨h.nod.to ho (fun y e => hR y (.inl e)) (fun i hi y e => hR y (.inr (.inr ⟨i, hi, e⟩))), own_kept h.pla ho (fun y e => hR y (.inr (.inl e))), h.len, h.bn, h.bb, h.bp⟩
theorem SN.below {w w' : World} {B : Nat} {na : Option Addr} {nn nc : Nat} {pa : Option Addr} {pn pc : Nat} {V : List V3} {s : LS} (h : SN w B na nn nc pa pn pc V s) (hb : Below w.heap.size w w') : SN w' B na nn nc pa pn pc V s := h.to (only_of_below hb (fun _ => False)) (fun _ _ h => h)
theorem SN.lt {w : World} {B : Nat} {na : Option Addr} {nn nc : Nat} {pa : Option Addr} {pn pc : Nat} {V : List V3} {s : LS} (h : SN w B na nn nc pa pn pc V s) {y : Nat} (hy : snb na nn nc pa pn pc V s y) : B ≤ y ∧ y < w.heap.size := by
 rcases hy with e | e | ⟨i, hi, e⟩
 ·exact ⟨h.bn y e, (World.ownsRow.lt h.nod.row y e).2⟩
 ·exact ⟨(h.bp y e).1, (World.ownsRow.lt h.pla y e).2⟩
 ·exact ⟨h.bb i hi y e, (h.nod.own i hi).1.lt e⟩
theorem SN.base {w : World} {B B' : Nat} {na : Option Addr} {nn nc : Nat} {pa : Option Addr} {pn pc : Nat} {V : List V3} {s : LS} (h : SN w B na nn nc pa pn pc V s) (hB : B' ≤ B) : SN w B' na nn nc pa pn pc V s :=
 ⟨h.nod, h.pla, h.len, fun y e => Nat.le_trans hB (h.bn y e), fun i hi y e => Nat.le_trans hB (h.bb i hi y e), fun y e => ⟨Nat.le_trans hB (h.bp y e).1, (h.bp y e).2⟩⟩
theorem so_uni {S : Nat → Prop} {sa : Option Addr} {sn sc : Nat} {da : Option Addr} {dn dc : Nat} {d : DK} {w w' : World} {e : Ending} (h : SoPost sa sn sc da dn dc d w e w') (hD : Dk w S sa sn sc da dn dc d) : Below w.heap.size w w' ∧ ∃ xa xn xc ya yn yc na nn nc pa pn pc V, e = .returned (.tuple #[.agg #[.slice xa xn xc, .slice ya yn yc, .int .i64 (stG d), .slice na nn nc, .slice pa pn pc], .int .i64 (stC d)]) ∧ Dk w' (fun y => y < w.heap.size) xa xn xc ya yn yc (stD d) ∧ SN w' w.heap.size na nn nc pa pn pc V (stL d) := by
 obtain ⟨hb, ⟨hc, rfl⟩ | ⟨s, na, nn, nc, pa, pn, pc, V, hc, hs, hl, rfl, h1, h2, h3, h4, h5⟩⟩ := h
 ·refine ⟨hb, none, 0, 0, none, 0, 0, none, 0, 0, none, 0, 0, [], ?_, ?_, ?_⟩
  ·rw [stG, if_neg hc]; rfl
  ·rw [stD, if_neg hc]
   exact ⟨⟨[], rfl, rw_nil _ _, fun i hi => by simp at hi⟩, ⟨[], rfl, rw_nil _ _, fun i hi => by simp at hi⟩⟩
  ·rw [stL, if_neg hc]
   exact ⟨na_nil _, World.ownsRow_nil _ _ _ _, rfl, fun y e => (by cases e), fun i hi => (by simp at hi), fun y e => (by cases e)⟩
 ·refine ⟨hb, sa, sn, sc, da, dn, dc, na, nn, nc, pa, pn, pc, V, ?_, ?_, ?_⟩
  ·rw [stG, if_pos hc, hc]
  ·rw [stD, if_pos hc]
   exact (hD.mono (fun y _ h => h)).below hb
  ·rw [stL, if_pos hc, hs]
   exact ⟨h1, h2, hl, h3, h4, h5⟩
def SiPost (d : DK) (w : World) (e : Ending) (w' : World) : Prop := Below w.heap.size w w' ∧ ∃ sa sn sc da dn dc Vd U na nn nc pa pn pc V, e = .returned (.tuple #[.agg #[.slice sa sn sc, .slice da dn dc, .int .i64 (stG d), .slice na nn nc, .slice pa pn pc], .int .i64 (stC d)]) ∧ DO w' w.heap.size (.slice sa sn sc) Vd (.slice da dn dc) U (stD d) ∧ SN w' w.heap.size na nn nc pa pn pc V (stL d) ∧ ∀ y, dbl (.slice sa sn sc) Vd (.slice da dn dc) U y → ¬ snb na nn nc pa pn pc V (stL d) y
set_option maxHeartbeats 8000000 in
set_option maxRecDepth 100000 in
theorem implStoreOpen_any (S : Nat → Prop) (sa : Option Addr) (sn sc : Nat) (da : Option Addr) (dn dc : Nat) (d : DK) (w : World) (h : Dk w S sa sn sc da dn dc d) (hsm : smallD d) (he : Err w 0) (he2 : Err w 1) (he3 : Err w 2) :
  Calls Tryz.prog 9 #[.agg #[.slice sa sn sc, .slice da dn dc]] w fun e w' => SiPost d w e w' := by
 have HB0 : Hid (Below w.heap.size w ((w.alloc (.cells #[.slice sa sn sc, .slice da dn dc] 30)).alloc (.cells #[.slice none 0 0, .slice none 0 0, .int .i64 0, .slice none 0 0, .slice none 0 0] 36))) := below_new (below_new (Below.refl _ _))
 have KR : Hid (Bk ((w.alloc (.cells #[.slice sa sn sc, .slice da dn dc] 30)).alloc (.cells #[.slice none 0 0, .slice none 0 0, .int .i64 0, .slice none 0 0, .slice none 0 0] 36)) (w.heap.size + 1) 36 [.slice none 0 0, .slice none 0 0, .int .i64 0, .slice none 0 0, .slice none 0 0]) := by
  have h := Bk.new (w.alloc (.cells #[.slice sa sn sc, .slice da dn dc] 30)) 36 [.slice none 0 0, .slice none 0 0, .int .i64 0, .slice none 0 0, .slice none 0 0]
  show Bk _ _ _ _
  simpa using h
 have HD0 := hid (h.below HB0.out)
 have HSO := hid (storeOn_any S sa sn sc da dn dc d _ HD0.out hsm (he.below HB0.out he.lt) (he2.below HB0.out he2.lt) (he3.below HB0.out he3.lt))
 have HSM := hid (stD_small hsm)
 clear h hsm he he2 he3
 go_enter Tryz.func9, Tryz.ntmps9
 go_wp2_with fail
 refine HSO.out.mono ?_
 intro e w1 hpost
 obtain ⟨hb1, xa, xn, xc, ya, yn, yc, na, nn, nc, pa, pn, pc, V, rfl, hDk, hSN⟩ := so_uni hpost HD0.out
 have B1 := hid (bt7 HB0.out hb1)
 have HS0 : Hid (w.heap.size + 2 ≤ ((w.alloc (.cells #[.slice sa sn sc, .slice da dn dc] 30)).alloc (.cells #[.slice none 0 0, .slice none 0 0, .int .i64 0, .slice none 0 0, .slice none 0 0] 36)).heap.size) := by have := KR.out.lt; show _ ≤ _; omega
 have B2 : Hid (Below w1.heap.size w1 (w1.alloc (.cells #[.slice xa xn xc, .slice ya yn yc, .int .i64 (stG d), .slice na nn nc, .slice pa pn pc] 36))) := below_new (Below.refl _ _)
 have DK2 := hid (hDk.below B2.out)
 have SN2 := hid ((hSN.base HS0.out).below B2.out)
 have SNL : Hid (∀ y, snb na nn nc pa pn pc V (stL d) y → w.heap.size + 2 ≤ y ∧ y < w1.heap.size) := fun y hy => (hSN.base HS0.out).lt hy
 have KR2 := hid ((KR.out.below hb1).below B2.out)
 have HZ : Hid (w1.heap.size < (w1.alloc (.cells #[.slice xa xn xc, .slice ya yn yc, .int .i64 (stG d), .slice na nn nc, .slice pa pn pc] 36)).heap.size) := by show _ < _; simp
 have KS := hid (Bk.new w1 36 [.slice xa xn xc, .slice ya yn yc, .int .i64 (stG d), .slice na nn nc, .slice pa pn pc])
 have HXN := DK2.out.hs.len
 have HYN := DK2.out.hd.len
 have HCP := hid (copyDisk_any _ xa xn xc ya yn yc (stD d) _ DK2.out HSM.out.1 (by have := HSM.out.2.1; omega) (by have := HSM.out.2.2; omega))
 have HR1 : Hid (w.heap.size + 1 < w1.heap.size) := Nat.lt_of_lt_of_le KR.out.lt hb1.size
 clear hpost hDk hSN hb1 HSO HD0 HXN HYN
 have s0 := KS.out.cell (j := 0) rfl
 have s1 := KS.out.cell (j := 1) rfl
 have s2 := KS.out.cell (j := 2) rfl
 have s3 := KS.out.cell (j := 3) rfl
 have s4 := KS.out.cell (j := 4) rfl
 have B12 := hid (bt7 B1.out B2.out)
 go_wp2_with fail
 refine HCP.out.mono ?_
 generalize w1.alloc (.cells #[.slice xa xn xc, .slice ya yn yc, .int .i64 (stG d), .slice na nn nc, .slice pa pn pc] 36) = U1 at *
 generalize w1.heap.size = b1 at *
 rintro e w2 ⟨za, zn, zc, ua, un, uc, Vd, U, rfl, hDO, hb2⟩
 have B3 := hid (bt7 B12.out hb2)
 have SN3 := hid (SN2.out.below hb2)
 have HDO := hid hDO
 have KR3 := hid (KR2.out.below hb2)
 have KS3 := hid (KS.out.below hb2)
 have hne : ¬ b1 = w.heap.size + 1 := by have := HR1.out; omega
 have hne' : ¬ w.heap.size + 1 = b1 := by have := HR1.out; omega
 clear hb2 hDO HCP s0 s1 s2 s3 s4
 have s0 := KS3.out.cell (j := 0) rfl
 have s1 := KS3.out.cell (j := 1) rfl
 have s2 := KS3.out.cell (j := 2) rfl
 have s3 := KS3.out.cell (j := 3) rfl
 have s4 := KS3.out.cell (j := 4) rfl
 have g0 := KS3.out.free 0
 have g1 := KS3.out.free 1
 have g2 := KS3.out.free 2
 have g3 := KS3.out.free 3
 have g4 := KS3.out.free 4
 have o1 : Hid (Only (fun y => y = b1) w2 ((w2.setCell ⟨b1, 0, none⟩ (.slice za zn zc)).setCell ⟨b1, 1, none⟩ (.slice ua un uc))) := (only_set (R := fun y => y = b1) (p := ⟨b1, 0, none⟩) rfl _).trans (only_set (R := fun y => y = b1) (p := ⟨b1, 1, none⟩) rfl _)
 have KR4 := hid (KR3.out.to o1.out (fun e => hne' e))
 clear KR3
 have r0 := KR4.out.cell (j := 0) rfl
 have r1 := KR4.out.cell (j := 1) rfl
 have r2 := KR4.out.cell (j := 2) rfl
 have r3 := KR4.out.cell (j := 3) rfl
 have r4 := KR4.out.cell (j := 4) rfl
 have f0 := KR4.out.free 0
 have f1 := KR4.out.free 1
 have f2 := KR4.out.free 2
 have f3 := KR4.out.free 3
 have f4 := KR4.out.free 4
 have KR5 := hid ((((((KR4.out.set 0 (.slice za zn zc)).set 1 (.slice ua un uc)).set 2 (.int .i64 (stG d))).set 3 (.slice na nn nc)).set 4 (.slice pa pn pc)))
 have o2 : Hid (Only (fun y => y = w.heap.size + 1) ((w2.setCell ⟨b1, 0, none⟩ (.slice za zn zc)).setCell ⟨b1, 1, none⟩ (.slice ua un uc)) (((((((w2.setCell ⟨b1, 0, none⟩ (.slice za zn zc)).setCell ⟨b1, 1, none⟩ (.slice ua un uc)).setCell ⟨w.heap.size + 1, 0, none⟩ (.slice za zn zc)).setCell ⟨w.heap.size + 1, 1, none⟩ (.slice ua un uc)).setCell ⟨w.heap.size + 1, 2, none⟩ (.int .i64 (stG d))).setCell ⟨w.heap.size + 1, 3, none⟩ (.slice na nn nc)).setCell ⟨w.heap.size + 1, 4, none⟩ (.slice pa pn pc))) := (((((only_set (R := fun y => y = w.heap.size + 1) (p := ⟨w.heap.size + 1, 0, none⟩) rfl _).trans (only_set (R := fun y => y = w.heap.size + 1) (p := ⟨w.heap.size + 1, 1, none⟩) rfl _)).trans (only_set (R := fun y => y = w.heap.size + 1) (p := ⟨w.heap.size + 1, 2, none⟩) rfl _)).trans (only_set (R := fun y => y = w.heap.size + 1) (p := ⟨w.heap.size + 1, 3, none⟩) rfl _)).trans (only_set (R := fun y => y = w.heap.size + 1) (p := ⟨w.heap.size + 1, 4, none⟩) rfl _))
 clear KR4
 go_wp2
 try simp only [Exit.inBlock, Exit.then]
 refine bodyPost_ret (v := .tuple #[.agg #[.slice za zn zc, .slice ua un uc, .int .i64 (stG d), .slice na nn nc, .slice pa pn pc], .int .i64 (stC d)]) ?_ rfl ?_
 ·exact results_sto rfl _ _ (w.heap.size + 1) rfl rfl (KR5.out.cell (j := 0) rfl) (KR5.out.cell (j := 1) rfl) (KR5.out.cell (j := 2) rfl) (KR5.out.cell (j := 3) rfl) (KR5.out.cell (j := 4) rfl)
 ·have key : ∀ v, Only (fun y => y = w.heap.size + 1 ∨ y = b1) w2 v → SiPost d w (.returned (.tuple #[.agg #[.slice za zn zc, .slice ua un uc, .int .i64 (stG d), .slice na nn nc, .slice pa pn pc], .int .i64 (stC d)])) v := by
   intro v o
   have h1 := HR1.out
   have h2 := HZ.out
   refine ⟨B3.out.trans (o.below B3.out.size (fun y hy e => by rcases e with e | e <;> omega)), za, zn, zc, ua, un, uc, Vd, U, na, nn, nc, pa, pn, pc, V, rfl, ?_, ?_, ?_⟩
   ·refine (HDO.out.to o (fun y hy e => ?_)).base (by omega)
    have := (HDO.out.lt hy).1
    rcases e with e | e <;> omega
   ·refine (SN3.out.to o (fun y hy e => ?_)).base (by omega)
    have h3 := SNL.out y hy
    rcases e with e | e <;> omega
   ·intro y hy hz
    have h3 := SNL.out y hz
    have := (HDO.out.lt hy).1
    omega
  exact key _ ((o1.out.mono (fun y _ e => .inr e)).trans (o2.out.mono (fun y _ e => .inl e)))
open Go.RowKit
set_option linter.unusedVariables false
theorem pcs_str (ps : List PB) : ∀ u ∈ pcs ps, isStr u := by
 induction ps with
 | nil => intro u hu; cases hu
 | cons p ps ih =>
  intro u hu
  simp only [pcs, List.mem_cons] at hu
  rcases hu with rfl | rfl | hu
  ·exact ⟨_, rfl⟩
  ·exact ⟨_, rfl⟩
  ·exact ih u hu
open Go.RowKit
open Go.RowKit
open Go.RowKit
open Go.RowKit
open Go.RowKit
open Go.RowKit
open Go.RowKit
end Go.Proofs.YtidjehapeanpbaaGreatDoor
