/-
  readBranch, given read.
-/
import Derived.Test.YtbaggkfgnjenoaaRd2
namespace Go.Proofs.Ytbaggkfgnjenoaa
open Go.RowKit
/-- How far readBranch has come: the kids ts have been read. -/
structure BrI (w wr : World) (wb : Nat) (nv q0 q1 q2 : Value) (ts : List T) (nx : Nat) (kv : Value) (A : Nat → Nat) (SS : Nat → Nat → Prop) : Prop where
  wlt : wb < w.heap.size
  walk : Bk wr wb 175 [nv, .int .i64 nx]
  par : Bk wr w.heap.size 135 [q0, q1, q2]
  only : Only (fun b => b = wb) w wr
  br : Bk wr (w.heap.size + 1) 173 [.slice none 0 0, kv]
  row : Ok wr (w.heap.size + 2) kv ts.length A
  sub : ∀ i, i < ts.length → ∀ x, SS i x → w.heap.size + 2 ≤ x ∧ x < wr.heap.size ∧ kv.ownBlock ≠ some x
  dis : ∀ i j, i < ts.length → j < ts.length → i ≠ j → ∀ x, SS i x → ¬ SS j x
  kid : ∀ i, i < ts.length → Limb wr (SS i) (A i) (tAt ts i)
  rdy : ∀ i, i < ts.length → Rdy (tAt ts i)
theorem BrI.read {w wr w1 : World} {wb : Nat} {nv q0 q1 q2 : Value} {ts : List T} {nx n1 : Nat} {kv : Value} {A : Nat → Nat} {SS : Nat → Nat → Prop} (h : BrI w wr wb nv q0 q1 q2 ts nx kv A SS)
    (ho : Only (fun b => b = wb) wr w1) (hb : Bk w1 wb 175 [nv, .int .i64 n1]) : BrI w w1 wb nv q0 q1 q2 ts n1 kv A SS := by
  have hw := h.wlt
  refine ⟨h.wlt, hb, h.par.to ho (by omega), h.only.trans ho, h.br.to ho (by omega), h.row.to ho (fun k e => ?_), fun i hi x hx => ?_, h.dis, fun i hi => (h.kid i hi).to ho (fun x hx => ?_), h.rdy⟩
  · have := (World.ownsRow.lt h.row k e).1; omega
  · have := h.sub i hi x hx; have := ho.size; exact ⟨by omega, by omega, (h.sub i hi x hx).2.2⟩
  · have := h.sub i hi x hx; omega
theorem BrI.keep {w wr w1 : World} {wb : Nat} {nv q0 q1 q2 : Value} {ts : List T} {nx : Nat} {kv : Value} {A : Nat → Nat} {SS : Nat → Nat → Prop} (h : BrI w wr wb nv q0 q1 q2 ts nx kv A SS)
    (hb : Below wr.heap.size wr w1) : BrI w w1 wb nv q0 q1 q2 ts nx kv A SS := h.read (only_of_below hb _) (h.walk.below hb)
theorem BrI.push {w u w2 : World} {wb : Nat} {nv q0 q1 q2 : Value} {ts : List T} {nx : Nat} {kv v' : Value} {A : Nat → Nat} {SS : Nat → Nat → Prop} (h : BrI w u wb nv q0 q1 q2 ts nx kv A SS)
    {P : Nat → Prop} {b : Nat} {t : T} (hl : Limb u P b t) (hP : ∀ x, P x → w.heap.size + 2 ≤ x ∧ x < u.heap.size ∧ kv.ownBlock ≠ some x ∧ ∀ i, i < ts.length → ¬ SS i x) (ht : Rdy t)
    (ho : Ok w2 (w.heap.size + 2) v' (ts.length + 1) (fun i => if i = ts.length then b else A i)) (hg : u.grownBy w2 kv.ownBlock) (ha : v'.ownBlock = kv.ownBlock ∨ v'.ownBlock = some u.heap.size) :
    BrI w (w2.setCell ⟨w.heap.size + 1, 1, none⟩ v') wb nv q0 q1 q2 (ts ++ [t]) nx v' (fun i => if i = ts.length then b else A i) (fun i => if i = ts.length then P else SS i) := by
  have hw := h.wlt
  have hkv := fun k e => (World.ownsRow.lt h.row k e).1
  have hsz : u.heap.size ≤ w2.heap.size := hg.size
  have hbr := h.br.lt
  have hav : ∀ x, v'.ownBlock = some x → w.heap.size + 2 ≤ x := fun x e => (World.ownsRow.lt ho x e).1
  have o1 : Only (fun b => some b = kv.ownBlock) u w2 := only_of_grown hg (fun k e => e.symm)
  have o2 : Only (fun b => b = w.heap.size + 1) w2 (w2.setCell ⟨w.heap.size + 1, 1, none⟩ v') := only_set (R := fun b => b = w.heap.size + 1) rfl _
  have o3 : Only (fun b => some b = kv.ownBlock ∨ b = w.heap.size + 1) u (w2.setCell ⟨w.heap.size + 1, 1, none⟩ v') := (o1.mono (fun _ _ e => .inl e)).then o2 (fun _ _ e => .inr e)
  refine ⟨h.wlt, h.walk.to o3 ?_, h.par.to o3 ?_, ?_, ?_, ?_, ?_, ?_, ?_, ?_⟩
  · rintro (e | e)
    · have := hkv wb e.symm; omega
    · omega
  · rintro (e | e)
    · have := hkv w.heap.size e.symm; omega
    · omega
  · refine h.only.then o3 (fun i hi e => ?_)
    rcases e with e | e
    · have := hkv i e.symm; omega
    · omega
  · have k1 := h.br.to o1 (fun e => by have := hkv _ e.symm; omega)
    exact k1.set 1 v'
  · rw [List.length_append]
    exact ho.to o2 (fun k e => by have := hav k e; omega)
  · intro i hi x hx
    have hz : (w2.setCell ⟨w.heap.size + 1, 1, none⟩ v').heap.size = w2.heap.size := by simp [World.setCell]
    rw [hz]
    by_cases e : i = ts.length
    · subst e
      simp only [if_true] at hx
      obtain ⟨p1, p2, p3, p4⟩ := hP x hx
      refine ⟨p1, by omega, ?_⟩
      rcases ha with ha | ha
      · rw [ha]; exact p3
      · rw [ha]; intro e; cases e; omega
    · simp only [e, if_false] at hx
      simp at hi
      obtain ⟨p1, p2, p3⟩ := h.sub i (by omega) x hx
      refine ⟨p1, by omega, ?_⟩
      rcases ha with ha | ha
      · rw [ha]; exact p3
      · rw [ha]; intro e; cases e; omega
  · intro i j hi hj hij x hx hy
    simp at hi hj
    by_cases e : i = ts.length
    · subst e
      simp only [if_true] at hx
      rw [if_neg (by omega)] at hy
      exact (hP x hx).2.2.2 j (by omega) hy
    · rw [if_neg e] at hx
      by_cases e' : j = ts.length
      · subst e'
        simp only [if_true] at hy
        exact (hP x hy).2.2.2 i (by omega) hx
      · rw [if_neg e'] at hy
        exact h.dis i j (by omega) (by omega) hij x hx hy
  · intro i hi
    rw [tAt_snoc _ _ _ hi]
    by_cases e : i = ts.length
    · subst e
      simp only [if_true]
      exact hl.to o3 (fun x hx => by
        rintro (e | e)
        · exact (hP x hx).2.2.1 e.symm
        · have := (hP x hx).1; omega)
    · simp only [e, if_false]
      simp at hi
      exact (h.kid i (by omega)).to o3 (fun x hx => by
        have := h.sub i (by omega) x hx
        rintro (e | e)
        · exact this.2.2 e.symm
        · omega)
  · intro i hi
    rw [tAt_snoc _ _ _ hi]
    by_cases e : i = ts.length
    · rw [if_pos e]; exact ht
    · rw [if_neg e]; simp at hi; exact h.rdy i (by omega)
theorem BrI.limb {w wr : World} {wb : Nat} {nv q0 q1 q2 : Value} {ts : List T} {nx : Nat} {kv : Value} {A : Nat → Nat} {SS : Nat → Nat → Prop} (h : BrI w wr wb nv q0 q1 q2 ts nx kv A SS) :
    Limb wr (fun y => w.heap.size ≤ y ∧ y < wr.heap.size) (w.heap.size + 1) (.mk [] ts) := by
  have hbr := h.br.lt
  refine .mk _ _ (.slice none 0 0) kv [] ts A SS ⟨by omega, hbr⟩ h.br (World.ownsRow_nil _ _ _ _) (own_mono h.row (Nat.zero_le _)) (fun x hx => by cases hx) (fun x hx => ?_) (fun i hi x hx => ?_) h.dis h.kid
  · have := World.ownsRow.lt h.row x hx
    exact ⟨⟨by omega, this.2⟩, by omega, by simp [Value.ownBlock]⟩
  · have := h.sub i hi x hx
    exact ⟨⟨by omega, this.2.1⟩, by omega, by simp [Value.ownBlock], this.2.2⟩
theorem BrI.first {w : World} {wb : Nat} {nv q0 q1 q2 : Value} {nx : Nat} (hw : Bk w wb 175 [nv, .int .i64 nx]) :
    BrI w ((w.alloc (.cells #[q0, q1, q2] 135)).alloc (.cells #[.slice none 0 0, .slice none 0 0] 173)) wb nv q0 q1 q2 [] nx (.slice none 0 0) (fun _ => 0) (fun _ _ => False) := by
  refine ⟨hw.lt, (hw.alloc _).alloc _, (Bk.new w 135 [q0, q1, q2]).alloc _, only_of_below (below_new (below_new (Below.refl _ _))) _, ?_, World.ownsRow_nil _ _ _ _, fun i hi => by simp at hi, fun i j hi => by simp at hi, fun i hi => by simp at hi, fun i hi => by simp at hi⟩
  have := Bk.new (w.alloc (.cells #[q0, q1, q2] 135)) 173 [.slice none 0 0, .slice none 0 0]
  simpa using this
set_option maxHeartbeats 8000000 in
theorem readBranch_any (ns : List NB) (f : Nat) (ih : ReadC ns f) (S : Nat → Prop) (wb : Nat) (an : Option Addr) (nn cn : Nat) (ap ax ai : Option Addr) (np cp nk cx ni ci : Nat) (x : NB) (nx : Nat) (w : World)
    (hW : Bk w wb 175 [.slice an nn cn, .int .i64 nx]) (hN : Nr w S (.slice an nn cn) ns) (hwb : ¬ S wb) (hlen : ns.length < 400) (hnx : nx ≤ ns.length) (hf : ns.length ≤ nx + f)
    (hP : Pr w S (.slice ap np cp) x.ps) (hS : Sr w S (.slice ax nk cx) x.keys) (hI : Ir w S (.slice ai ni ci) x.kids) :
    Calls Try.prog 151 #[.pointer (some ⟨wb, 0, none⟩), .agg #[.slice ap np cp, .slice ax nk cx, .slice ai ni ci]] w fun e w' => ReadPost (brT ns f x nx) w wb (.slice an nn cn) e w' ∧ Only (fun b => b = wb) w w' := by
  have HIH := hid ih
  have HW := hid hW
  have HN := hid hN
  have HWB := hid hwb
  have HLEN := hid hlen
  have HNX := hid hnx
  have HF := hid hf
  have HS := hid hS
  have HI := hid hI
  have lp := hid (Rw.len hP).1
  have lk := hid (Rw.len hS).1
  have li := hid (Rw.len hI).1
  have b1 := (Rw.len hP).2.1
  have b2 := (Rw.len hP).2.2
  have b3 := (Rw.len hS).2.1
  have b4 := (Rw.len hS).2.2
  have b5 := (Rw.len hI).2.1
  have b6 := (Rw.len hI).2.2
  clear ih hW hN hwb hlen hnx hf hP hS hI
  have HB0 := hid (below_new (o := .cells #[.slice ap np cp, .slice ax nk cx, .slice ai ni ci] 135) (w := w) (Below.refl _ _))
  have KP := hid (Bk.new w 135 [.slice ap np cp, .slice ax nk cx, .slice ai ni ci])
  have LB : Hid (brOk x = !(decide (ni < 2) || decide (4 < ni) || !decide ((nk : Int) = (ni : Int) - 1) || !decide (np = 0))) := by
    show _ = _
    rw [lp.out, lk.out, li.out]; rfl
  by_cases a1 : ni < 2
  · have HR : Hid (brT ns f x nx = none) := by show _ = _; rw [brT, if_neg]; rw [LB.out]; simp [a1]
    have e1 : (ni : Int) < 2 := by omega
    clear LB a1
    go_enter Try.func151, Try.ntmps151
    go_wp2
    go_ret
    exact ⟨by rw [HR.out]; rfl, only_of_below HB0.out _⟩
  · have e1 : ¬ (ni : Int) < 2 := by omega
    by_cases a2 : 4 < ni
    · have HR : Hid (brT ns f x nx = none) := by show _ = _; rw [brT, if_neg]; rw [LB.out]; simp [a2]
      have e2 : (4 : Int) < (ni : Int) := by omega
      clear LB a1 a2
      go_enter Try.func151, Try.ntmps151
      go_wp2
      go_ret
      exact ⟨by rw [HR.out]; rfl, only_of_below HB0.out _⟩
    · have e2 : ¬ (4 : Int) < (ni : Int) := by omega
      by_cases a3 : (nk : Int) = (ni : Int) - 1
      · have e3 : ((nk : Int) != (ni : Int) - 1) = false := by simp [a3]
        by_cases a4 : np = 0
        · have e4 : ((np : Int) != 0) = false := by simp [a4]
          have HOK : Hid (brOk x = true) := by show _ = _; rw [LB.out]; simp [a1, a2, a3, a4]
          have HNK := hid a3
          have HIN : Hid (ni ≤ 4) := by show _ ≤ _; omega
          clear LB a3 a4
          go_enter Try.func151, Try.ntmps151
          have HI0 := hid (BrI.first (q0 := .slice ap np cp) (q1 := .slice ax nk cx) (q2 := .slice ai ni ci) HW.out)
          go_wp2_with fail
          go_loopw [38] (fun i wr => ∃ (ts : List T) (nx' : Nat) (kv : Value) (A : Nat → Nat) (SS : Nat → Nat → Prop), i = .int .i64 (ts.length : Int) ∧ Hid (ts.length ≤ ni) ∧ Hid (BrI w wr wb (.slice an nn cn) (.slice ap np cp) (.slice ax nk cx) (.slice ai ni ci) ts nx' kv A SS) ∧ Hid (nx ≤ nx' ∧ nx' ≤ ns.length) ∧ Hid (rdIL (rdI ns f) x.keys ts (x.kids.drop ts.length) nx' = rdIL (rdI ns f) x.keys [] x.kids nx)) (fun i _ => ni - (intOf i).toNat)
          case atStart => exact ⟨[], nx, _, _, _, rfl, Nat.zero_le _, HI0.out, ⟨Nat.le_refl _, HNX.out⟩, rfl⟩
          case round =>
            obtain ⟨ts, nx', kv, A, SS, rfl, HTL, HBI, HNB, HRD⟩ := hrel
            generalize hk : ts.length = k at *
            have HKL := hid hk
            clear hk
            have HNr := hid (HN.out.to HBI.out.only (fun b hb _ e => HWB.out (e ▸ hb)))
            have HIr := hid (HI.out.to HBI.out.only (fun b hb _ e => HWB.out (e ▸ hb)))
            have HSr := hid (HS.out.to HBI.out.only (fun b hb _ e => HWB.out (e ▸ hb)))
            have p1 := HBI.out.par.cell (j := 1) rfl
            by_cases hlt : k < ni
            · have hlt' : (k : Int) < (ni : Int) := by omega
              obtain ⟨bi, offi, rfl, _, _, hci⟩ := HIr.out.at (by omega)
              have hck := hci k hlt
              have HKD : Hid (x.kids.drop k = iAt x.kids k :: x.kids.drop (k + 1)) := by
                show _ = _
                have hl : k < x.kids.length := by rw [← li.out]; exact hlt
                rw [List.drop_eq_getElem_cons hl]
                simp [iAt, hl]
              clear hci
              generalize hpl : iAt x.kids k = pl at hck HKD
              clear hpl
              go_wp2_with fail
              refine (HIH.out S wb an nn cn pl nx' wr HBI.out.walk HNr.out HWB.out HLEN.out HNB.out.2 (by have := HF.out; have := HNB.out.1; omega)).mono ?_
              rintro e w1 ⟨hpost, ho1⟩
              cases hr : rdI ns f pl nx' with
              | none =>
                rw [hr] at hpost
                have he : e = .returned (.pointer none) := hpost
                subst he
                have HR : Hid (brT ns f x nx = none) := by
                  show _ = _
                  have h1 := HRD.out
                  rw [HKD.out, rdIL, hr] at h1
                  rw [brT, if_pos HOK.out, ← h1]
                have HO1 := hid (HBI.out.only.trans ho1)
                clear hpost ho1 hr
                go_wp2
                go_ret
                exact ⟨by rw [HR.out]; rfl, HO1.out⟩
              | some tn =>
                obtain ⟨t, n1⟩ := tn
                rw [hr] at hpost
                obtain ⟨b, he, hL, hB⟩ := hpost
                subst he
                have HRI := hid (rdI_rdy hr (by have := HLEN.out; omega))
                have HB1 := hid (HBI.out.read ho1 hB)
                have HL := hid hL
                have HPP : Hid (∀ y, (wr.heap.size ≤ y ∧ y < w1.heap.size) → w.heap.size + 2 ≤ y ∧ y < w1.heap.size ∧ kv.ownBlock ≠ some y ∧ ∀ i, i < ts.length → ¬ SS i y) := by
                  rintro y ⟨h1, h2⟩
                  have h3 := HBI.out.br.lt
                  refine ⟨by omega, h2, fun e => ?_, fun i hi hs => ?_⟩
                  · have := (World.ownsRow.lt HBI.out.row y e).2; omega
                  · have := (HBI.out.sub i hi y hs).2.1; omega
                have HRD1 : Hid (rdIL (rdI ns f) x.keys [] x.kids nx = if 0 < ts.length ∧ (t.least ≠ sAt x.keys (ts.length - 1) ∨ t.lv ≠ (tAt ts 0).lv) then none else rdIL (rdI ns f) x.keys (ts ++ [t]) (x.kids.drop (k + 1)) n1) := by
                  show _ = _
                  have h1 := HRD.out
                  rw [HKD.out, rdIL, hr] at h1
                  rw [← h1]
                  rfl
                have p1' := HB1.out.par.cell (j := 1) rfl
                have HSr1 := hid (HS.out.to HB1.out.only (fun b hb _ e => HWB.out (e ▸ hb)))
                clear hL hB hr ho1 HBI HRD HKD p1
                obtain ⟨ak, ck, hkv⟩ := HB1.out.row.shape
                rw [HKL.out] at hkv
                subst hkv
                cases k with
                | zero =>
                  have HTS : Hid (ts = []) := List.eq_nil_of_length_eq_zero HKL.out
                  have HRD2 : Hid (rdIL (rdI ns f) x.keys (ts ++ [t]) (x.kids.drop (0 + 1)) n1 = rdIL (rdI ns f) x.keys [] x.kids nx) := by
                    show _ = _
                    rw [HRD1.out, if_neg]
                    rw [HKL.out]; omega
                  clear HRD1
                  have c1 := HB1.out.br.cell (j := 1) rfl
                  have f1 := HB1.out.br.free 1
                  go_wp2_with fail
                  go_quiet (fail)
                  have HB2 := hid (HB1.out.keep (Below.drewN' (Below.refl _ _) nq))
                  have HL2 := hid (HL.out.kept (Below.drewN' (Below.refl _ _) nq))
                  have HOK2 : Hid (Ok (w1.drewN nq) (w.heap.size + 2) (.slice ak (0) ck) (0) A) := by have := HB2.out.row; rw [HKL.out] at this; exact this
                  have HB3 := hid (HB2.out.keep (below_new (o := .cells #[.pointer (some ⟨b, 0, none⟩)] 140) (Below.refl _ _)))
                  have HL3 := hid (HL2.out.kept (below_new (o := .cells #[.pointer (some ⟨b, 0, none⟩)] 140) (Below.refl _ _)))
                  have HSZ : Hid (w.heap.size + 2 ≤ w1.heap.size) := by have := HB1.out.br.lt; show _ ≤ _; omega
                  go_wp2_with (at_builtin; refine wpList_append_ptr rfl _ _ rfl (w.heap.size + 2) _ (0) A rfl (HOK2.out.kept (below_new (o := .cells #[.pointer (some ⟨b, 0, none⟩)] 140) (Below.refl _ _))) w1.heap.size b rfl ?qc ?qb ?qd ?_)
                  case qc => exact (Bk.new (w1.drewN nq) 140 [.pointer (some ⟨b, 0, none⟩)]).cell (j := 0) rfl
                  case qb => have := HIN.out; omega
                  case qd => have := HSZ.out; simp; omega
                  intro v2 w2 hO2 hg2 ha2
                  obtain ⟨a2, cc2, hv2⟩ := hO2.shape
                  subst hv2
                  have HB4 := hid (HB3.out.push (P := fun y => wr.heap.size ≤ y ∧ y < w1.heap.size) HL3.out (fun y hy => ⟨(HPP.out y hy).1, by have := (HPP.out y hy).2.1; simp; omega, (HPP.out y hy).2.2⟩) HRI.out.1 (by rw [HKL.out]; exact hO2) hg2 (by simpa using ha2))
                  have K2 := HB3.out.br.to (only_of_grown (R := fun y => w.heap.size + 2 ≤ y) hg2 (fun y e => (World.ownsRow.lt HB3.out.row y e).1)) (by omega)
                  have c2 := K2.cell (j := 1) rfl
                  have f2 := K2.free 1
                  have HRD3 : Hid (rdIL (rdI ns f) x.keys (ts ++ [t]) (x.kids.drop (ts ++ [t]).length) n1 = rdIL (rdI ns f) x.keys [] x.kids nx) := by
                    show _ = _
                    rw [List.length_append, HKL.out]
                    exact HRD2.out
                  have HTL2 : Hid ((ts ++ [t]).length = 0 + 1) := by show _ = _; rw [List.length_append, HKL.out]; rfl
                  clear K2 hO2 hg2 ha2 HB3 HL3 HOK2 HRD2
                  go_wp2
                  go_roundw
                  case rel => exact ⟨ts ++ [t], n1, _, _, _, by rw [HTL2.out]; go_num, by show _ ≤ _; rw [HTL2.out]; omega, HB4.out, ⟨by have := HNB.out.1; have := HRI.out.2.2; omega, HRI.out.2.1⟩, HRD3.out⟩
                  case measure => simp [intOf]; omega
                | succ k' =>
                  have hk1 : (0 : Int) < (k' : Int) + 1 := by omega
                  obtain ⟨bs, offs, hax, _, _, hcs⟩ := HSr1.out.at (by have := HNK.out; omega)
                  subst hax
                  have hks := hcs k' (by have := HNK.out; omega)
                  have hkk : (k' : Int) < (nk : Int) := by have := HNK.out; omega
                  clear hcs
                  obtain ⟨g0, og, hag, _, _, hcg⟩ := Rw.at (rw_own (S := fun _ => True) (by have := HB1.out.row; rw [HKL.out] at this; exact this) (fun _ _ _ _ => trivial)) (by omega)
                  subst hag
                  have hg0 := hcg 0 _ (ptrs_at A _ 0 (by omega))
                  simp only [ptr, Nat.add_zero] at hg0
                  clear hcg
                  have HT0 := hid (HB1.out.rdy 0 (by rw [HKL.out]; omega))
                  have HL0 := hid (HB1.out.kid 0 (by rw [HKL.out]; omega))
                  have CL : ∀ n, Calls Try.prog 162 #[.pointer (some ⟨b, 0, none⟩)] (w1.drewN n) fun e w' => e = .returned (.string t.least) ∧ ∃ m, w' = (w1.drewN n).drewN m := fun n => least_any _ b t _ (HL.out.kept (Below.drewN' (Below.refl _ _) n)) HRI.out.1.ne
                  have CD : ∀ n, Calls Try.prog 163 #[.pointer (some ⟨b, 0, none⟩)] (w1.drewN n) fun e w' => e = .returned (.int .i64 (t.dpt : Int)) ∧ ∃ m, w' = (w1.drewN n).drewN m := fun n => depth_any _ b t _ (HL.out.kept (Below.drewN' (Below.refl _ _) n)) HRI.out.1.few HRI.out.1.lv
                  have CD0 : ∀ n, Calls Try.prog 163 #[.pointer (some ⟨A 0, 0, none⟩)] (w1.drewN n) fun e w' => e = .returned (.int .i64 ((tAt ts 0).dpt : Int)) ∧ ∃ m, w' = (w1.drewN n).drewN m := fun n => depth_any _ (A 0) (tAt ts 0) _ (HL0.out.kept (Below.drewN' (Below.refl _ _) n)) HT0.out.few HT0.out.lv
                  have HDD : Hid (t.dpt = t.lv ∧ (tAt ts 0).dpt = (tAt ts 0).lv) := ⟨by rw [T.dpt, HRI.out.1.bare]; rfl, by rw [T.dpt, HT0.out.bare]; rfl⟩
                  by_cases hle : t.least = sAt x.keys k'
                  · by_cases hd : t.dpt = (tAt ts 0).dpt
                    · have HRD2 : Hid (rdIL (rdI ns f) x.keys (ts ++ [t]) (x.kids.drop (k' + 1 + 1)) n1 = rdIL (rdI ns f) x.keys [] x.kids nx) := by
                        show _ = _
                        rw [HRD1.out, if_neg]
                        rw [HKL.out]
                        rintro ⟨_, h | h⟩
                        · exact h hle
                        · have := HDD.out; omega
                      rw [hle] at CL
                      rw [hd] at CD
                      have hdd : (((tAt ts 0).dpt : Int) != ((tAt ts 0).dpt : Int)) = false := by simp
                      clear HRD1 hle hd
                      generalize sAt x.keys k' = ky at *
                      generalize (tAt ts 0).dpt = dd at *
                      have c1 := HB1.out.br.cell (j := 1) rfl
                      have f1 := HB1.out.br.free 1
                      go_wp2_with fail
                      go_quiet (first | (go_at_call 162; exact Calls.quiet_of (CL _)) | (go_at_call_of 163 (Value.pointer (some ⟨A 0, 0, none⟩)); exact Calls.quiet_of (CD0 _)) | (go_at_call_of 163 (Value.pointer (some ⟨b, 0, none⟩)); exact Calls.quiet_of (CD _)) | fail)
                      have HB2 := hid (HB1.out.keep (Below.drewN' (Below.refl _ _) nq))
                      have HL2 := hid (HL.out.kept (Below.drewN' (Below.refl _ _) nq))
                      have HOK2 : Hid (Ok (w1.drewN nq) (w.heap.size + 2) (.slice (some ⟨g0, og, none⟩) (k' + 1) ck) (k' + 1) A) := by have := HB2.out.row; rw [HKL.out] at this; exact this
                      have HB3 := hid (HB2.out.keep (below_new (o := .cells #[.pointer (some ⟨b, 0, none⟩)] 140) (Below.refl _ _)))
                      have HL3 := hid (HL2.out.kept (below_new (o := .cells #[.pointer (some ⟨b, 0, none⟩)] 140) (Below.refl _ _)))
                      have HSZ : Hid (w.heap.size + 2 ≤ w1.heap.size) := by have := HB1.out.br.lt; show _ ≤ _; omega
                      go_wp2_with (at_builtin; refine wpList_append_ptr rfl _ _ rfl (w.heap.size + 2) _ (k' + 1) A rfl (HOK2.out.kept (below_new (o := .cells #[.pointer (some ⟨b, 0, none⟩)] 140) (Below.refl _ _))) w1.heap.size b rfl ?qc ?qb ?qd ?_)
                      case qc => exact (Bk.new (w1.drewN nq) 140 [.pointer (some ⟨b, 0, none⟩)]).cell (j := 0) rfl
                      case qb => have := HIN.out; omega
                      case qd => have := HSZ.out; simp; omega
                      intro v2 w2 hO2 hg2 ha2
                      obtain ⟨a2, cc2, hv2⟩ := hO2.shape
                      subst hv2
                      have HB4 := hid (HB3.out.push (P := fun y => wr.heap.size ≤ y ∧ y < w1.heap.size) HL3.out (fun y hy => ⟨(HPP.out y hy).1, by have := (HPP.out y hy).2.1; simp; omega, (HPP.out y hy).2.2⟩) HRI.out.1 (by rw [HKL.out]; exact hO2) hg2 (by simpa using ha2))
                      have K2 := HB3.out.br.to (only_of_grown (R := fun y => w.heap.size + 2 ≤ y) hg2 (fun y e => (World.ownsRow.lt HB3.out.row y e).1)) (by omega)
                      have c2 := K2.cell (j := 1) rfl
                      have f2 := K2.free 1
                      have HRD3 : Hid (rdIL (rdI ns f) x.keys (ts ++ [t]) (x.kids.drop (ts ++ [t]).length) n1 = rdIL (rdI ns f) x.keys [] x.kids nx) := by
                        show _ = _
                        rw [List.length_append, HKL.out]
                        exact HRD2.out
                      have HTL2 : Hid ((ts ++ [t]).length = k' + 1 + 1) := by show _ = _; rw [List.length_append, HKL.out]; rfl
                      clear K2 hO2 hg2 ha2 HB3 HL3 HOK2 HRD2
                      go_wp2
                      go_roundw
                      case rel => exact ⟨ts ++ [t], n1, _, _, _, by rw [HTL2.out]; go_num, by show _ ≤ _; rw [HTL2.out]; omega, HB4.out, ⟨by have := HNB.out.1; have := HRI.out.2.2; omega, HRI.out.2.1⟩, HRD3.out⟩
                      case measure => simp [intOf]; omega
                    · have HR : Hid (brT ns f x nx = none) := by
                        show _ = _
                        rw [brT, if_pos HOK.out, HRD1.out, if_pos]
                        exact ⟨by rw [HKL.out]; omega, .inr (by have := HDD.out; omega)⟩
                      rw [hle] at CL
                      have hdd : ((t.dpt : Int) != ((tAt ts 0).dpt : Int)) = true := by simp; omega
                      clear HRD1 hle hd HDD
                      generalize sAt x.keys k' = ky at *
                      generalize (tAt ts 0).dpt = dd at *
                      generalize t.dpt = dt at *
                      have c1 := HB1.out.br.cell (j := 1) rfl
                      have HO1 := hid HB1.out.only
                      go_wp2_with fail
                      go_quiet (first | (go_at_call 162; exact Calls.quiet_of (CL _)) | (go_at_call_of 163 (Value.pointer (some ⟨A 0, 0, none⟩)); exact Calls.quiet_of (CD0 _)) | (go_at_call_of 163 (Value.pointer (some ⟨b, 0, none⟩)); exact Calls.quiet_of (CD _)) | fail)
                      go_wp2
                      go_ret
                      exact ⟨by rw [HR.out]; rfl, HO1.out.trans (only_drew _ _ _)⟩
                  · have HR : Hid (brT ns f x nx = none) := by
                      show _ = _
                      rw [brT, if_pos HOK.out, HRD1.out, if_pos]
                      exact ⟨by rw [HKL.out]; omega, .inl (by rw [HKL.out]; exact hle)⟩
                    have hbe := str_beq hle
                    clear HRD1 hle HDD CD CD0
                    generalize sAt x.keys k' = ky at *
                    generalize t.least = tl at *
                    have c1 := HB1.out.br.cell (j := 1) rfl
                    have HO1 := hid HB1.out.only
                    go_wp2_with fail
                    go_quiet (first | (go_at_call 162; exact Calls.quiet_of (CL _)) | fail)
                    go_wp2
                    go_ret
                    exact ⟨by rw [HR.out]; rfl, HO1.out.trans (only_drew _ _ _)⟩
            · have hk' : k = ni := by have := HTL.out; omega
              have HR : Hid (brT ns f x nx = some (.mk [] ts, nx')) := by
                show _ = _
                have h1 := HRD.out
                rw [hk', li.out, List.drop_length, rdIL] at h1
                rw [brT, if_pos HOK.out, ← h1]
              have HFIN := hid HBI.out.limb
              have HO1 := hid HBI.out.only
              have HWK := hid HBI.out.walk
              clear hk' HBI
              go_wp2
              go_ret
              exact ⟨by rw [HR.out]; exact ⟨_, rfl, HFIN.out, HWK.out⟩, HO1.out⟩
        · have HR : Hid (brT ns f x nx = none) := by show _ = _; rw [brT, if_neg]; rw [LB.out]; simp [a4]
          have e4 : ((np : Int) != 0) = true := by simp; omega
          clear LB a3 a4
          go_enter Try.func151, Try.ntmps151
          go_wp2
          go_ret
          exact ⟨by rw [HR.out]; rfl, only_of_below HB0.out _⟩
      · have HR : Hid (brT ns f x nx = none) := by show _ = _; rw [brT, if_neg]; rw [LB.out]; simp [a3]
        have e3 : ((nk : Int) != (ni : Int) - 1) = true := by simp [a3]
        clear LB a3
        go_enter Try.func151, Try.ntmps151
        go_wp2
        go_ret
        exact ⟨by rw [HR.out]; rfl, only_of_below HB0.out _⟩
end Go.Proofs.Ytbaggkfgnjenoaa

