/-
  l03Tree and TreePut of the specification.
-/
import Derived.Test.YtcpdedpgjaimkaaDoorMs4
import Derived.Test.YtcpdedpgjaimkaaDoorMs5
import Derived.Test.YtcpdedpgjaimkaaDoorMs3
import Derived.Test.YtcpdedpgjaimkaaDoorMs1
import Derived.Test.YtcpdedpgjaimkaaDoorMs2
namespace Go.Proofs.YtcpdedpgjaimkaaDoor
open Go.RowKit
/-- A root that has one kid alone gives way to it. -/
def strip1 (t : T) : T := if t.ks.length = 1 then tAt t.ks 0 else t
theorem strip1_id {t : T} (h : t.ks.length ≠ 1) : strip1 t = t := by rw [strip1, if_neg h]
def kidsN (w : World) (a : Addr) : Nat := match w.cell? a with
  | some (.slice _ n _) => if n = 1 then 1 else 0
  | _ => 0
/-- A list of nodes that is there to be read, in new blocks. -/
def NewN (w w' : World) (v : Value) (ms : List NB) : Prop := Nr w' (fun y => w.heap.size ≤ y ∧ y < w'.heap.size) v ms
theorem NewN.kept {w w' w2 : World} {v : Value} {ms : List NB} (h : NewN w w' v ms) (hb : Below w'.heap.size w' w2) : NewN w w2 v ms := (Nr.below h hb).mono (fun _ hy _ => ⟨hy.1, Nat.lt_of_lt_of_le hy.2 hb.size⟩)
theorem NewN.nil (w w' : World) : NewN w w' (.slice none 0 0) [] := ⟨[], rfl, rw_nil _ _, fun i hi => by simp at hi⟩
def NewK (w w' : World) (v : Value) (ms : List NB) : Prop := NrK w' (fun y => w.heap.size ≤ y ∧ y < w'.heap.size) v ms
theorem NewK.nil (w w' : World) : NewK w w' (.slice none 0 0) [] := nrK_nil _ _
theorem NewK.new {w w' : World} {v : Value} {ms : List NB} (h : NewK w w' v ms) : NewN w w' v ms := NrK.nr h
def STree (w : World) (ms : List NB) (e : Ending) (w' : World) : Prop := ∃ a n c, e = .returned (.agg #[.slice a n c]) ∧ NewK w w' (.slice a n c) ms ∧ Below w.heap.size w w'
set_option maxHeartbeats 2000000 in
set_option maxRecDepth 20000 in
theorem specTree_any (S : Nat → Prop) (lf : Bool) (ap ak : Option Addr) (np cp nk ck : Nat) (t : T) (w : World) (h : Sub w S lf (.slice ap np cp) (.slice ak nk ck) t) (h1 : (strip1 t).ks.length ≠ 1) (hf : (strip1 t).full true = true ∨ strip1 t = bareT) (hz : (strip1 t).size ≤ 1048576) :
    Calls Tryd.prog 69 #[.agg #[.bool lf, .slice ap np cp, .slice ak nk ck]] w fun e w' => STree w (layT (strip1 t)) e w' := by
  obtain ⟨_, _, _, _, _, _, e1, e2, -, -, -, -, -, -⟩ := h.shape
  cases e1
  cases e2
  have H0 : Hid (Sub w (fun y => y < w.heap.size) lf (.slice ap np cp) (.slice ak nk ck) t) := h.mono (fun y hy hl => hl)
  have HB0 : Hid (Below w.heap.size w ((w.alloc (.cells #[.bool lf, .slice ap np cp, .slice ak nk ck] 98)).alloc (.cells #[.slice none 0 0] 88))) := below_new (below_new (Below.refl _ _))
  have K0 : Hid (Bk ((w.alloc (.cells #[.bool lf, .slice ap np cp, .slice ak nk ck] 98)).alloc (.cells #[.slice none 0 0] 88)) w.heap.size 98 [.bool lf, .slice ap np cp, .slice ak nk ck]) := (Bk.new w 98 [.bool lf, .slice ap np cp, .slice ak nk ck]).alloc _
  have KR : Hid (Bk ((w.alloc (.cells #[.bool lf, .slice ap np cp, .slice ak nk ck] 98)).alloc (.cells #[.slice none 0 0] 88)) (w.heap.size + 1) 88 [.slice none 0 0]) := by
    have := Bk.new (w.alloc (.cells #[.bool lf, .slice ap np cp, .slice ak nk ck] 98)) 88 [.slice none 0 0]
    show Bk _ _ _ _
    simpa using this
  have HS := hid h1
  have HF := hid hf
  have HZ := hid hz
  clear h h1 hf hz
  generalize hT : strip1 t = T0 at *
  have HT := hid hT
  clear hT
  go_enter Tryd.func69, Tryd.ntmps69
  go_wp2_with fail
  go_loopw [3] (fun x wr => ∃ (l : Bool) (a0 b0 : Option Addr) (n0 c0 m0 d0 : Nat) (t' : T), x = x ∧ Hid (Bk wr w.heap.size 98 [.bool l, .slice a0 n0 c0, .slice b0 m0 d0]) ∧ Hid (Sub wr (fun y => y < w.heap.size) l (.slice a0 n0 c0) (.slice b0 m0 d0) t') ∧ Hid (strip1 t' = T0) ∧ Hid (Bk wr (w.heap.size + 1) 88 [.slice none 0 0]) ∧ Hid (Below w.heap.size w wr)) (fun _ wr => kidsN wr ⟨w.heap.size, 2, none⟩)
  case atStart => exact ⟨lf, ap, ak, np, cp, nk, ck, t, rfl, K0.out, H0.out.kept HB0.out, HT.out, KR.out, HB0.out⟩
  case round =>
    obtain ⟨l, a0, b0, n0, c0, m0, d0, t', -, HK, HSB, HE, HR, HB⟩ := hrel
    obtain ⟨_, _, _, _, _, _, e1, e2, HN0, HM0, -, -, hl, -⟩ := HSB.out.shape
    cases e1
    cases e2
    have q0 := HK.out.cell (j := 0) rfl
    have q1 := HK.out.cell (j := 1) rfl
    have q2 := HK.out.cell (j := 2) rfl
    have f0 := HK.out.free 0
    have f1 := HK.out.free 1
    have f2 := HK.out.free 2
    by_cases hm : m0 = 1
    · have hl' : l = false := by rw [hl, hm]; rfl
      subst hm
      subst hl'
      obtain ⟨g, off, hab, hg1, hg2, hkid⟩ := HSB.out.kids (by omega)
      subst hab
      obtain ⟨l9, ap9, np9, cp9, ak9, nk9, ck9, x0, x1, x2, hs9⟩ := hkid 0 (by omega)
      simp only [Nat.zero_mul, Nat.add_zero] at x0 x1 x2
      have hE : tAt t'.ks 0 = T0 := by
        have := HE.out
        rwa [strip1, if_pos HM0.out.symm] at this
      have HN9 : Hid (nk9 ≠ 1) := by
        obtain ⟨_, _, _, _, _, _, _, e2, -, h5, -⟩ := hs9.shape
        cases e2
        rw [hE] at h5
        show _ ≠ _
        rw [h5.out]; exact HS.out
      rw [hE] at hs9
      have hon : Only (fun y => y = w.heap.size) wr (((wr.setCell ⟨w.heap.size, 0, none⟩ (.bool l9)).setCell ⟨w.heap.size, 1, none⟩ (.slice ap9 np9 cp9)).setCell ⟨w.heap.size, 2, none⟩ (.slice ak9 nk9 ck9)) := ((only_set (R := fun y => y = w.heap.size) rfl _).trans (only_set (R := fun y => y = w.heap.size) rfl _)).trans (only_set (R := fun y => y = w.heap.size) rfl _)
      have HK2 := hid (((HK.out.set 0 (.bool l9)).set 1 (.slice ap9 np9 cp9)).set 2 (.slice ak9 nk9 ck9))
      have HS2 := hid (hs9.to hon (fun y hy _ e => by omega))
      have HR2 := hid (HR.out.to hon (by omega))
      have HB2 : Hid (Below w.heap.size w (((wr.setCell ⟨w.heap.size, 0, none⟩ (.bool l9)).setCell ⟨w.heap.size, 1, none⟩ (.slice ap9 np9 cp9)).setCell ⟨w.heap.size, 2, none⟩ (.slice ak9 nk9 ck9))) := HB.out.trans (hon.below HB.out.size (fun b hb e => by omega))
      have HM1 : Hid (kidsN wr ⟨w.heap.size, 2, none⟩ = 1) := by show _ = _; rw [kidsN, q2]; simp
      have HM2 : Hid (kidsN (((wr.setCell ⟨w.heap.size, 0, none⟩ (.bool l9)).setCell ⟨w.heap.size, 1, none⟩ (.slice ap9 np9 cp9)).setCell ⟨w.heap.size, 2, none⟩ (.slice ak9 nk9 ck9)) ⟨w.heap.size, 2, none⟩ = 0) := by
        show _ = _
        rw [kidsN, HK2.out.cell (j := 2) rfl]
        simp [HN9.out]
      clear hkid hs9 hon hg1 hg2 hl hE
      go_wp2
      go_roundw
      case rel => exact ⟨l9, ap9, ak9, np9, cp9, nk9, ck9, T0, trivial, HK2.out, HS2.out, strip1_id HS.out, HR2.out, HB2.out⟩
      case measure => rw [HM2.out, HM1.out]; omega
    · have hE : t' = T0 := by
        have := HE.out
        rwa [strip1, if_neg (by rw [← HM0.out]; exact hm)] at this
      subst hE
      have hm' : ¬ (m0 : Int) = 1 := by omega
      have r0 := HR.out.cell (j := 0) rfl
      have rf := HR.out.free 0
      by_cases hm0 : m0 = 0
      · have hl' : l = true := by rw [hl, hm0]; rfl
        subst hm0 hl'
        clear hl
        by_cases hn0 : n0 = 0
        · subst hn0
          have HBA : Hid (layT t' = []) := by
            show _ = _
            rw [layT, if_pos]
            exact decide_eq_true (by have h1 := HN0.out; have h2 := HM0.out; omega)
          have HFB : Hid (Below w.heap.size w (wr.setCell ⟨w.heap.size + 1, 0, none⟩ (.slice none 0 0))) := ⟨HB.out.os, HB.out.tape, HB.out.output, by simp [World.setCell]; exact HB.out.size, fun i hi => (Below.heap_setCell _ _ _ _ (show i ≠ w.heap.size + 1 by omega)).trans (HB.out.block i hi)⟩
          have d1 := (HR.out.set 0 (.slice none 0 0)).cell (j := 0) rfl
          go_wp2
          refine bodyPost_ret (v := .agg #[.slice none 0 0]) ?_ rfl ?_
          · refine results_tree1 rfl _ _ _ rfl ?_
            exact d1
          · rw [HBA.out]; exact ⟨_, _, _, rfl, NewK.nil _ _, HFB.out⟩
        · have hn1 : ¬ (n0 : Int) = 0 := by omega
          have HFU : Hid (t'.full true = true) := by
            rcases HF.out with h | h
            · exact h
            · exfalso
              have h1 := HN0.out
              have h2 := HM0.out
              rw [h] at h1 h2
              simp [bareT, T.ps, T.ks] at h1 h2
              omega
          have HBA : Hid (layT t' = lay 0 t') := by
            show _ = _
            rw [layT, if_neg]
            rw [show t'.bare = false from decide_eq_false (by have h1 := HN0.out; have h2 := HM0.out; omega)]; simp
          go_wp2_with fail
          refine (specLay_any t' (fun y => y < w.heap.size) true a0 b0 n0 c0 0 d0 wr (fun _ => False) none 0 0 [] true HSB.out (fun y _ => by simp [Value.ownBlock]) (no_nil wr) (by have := HZ.out; simpa using this) HFU.out).mono ?_
          rintro e w2 ⟨v2, rfl, hN2, ho2, hv2⟩
          have hb2 : Below wr.heap.size wr w2 := ho2.below (Nat.le_refl _) (fun b _ h => by cases h)
          obtain ⟨a2, n2, c2, e2, -⟩ := hN2.shape
          subst e2
          simp only [List.nil_append, List.length_nil] at hN2
          have HR2 := hid (HR.out.below hb2)
          have HB2 := hid (Below.then' HB.out hb2 (Nat.le_refl _))
          have hwr : w.heap.size + 1 < wr.heap.size := HR.out.lt
          have HFB : Hid (Below w.heap.size w (w2.setCell ⟨w.heap.size + 1, 0, none⟩ (.slice a2 n2 c2))) := ⟨HB2.out.os, HB2.out.tape, HB2.out.output, by simp [World.setCell]; exact HB2.out.size, fun i hi => (Below.heap_setCell _ _ _ _ (show i ≠ w.heap.size + 1 by omega)).trans (HB2.out.block i hi)⟩
          have HNN : Hid (NewK w (w2.setCell ⟨w.heap.size + 1, 0, none⟩ (.slice a2 n2 c2)) (.slice a2 n2 c2) (layT t')) := by
            show NewK _ _ _ _
            rw [HBA.out]
            have hzz : (w2.setCell ⟨w.heap.size + 1, 0, none⟩ (.slice a2 n2 c2)).heap.size = w2.heap.size := by simp [World.setCell]
            have hlt := hN2.lt
            obtain ⟨V, n1, n2', n3, n4, n5⟩ := hN2
            have hn : NrK w2 (fun y => wr.heap.size ≤ y) (.slice a2 n2 c2) (lay 0 t') := by
              refine ⟨V, n1, ⟨n2', fun y hy => ?_⟩, fun i hi => (n3 i hi).mono (fun y hy _ => ?_), n5, fun i hi y hy => (n4 y ((n3 i hi).2.2.2 y hy)).2⟩
              · rcases hv2 y hy with h | h
                · cases h
                · exact h
              · rcases hy with h | h
                · exact h.elim
                · exact h.1
            refine (hn.to (only_set (R := fun y => y = w.heap.size + 1) rfl _) (fun y hy _ e => by omega)).mono (fun y hy hl => ⟨by omega, hl⟩)
          have e0 := HR2.out.cell (j := 0) rfl
          have e1 := HR2.out.free 0
          have d1 := (HR2.out.set 0 (.slice a2 n2 c2)).cell (j := 0) rfl
          clear hN2 ho2 hv2 hb2 r0 rf
          go_wp2
          refine bodyPost_ret (v := .agg #[.slice a2 n2 c2]) ?_ rfl ?_
          · refine results_tree1 rfl _ _ _ rfl ?_
            exact d1
          · exact ⟨_, _, _, rfl, HNN.out, HFB.out⟩
      · have hl' : l = false := by rw [hl]; exact decide_eq_false hm0
        subst hl'
        clear hl
        have HFU : Hid (t'.full true = true) := by
          rcases HF.out with h | h
          · exact h
          · exfalso
            have h1 := HN0.out
            have h2 := HM0.out
            rw [h] at h1 h2
            simp [bareT, T.ps, T.ks] at h1 h2
            omega
        have HBA : Hid (layT t' = lay 0 t') := by
          show _ = _
          rw [layT, if_neg]
          rw [show t'.bare = false from decide_eq_false (by have h1 := HN0.out; have h2 := HM0.out; omega)]; simp
        go_wp2_with fail
        refine (specLay_any t' (fun y => y < w.heap.size) false a0 b0 n0 c0 m0 d0 wr (fun _ => False) none 0 0 [] true HSB.out (fun y _ => by simp [Value.ownBlock]) (no_nil wr) (by have := HZ.out; simpa using this) HFU.out).mono ?_
        rintro e w2 ⟨v2, rfl, hN2, ho2, hv2⟩
        have hb2 : Below wr.heap.size wr w2 := ho2.below (Nat.le_refl _) (fun b _ h => by cases h)
        obtain ⟨a2, n2, c2, e2, -⟩ := hN2.shape
        subst e2
        simp only [List.nil_append, List.length_nil] at hN2
        have HR2 := hid (HR.out.below hb2)
        have HB2 := hid (Below.then' HB.out hb2 (Nat.le_refl _))
        have hwr : w.heap.size + 1 < wr.heap.size := HR.out.lt
        have HFB : Hid (Below w.heap.size w (w2.setCell ⟨w.heap.size + 1, 0, none⟩ (.slice a2 n2 c2))) := ⟨HB2.out.os, HB2.out.tape, HB2.out.output, by simp [World.setCell]; exact HB2.out.size, fun i hi => (Below.heap_setCell _ _ _ _ (show i ≠ w.heap.size + 1 by omega)).trans (HB2.out.block i hi)⟩
        have HNN : Hid (NewK w (w2.setCell ⟨w.heap.size + 1, 0, none⟩ (.slice a2 n2 c2)) (.slice a2 n2 c2) (layT t')) := by
          show NewK _ _ _ _
          rw [HBA.out]
          have hzz : (w2.setCell ⟨w.heap.size + 1, 0, none⟩ (.slice a2 n2 c2)).heap.size = w2.heap.size := by simp [World.setCell]
          have hlt := hN2.lt
          obtain ⟨V, n1, n2', n3, n4, n5⟩ := hN2
          have hn : NrK w2 (fun y => wr.heap.size ≤ y) (.slice a2 n2 c2) (lay 0 t') := by
            refine ⟨V, n1, ⟨n2', fun y hy => ?_⟩, fun i hi => (n3 i hi).mono (fun y hy _ => ?_), n5, fun i hi y hy => (n4 y ((n3 i hi).2.2.2 y hy)).2⟩
            · rcases hv2 y hy with h | h
              · cases h
              · exact h
            · rcases hy with h | h
              · exact h.elim
              · exact h.1
          refine (hn.to (only_set (R := fun y => y = w.heap.size + 1) rfl _) (fun y hy _ e => by omega)).mono (fun y hy hl => ⟨by omega, hl⟩)
        have e0 := HR2.out.cell (j := 0) rfl
        have e1 := HR2.out.free 0
        have d1 := (HR2.out.set 0 (.slice a2 n2 c2)).cell (j := 0) rfl
        clear hN2 ho2 hv2 hb2 r0 rf
        go_wp2
        refine bodyPost_ret (v := .agg #[.slice a2 n2 c2]) ?_ rfl ?_
        · refine results_tree1 rfl _ _ _ rfl ?_
          exact d1
        · exact ⟨_, _, _, rfl, HNN.out, HFB.out⟩
theorem strip1_two (x : T × T) : strip1 (.mk [] (two x)) = rootT x := by
  unfold strip1 rootT two
  cases h : x.2.bare with
  | true => simp [T.ks, tAt]
  | false => simp [T.ks]
theorem two_all (x : T × T) : (T.mk [] (two x)).all = (rootT x).all := by
  have : (T.mk [] (two x)).all = allL (two x) := by simp [T.all]
  rw [this]
  unfold rootT two
  cases h : x.2.bare with
  | true => simp [allL]
  | false => simp [allL, T.all]
theorem full_ks1 {t : T} {r : Bool} (h : t.full r = true) : t.ks.length ≠ 1 := by
  obtain ⟨ps, ks⟩ := t
  simp only [T.ks]
  by_cases hk : ks = []
  · subst hk; simp
  · obtain ⟨h1, _⟩ := full_br h hk; omega
def STPost (o : Option (List NB)) (w : World) (e : Ending) (w' : World) : Prop := ∃ a n c, e = .returned (.tuple #[.agg #[.slice a n c], .bool o.isSome]) ∧ NewK w w' (.slice a n c) (o.getD []) ∧ Below w.heap.size w w'
set_option maxHeartbeats 2000000 in
set_option maxRecDepth 20000 in
theorem specTreePut_any (ns : List NB) (hlen : ns.length ≤ 1048576) (hsm : smallN ns) (S : Nat → Prop) (an : Option Addr) (nn cn : Nat) (k v : ByteArray) (w : World) (hN : Nr w S (.slice an nn cn) ns) :
    Calls Tryd.prog 61 #[.agg #[.slice an nn cn], .string k, .string v] w fun e w' => STPost (putV ns k v) w e w' := by
  have h1 := hN.len.2.1
  have h2 := hN.len.2.2
  have HB0 : Hid (Below w.heap.size w ((w.alloc (.cells #[.slice an nn cn] 88)).alloc (.cells #[.slice none 0 0] 88))) := below_new (below_new (Below.refl _ _))
  have K0 : Hid (Bk ((w.alloc (.cells #[.slice an nn cn] 88)).alloc (.cells #[.slice none 0 0] 88)) (w.heap.size + 1) 88 [.slice none 0 0]) := by
    have := Bk.new (w.alloc (.cells #[.slice an nn cn] 88)) 88 [.slice none 0 0]
    show Bk _ _ _ _
    simpa using this
  have KA : Hid (Bk ((w.alloc (.cells #[.slice an nn cn] 88)).alloc (.cells #[.slice none 0 0] 88)) w.heap.size 88 [.slice an nn cn]) := (Bk.new w 88 [.slice an nn cn]).alloc _
  have a0 := KA.out.cell (j := 0) rfl
  have H0 := hid (hN.below HB0.out)
  have HLS := hid (And.intro hlen hsm)
  clear hN hlen hsm
  go_enter Tryd.func61, Tryd.ntmps61
  go_wp2_with fail
  refine (specTreeOk_any ns HLS.out.1 HLS.out.2 S an nn cn _ H0.out).mono ?_
  generalize (w.alloc (.cells #[.slice an nn cn] 88)).alloc (.cells #[.slice none 0 0] 88) = U at *
  rintro e w1 ⟨rfl, hb⟩
  have HB1 := hid (HB0.out.trans (hb.mono HB0.out.size))
  have K1 := hid (K0.out.below hb)
  have KA1 := hid (KA.out.below hb)
  have H1 := hid (H0.out.below hb)
  clear hb HB0 K0 H0 KA a0
  have HNO : Hid (∀ (X : World) (u : Value), Below w.heap.size w X → Below w.heap.size w (X.setCell ⟨w.heap.size + 1, 0, none⟩ u)) := fun X u hb => ⟨hb.os, hb.tape, hb.output, by simp [World.setCell]; exact hb.size, fun i hi => (Below.heap_setCell _ _ _ _ (show i ≠ w.heap.size + 1 by omega)).trans (hb.block i hi)⟩
  rw [spOk_eq]
  have c0 := K1.out.cell (j := 0) rfl
  have f0 := K1.out.free 0
  have d0 := (K1.out.set 0 (.slice none 0 0)).cell (j := 0) rfl
  cases hr : okT ns with
  | none =>
    have HR : Hid (putV ns k v = none) := by show _ = _; rw [putV, hr]
    clear hr
    go_wp2
    refine bodyPost_ret (v := .tuple #[.agg #[.slice none 0 0], .bool false]) ?_ rfl ?_
    · refine results_tree2 rfl _ _ _ rfl rfl ?_
      exact d0
    · rw [HR.out]; exact ⟨_, _, _, rfl, NewK.nil _ _, HNO.out _ _ HB1.out⟩
  | some t =>
    have HR : Hid (putV ns k v = if kOk k = true ∧ vOk v = true then (if 200 < (rootT (putF t.lv t (k, v))).all.length then none else some (layT (rootT (putF t.lv t (k, v))))) else none) := by show _ = _; rw [putV, hr]
    cases hk : kOk k with
    | false =>
      have HR2 : Hid (putV ns k v = none) := by show _ = _; rw [HR.out, hk]; simp
      have HKO := hid (specKeyOk_is k false hk)
      clear hk HR hr
      go_wp2_with fail
      refine (HKO.out w1).mono ?_
      rintro e w2 ⟨rfl, rfl⟩
      go_wp2
      refine bodyPost_ret (v := .tuple #[.agg #[.slice none 0 0], .bool false]) ?_ rfl ?_
      · refine results_tree2 rfl _ _ _ rfl rfl ?_
        exact d0
      · rw [HR2.out]; exact ⟨_, _, _, rfl, NewK.nil _ _, HNO.out _ _ HB1.out⟩
    | true =>
      have HKO := hid (specKeyOk_is k true hk)
      cases hv : vOk v with
      | false =>
        have HR2 : Hid (putV ns k v = none) := by show _ = _; rw [HR.out, hv]; simp
        have HVO := hid (specValOk_any v)
        rw [hv] at HVO
        clear hk hv HR hr
        go_wp2_with fail
        refine (HKO.out w1).mono ?_
        rintro e w2 ⟨rfl, rfl⟩
        go_wp2_with fail
        refine (HVO.out w2).mono ?_
        rintro e w3 ⟨rfl, rfl⟩
        go_wp2
        refine bodyPost_ret (v := .tuple #[.agg #[.slice none 0 0], .bool false]) ?_ rfl ?_
        · refine results_tree2 rfl _ _ _ rfl rfl ?_
          exact d0
        · rw [HR2.out]; exact ⟨_, _, _, rfl, NewK.nil _ _, HNO.out _ _ HB1.out⟩
      | true =>
        have HR2 : Hid (putV ns k v = if 200 < (rootT (putF t.lv t (k, v))).all.length then none else some (layT (rootT (putF t.lv t (k, v))))) := by show _ = _; rw [HR.out, hk, hv]; simp
        have HVO := hid (specValOk_any v)
        rw [hv] at HVO
        have HOK := hid (okT_facts hr)
        have HG := hid (okT_putIn hr)
        have HRO := hid (rootT_ok hr (k, v))
        have HSZ := hid (putV_size hr (k, v))
        have HPS : Hid (putS t.lv t (k, v) = two (putF t.lv t (k, v))) := putS_eq t.lv true t (k, v) HG.out
        clear hk hv HR hr
        have g0 := KA1.out.cell (j := 0) rfl
        go_wp2_with fail
        refine (HKO.out w1).mono ?_
        rintro e w2 ⟨rfl, rfl⟩
        go_wp2_with fail
        refine (HVO.out w2).mono ?_
        rintro e w3 ⟨rfl, rfl⟩
        clear HKO HVO c0 f0 d0
        go_wp2_with fail
        refine (specRoot_any ns HLS.out.1 HLS.out.2 S an nn cn w2 H1.out).mono ?_
        rintro e w3 ⟨hpost, hb⟩
        rw [HOK.out.root] at hpost
        obtain ⟨lf, ap, np, cp, ak, nk, ck, rfl, hs⟩ := hpost
        have HS3 := hid hs
        have HB3 := hid (Below.then' HB1.out hb (Nat.le_refl _))
        have K3 := hid (K1.out.below hb)
        clear hs hb K1 KA1 g0 HB1 H1
        have HB4 := hid (below_new (o := .cells #[.bool lf, .slice ap np cp, .slice ak nk ck] 98) (w := w3) (Below.refl _ _))
        have KS := hid (Bk.new w3 98 [.bool lf, .slice ap np cp, .slice ak nk ck])
        have k0 := KS.out.cell (j := 0) rfl
        have k1 := KS.out.cell (j := 1) rfl
        have k2 := KS.out.cell (j := 2) rfl
        go_wp2_with fail
        refine (specPut_any t.lv true _ lf ap ak np cp nk ck t k v _ (HS3.out.kept HB4.out) HG.out).mono ?_
        rintro e w5 ⟨v5, rfl, hR5, hb5⟩
        rw [HPS.out] at hR5
        obtain ⟨a5, n5, c5, e5, -⟩ := hR5.shape
        subst e5
        have HR5 : Hid (SubR w5 (fun _ => True) (.slice a5 n5 c5) (two (putF t.lv t (k, v)))) := hR5.mono (fun _ _ _ => trivial)
        have HB5 := hid (Below.then' (Below.then' HB3.out HB4.out (Nat.le_refl _)) hb5 (Nat.le_refl _))
        have K5 := hid ((K3.out.below HB4.out).below hb5)
        clear hR5 hb5 k0 k1 k2 KS HB4 HB3 K3 HS3
        generalize putF t.lv t (k, v) = rr at *
        have HST := hid (strip1_two rr)
        have HAL := hid (two_all rr)
        have HNE : Hid (two rr ≠ []) := fun e => by have := (two_len rr).1; rw [e] at this; simp at this
        have HB6 := hid (below_new (o := .cells #[.bool false, .slice none 0 0, .slice a5 n5 c5] 98) (w := w5) (Below.refl _ _))
        have KS := hid (Bk.new w5 98 [.bool false, .slice none 0 0, .slice a5 n5 c5])
        have HS6 := hid ((HR5.out.kept HB6.out).sub HNE.out)
        have HBW := hid (Below.then' HB5.out HB6.out (Nat.le_refl _))
        have K6 := hid (K5.out.below HB6.out)
        have k0 := KS.out.cell (j := 0) rfl
        have k1 := KS.out.cell (j := 1) rfl
        have k2 := KS.out.cell (j := 2) rfl
        go_wp2_with fail
        refine (specPairs_any (.mk [] (two rr)) _ false none a5 0 0 n5 c5 _ HS6.out (by rw [HAL.out]; have := HSZ.out.1; omega)).mono ?_
        generalize w5.alloc (.cells #[.bool false, .slice none 0 0, .slice a5 n5 c5] 98) = X at *
        rintro e w7 ⟨v7, rfl, hO, hb⟩
        rw [HAL.out] at hO
        obtain ⟨a7, n7, c7, e7, hn7⟩ := hO.shape'
        subst e7
        have HN7 := hid hn7.out
        have hn5 : n7 ≤ 201 := by have := HN7.out; have := HSZ.out.1; omega
        have HB7 := hid (Below.then' HBW.out hb (Nat.le_refl _))
        have K7 := hid (K6.out.below hb)
        have KS7 := hid (KS.out.below hb)
        have HS7 := hid (HS6.out.kept hb)
        clear hO hb hn7 k0 k1 k2 KS K6 HS6 HBW HB6 HB5 K5 HR5
        have c0 := K7.out.cell (j := 0) rfl
        have f0 := K7.out.free 0
        have d0 := (K7.out.set 0 (.slice none 0 0)).cell (j := 0) rfl
        have k0 := KS7.out.cell (j := 0) rfl
        have k1 := KS7.out.cell (j := 1) rfl
        have k2 := KS7.out.cell (j := 2) rfl
        by_cases hlen : 200 < n7
        · have hlen' : (200 : Int) < (n7 : Int) := by omega
          have HR3 : Hid (putV ns k v = none) := by
            show _ = _
            rw [HR2.out, if_pos]
            have := HN7.out; omega
          go_wp2
          refine bodyPost_ret (v := .tuple #[.agg #[.slice none 0 0], .bool false]) ?_ rfl ?_
          · refine results_tree2 rfl _ _ _ rfl rfl ?_
            exact d0
          · rw [HR3.out]; exact ⟨_, _, _, rfl, NewK.nil _ _, HNO.out _ _ HB7.out⟩
        · have hlen' : ¬ (200 : Int) < (n7 : Int) := by omega
          have HR3 : Hid (putV ns k v = some (layT (rootT rr))) := by
            show _ = _
            rw [HR2.out, if_neg]
            have := HN7.out; omega
          clear d0
          go_wp2_with fail
          refine (specTree_any _ false none a5 0 0 n5 c5 (.mk [] (two rr)) w7 HS7.out (by rw [HST.out]; exact full_ks1 HRO.out.1) (by rw [HST.out]; exact .inl HRO.out.1) (by rw [HST.out]; have := HSZ.out.2.1; omega)).mono ?_
          rintro e w8 ⟨a8, n8, c8, rfl, hN8, hb8⟩
          rw [HST.out] at hN8
          have K8 := hid (K7.out.below hb8)
          have HB8 := hid (Below.then' HB7.out hb8 (Nat.le_refl _))
          have hwx : w.heap.size + 1 < w7.heap.size := K7.out.lt
          have HNN : Hid (NewK w (w8.setCell ⟨w.heap.size + 1, 0, none⟩ (.slice a8 n8 c8)) (.slice a8 n8 c8) (layT (rootT rr))) := (NrK.to hN8 (only_set (R := fun y => y = w.heap.size + 1) rfl _) (fun y hy _ e => by have := hy.1; omega)).mono (fun y hy hl => ⟨by have := hy.1; omega, hl⟩)
          have e0 := K8.out.cell (j := 0) rfl
          have e1 := K8.out.free 0
          have d1 := (K8.out.set 0 (.slice a8 n8 c8)).cell (j := 0) rfl
          clear hN8 hb8 c0 f0
          go_wp2
          refine bodyPost_ret (v := .tuple #[.agg #[.slice a8 n8 c8], .bool true]) ?_ rfl ?_
          · refine results_tree2 rfl _ _ _ rfl rfl ?_
            exact d1
          · rw [HR3.out]; exact ⟨_, _, _, rfl, HNN.out, HNO.out _ _ HB8.out⟩
theorem layT_small {t : T} (h : t.full true = true ∨ t = bareT) (hz : t.size ≤ 1000) : smallK (layT t) ∧ (layT t).length ≤ 100000 := by
  unfold layT
  split
  · exact ⟨fun i hi => by simp at hi, by simp⟩
  · rename_i hb
    rcases h with h | h
    · exact ⟨smallK_of (lay_small t true 0 h), by rw [lay_length]; omega⟩
    · rw [h] at hb; exact absurd rfl hb
theorem putV_small (ns : List NB) (k v : ByteArray) : smallK ((putV ns k v).getD []) ∧ ((putV ns k v).getD []).length ≤ 100000 := by
  have h0 : smallK (([] : List NB)) ∧ ([] : List NB).length ≤ 100000 := ⟨fun i hi => by simp at hi, by simp⟩
  unfold putV
  split
  · exact h0
  · rename_i t h
    split
    · split
      · exact h0
      · exact layT_small (.inl (rootT_ok h (k, v)).1) (by have := (putV_size h (k, v)).2.1; omega)
    · exact h0
end Go.Proofs.YtcpdedpgjaimkaaDoor
/-
  l03Drop and TreeDrop of the specification.
-/
namespace Go.Proofs.YtcpdedpgjaimkaaDoor
open Go.RowKit
theorem results_sub1 {fn : Func} {p : Tmp} (h : fn.results = #[.cell p 98]) (tmps : Array Value) (w : World) (g : Nat) {x y z : Value} (hp : tmps.getD p undef = .pointer (some ⟨g, 0, none⟩)) (c0 : w.cell? ⟨g, 0, none⟩ = some x) (c1 : w.cell? ⟨g, 1, none⟩ = some y) (c2 : w.cell? ⟨g, 2, none⟩ = some z) : (results fn tmps).run Tryd.prog w = .ok (.agg #[x, y, z]) w := by
  have hp' : tmps[p]?.getD undef = .pointer (some ⟨g, 0, none⟩) := by simpa using hp
  simp [results, h, hp', asAddr, load_sub c0 c1 c2]
def DropPost (w : World) (S : Nat → Prop) (t : T) (e : Ending) (w' : World) : Prop := ∃ lf ap np cp ak nk ck, e = .returned (.agg #[.bool lf, .slice ap np cp, .slice ak nk ck]) ∧ Sub w' (fun y => S y ∨ w.heap.size ≤ y) lf (.slice ap np cp) (.slice ak nk ck) t ∧ Below w.heap.size w w'
/-- What is kept: the sub, the cells of the answer. -/
structure DrI (w wr : World) (lf : Bool) (pv kv : Value) : Prop where
  s : Bk wr w.heap.size 98 [.bool lf, pv, kv]
  r : Bk wr (w.heap.size + 1) 98 [.bool false, .slice none 0 0, .slice none 0 0]
  b : Below w.heap.size w wr
  z : w.heap.size + 2 ≤ wr.heap.size
theorem DrI.keep {w wr w1 : World} {lf : Bool} {pv kv : Value} (h : DrI w wr lf pv kv) (hb : Below wr.heap.size wr w1) : DrI w w1 lf pv kv := ⟨h.s.below hb, h.r.below hb, Below.then' h.b hb (Nat.le_refl _), Nat.le_trans h.z hb.size⟩
theorem DrI.only {w u w2 : World} {lf : Bool} {pv kv : Value} {R : Nat → Prop} (h : DrI w u lf pv kv) (hon : Only R u w2) (ho : ∀ x, R x → w.heap.size + 2 ≤ x) : DrI w w2 lf pv kv :=
  ⟨h.s.to hon (fun e => by have := ho _ e; omega), h.r.to hon (fun e => by have := ho _ e; omega), h.b.trans (hon.below h.b.size (fun b hb e => by have := ho _ e; omega)), Nat.le_trans h.z hon.size⟩
theorem DrI.grow {w u w2 : World} {lf : Bool} {pv kv : Value} {o : Option Nat} (h : DrI w u lf pv kv) (hg : u.grownBy w2 o) (ho : ∀ x, o = some x → w.heap.size + 2 ≤ x) : DrI w w2 lf pv kv := h.only (only_of_grown hg (R := fun y => o = some y) (fun _ e => e)) (fun x e => ho x e)
theorem dri_start (w : World) (lf : Bool) (pv kv : Value) : DrI w ((w.alloc (.cells #[.bool lf, pv, kv] 98)).alloc (.cells #[.bool false, .slice none 0 0, .slice none 0 0] 98)) lf pv kv := by
  refine ⟨(Bk.new w 98 [.bool lf, pv, kv]).alloc _, ?_, below_new (below_new (Below.refl _ _)), by simp⟩
  have := Bk.new (w.alloc (.cells #[.bool lf, pv, kv] 98)) 98 [.bool false, .slice none 0 0, .slice none 0 0]
  simpa using this
/-- The answer is stored. -/
theorem DrI.done {w wr : World} {lf lf' : Bool} {pv kv pv' kv' : Value} {S : Nat → Prop} {t : T} (h : DrI w wr lf pv kv) (hs : Sub wr (fun y => S y ∨ w.heap.size + 2 ≤ y) lf' pv' kv' t) (hS : ∀ y, S y → y < w.heap.size) :
    Sub (((wr.setCell ⟨w.heap.size + 1, 0, none⟩ (.bool lf')).setCell ⟨w.heap.size + 1, 1, none⟩ pv').setCell ⟨w.heap.size + 1, 2, none⟩ kv') (fun y => S y ∨ w.heap.size ≤ y) lf' pv' kv' t ∧ Below w.heap.size w (((wr.setCell ⟨w.heap.size + 1, 0, none⟩ (.bool lf')).setCell ⟨w.heap.size + 1, 1, none⟩ pv').setCell ⟨w.heap.size + 1, 2, none⟩ kv') ∧
      Bk (((wr.setCell ⟨w.heap.size + 1, 0, none⟩ (.bool lf')).setCell ⟨w.heap.size + 1, 1, none⟩ pv').setCell ⟨w.heap.size + 1, 2, none⟩ kv') (w.heap.size + 1) 98 [.bool lf', pv', kv'] := by
  have hon : Only (fun y => y = w.heap.size + 1) wr (((wr.setCell ⟨w.heap.size + 1, 0, none⟩ (.bool lf')).setCell ⟨w.heap.size + 1, 1, none⟩ pv').setCell ⟨w.heap.size + 1, 2, none⟩ kv') := ((only_set (R := fun y => y = w.heap.size + 1) rfl _).trans (only_set (R := fun y => y = w.heap.size + 1) rfl _)).trans (only_set (R := fun y => y = w.heap.size + 1) rfl _)
  refine ⟨(hs.to hon (fun y hy _ e => ?_)).mono (fun y hy _ => hy.imp id (fun h => by omega)), h.b.trans (hon.below h.b.size (fun b hb e => by omega)), ((h.r.set 0 _).set 1 _).set 2 _⟩
  rcases hy with hy | hy
  · have := hS y hy; omega
  · omega
theorem row_setB {w : World} {base : Nat} {E : TypeId} {s g n c m : Nat} {xs : List Value} (h : w.ownsRow base E s (.slice (some ⟨g, 0, none⟩) n c) m xs) (j : Nat) (u : Value) : (w.setCell ⟨g, j, none⟩ u).ownsRow base E s (.slice (some ⟨g, 0, none⟩) n c) m (xs.set j u) := by
  obtain ⟨k1, k2⟩ := h
  rcases k2 with ⟨k2, _⟩ | ⟨g', cap, cur, e, k3, k4, k5, k6, k7, k8⟩
  · cases k2
  · cases e
    refine ⟨by simpa using k1, .inr ⟨g, c, cur.setIfInBounds j u, rfl, k3, ?_, k5, k6, by simpa using k7, ?_⟩⟩
    · simp [World.setCell, Array.getElem?_modify, k4]
    · rw [← k8]
      simp only [Array.toList_setIfInBounds, List.take_set]
theorem mkV_set (L : Nat → Bool) (P K : Nat → Value) (n q : Nat) (l : Bool) (p k : Value) : (mkV L P K n).set q (.bool l, p, k) = mkV (fun i => if i = q then l else L i) (fun i => if i = q then p else P i) (fun i => if i = q then k else K i) n := by
  apply List.ext_getElem
  · simp [mkV]
  · intro i h1 h2
    rw [List.getElem_set]
    by_cases e : q = i
    · subst e; simp [mkV]
    · rw [if_neg e]; simp [mkV, Ne.symm e]
/-- One sub of the row is stored anew. -/
theorem SO.set {w : World} {base g n c q : Nat} {S S' : Nat → Prop} {ts : List T} {lf : Bool} {pv kv : Value} {t : T} (h : SO w base S (.slice (some ⟨g, 0, none⟩) n c) ts) (hq : q < ts.length) (hs : Sub w S' lf pv kv t) (hg : ∀ y, S' y → y ≠ g) :
    SO (((w.setCell ⟨g, q * 3, none⟩ (.bool lf)).setCell ⟨g, q * 3 + 1, none⟩ pv).setCell ⟨g, q * 3 + 2, none⟩ kv) base (fun y => S y ∨ S' y) (.slice (some ⟨g, 0, none⟩) n c) (ts.set q t) := by
  obtain ⟨L, P, K, h1, h2, h3⟩ := h
  have hon : Only (fun y => y = g) w (((w.setCell ⟨g, q * 3, none⟩ (.bool lf)).setCell ⟨g, q * 3 + 1, none⟩ pv).setCell ⟨g, q * 3 + 2, none⟩ kv) := ((only_set (R := fun y => y = g) rfl _).trans (only_set (R := fun y => y = g) rfl _)).trans (only_set (R := fun y => y = g) rfl _)
  have hS : ∀ y, S y → y ≠ g := fun y hy e => h3 y hy (by rw [e]; rfl)
  refine ⟨fun i => if i = q then lf else L i, fun i => if i = q then pv else P i, fun i => if i = q then kv else K i, ?_, fun i hi => ?_, fun y hy e => ?_⟩
  · rw [List.length_set, ← mkV_set, ncs_set _ _ _ (by rw [mkV_length]; exact hq)]
    exact row_setB (row_setB (row_setB h1 _ _) _ _) _ _
  · rw [List.length_set] at hi
    by_cases e : i = q
    · subst e
      simp only [if_true]
      rw [show tAt (ts.set i t) i = t by simp [tAt, hi]]
      exact (hs.to hon (fun y hy _ => hg y hy)).mono (fun y hy _ => .inr hy)
    · simp only [e, if_false]
      rw [show tAt (ts.set q t) i = tAt ts i by simp [tAt, Ne.symm e]]
      exact ((h2 i hi).to hon (fun y hy _ => hS y hy)).mono (fun y hy _ => .inl hy)
  · have e' : g = y := by simpa [Value.ownBlock] using e
    rcases hy with hy | hy
    · exact hS y hy e'.symm
    · exact hg y hy e'.symm
/-- What is read of a row of subs. -/
theorem SO.at {w : World} {base : Nat} {S : Nat → Prop} {a : Option Addr} {n c : Nat} {ts : List T} (h : SO w base S (.slice a n c) ts) (hp : 0 < ts.length) : ∃ g, a = some ⟨g, 0, none⟩ ∧ (∀ o, w.frozen? ⟨g, o, none⟩ = false) ∧ ∀ i, i < ts.length → ∃ l ap np cp ak nk ck,
    w.cell? ⟨g, i * 3, none⟩ = some (.bool l) ∧ w.cell? ⟨g, i * 3 + 1, none⟩ = some (.slice ap np cp) ∧ w.cell? ⟨g, i * 3 + 2, none⟩ = some (.slice ak nk ck) ∧ Sub w S l (.slice ap np cp) (.slice ak nk ck) (tAt ts i) := by
  obtain ⟨L, P, K, h1, h2, h3⟩ := h
  rcases h1.2 with ⟨_, h0⟩ | ⟨g, cap, cur, e, _, k4, _⟩
  · omega
  cases e
  refine ⟨g, rfl, fun o => by simp [World.frozen?, k4], fun i hi => ?_⟩
  have hc := World.ownsRow.cells h1 (g := g) rfl
  obtain ⟨c0, c1, c2⟩ := ncs_at (mkV L P K ts.length) i (by rw [mkV_length]; exact hi)
  rw [mkV_at _ _ _ _ _ hi] at c0 c1 c2
  have d0 := hc _ _ c0
  have d1 := hc _ _ c1
  have d2 := hc _ _ c2
  rw [Addr.add_lit, Nat.zero_add] at d0 d1 d2
  have hs := h2 i hi
  obtain ⟨ap, np, cp, ak, nk, ck, e1, e2, _⟩ := hs.shape
  simp only at d1 d2
  rw [e1] at d1 hs
  rw [e2] at d2 hs
  exact ⟨L i, ap, np, cp, ak, nk, ck, d0, d1, d2, hs⟩
theorem ev_leaf {h : Nat} {a b : T} (ha : Ev h a) (hb : Ev h b) : a.ks = [] ↔ b.ks = [] := by
  obtain ⟨pa, ka⟩ := a
  obtain ⟨pb, kb⟩ := b
  cases h with
  | zero => exact ha.elim
  | succ h =>
    rcases ha with ⟨rfl, rfl⟩ | ⟨h1, h2⟩
    · rcases hb with ⟨rfl, _⟩ | ⟨h3, h4⟩
      · exact ⟨fun _ => rfl, fun _ => rfl⟩
      · obtain ⟨x, hx⟩ := List.exists_mem_of_ne_nil kb h3
        exact (h4 x hx).elim
    · rcases hb with ⟨rfl, rfl⟩ | ⟨h3, h4⟩
      · obtain ⟨x, hx⟩ := List.exists_mem_of_ne_nil ka h1
        exact (h2 x hx).elim
      · exact ⟨fun e => absurd e h1, fun e => absurd e h3⟩
theorem delS_cons (x : PB) (l : List PB) (k : ByteArray) : delS (x :: l) k = (if x.1 = k then [] else [x]) ++ delS l k := by
  unfold delS
  rw [List.filter_cons]
  by_cases e : x.1 = k <;> simp [e]
set_option maxHeartbeats 2000000 in
set_option maxRecDepth 20000 in
theorem specDrop_leaf (S : Nat → Prop) (ap ak : Option Addr) (np cp ck : Nat) (t : T) (k : ByteArray) (w : World) (h : Sub w S true (.slice ap np cp) (.slice ak 0 ck) t) (hs : t.ps.length ≤ 4) :
    Calls Tryd.prog 70 #[.agg #[.bool true, .slice ap np cp, .slice ak 0 ck], .string k] w fun e w' => DropPost w S (.mk (delS t.ps k) []) e w' := by
  obtain ⟨_, _, _, _, _, _, e1, e2, HNP, HNK, b1, b2, -, hP⟩ := h.shape
  cases e1
  cases e2
  have hnp : np ≤ 4 := by rw [HNP.out]; exact hs
  have HP := hid hP
  have HI0 := hid (dri_start w true (.slice ap np cp) (.slice ak 0 ck))
  have c0 := HI0.out.s.cell (j := 0) rfl
  have HIb := hid (HI0.out.keep (below_new (o := .cells #[] 91) (Below.refl _ _)))
  have c1 := HIb.out.s.cell (j := 1) rfl
  have HO0 : Hid (Ow (((w.alloc (.cells #[.bool true, .slice ap np cp, .slice ak 0 ck] 98)).alloc (.cells #[.bool false, .slice none 0 0, .slice none 0 0] 98)).alloc (.cells #[] 91)) (w.heap.size + 2) (.slice (some ⟨w.heap.size + 2, 0, none⟩) 0 0) []) := by
    have := ow_new ((w.alloc (.cells #[.bool true, .slice ap np cp, .slice ak 0 ck] 98)).alloc (.cells #[.bool false, .slice none 0 0, .slice none 0 0] 98)) (w.heap.size + 2) (by simp)
    show Ow _ _ _ _
    simpa using this
  clear h hs b1 b2 hP
  go_enter Tryd.func70, Tryd.ntmps70
  go_wp2_with fail
  go_loopw [5, 17] (fun x z wr => ∃ (i : Nat) (a : Option Addr) (n c : Nat) (l : List PB), i ≤ np ∧ x = .slice a n c ∧ z = .int .i64 (i : Int) ∧ Hid (DrI w wr true (.slice ap np cp) (.slice ak 0 ck)) ∧ Hid (Ow wr (w.heap.size + 2) (.slice a n c) l) ∧ Hid (l ++ delS (t.ps.drop i) k = delS t.ps k) ∧ Hid (l.length ≤ i)) (fun _ z _ => np - (intOf z).toNat)
  case atStart => exact ⟨0, _, _, _, [], Nat.zero_le _, rfl, rfl, HIb.out, by have := HO0.out; show Ow _ _ _ _; simpa using this, rfl, Nat.zero_le _⟩
  case round =>
    obtain ⟨i, a, n, c, l, hi, rfl, rfl, HI, HO, HE, HLL⟩ := hrel
    by_cases hlt : i < np
    · have hlt' : (i : Int) < (np : Int) := by omega
      have hi0 : (0 : Int) ≤ (i : Int) := by omega
      obtain ⟨g, off, hap, _, _, hc⟩ := (HP.out.below HI.out.b).at (by omega)
      subst hap
      obtain ⟨x0, x1⟩ := hc i hlt
      have HD : Hid (t.ps.drop i = pAtB t.ps i :: t.ps.drop (i + 1)) := drop_pAtB (by rw [← HNP.out]; exact hlt)
      rw [HD.out, delS_cons] at HE
      clear hc
      generalize pAtB t.ps i = xx at *
      obtain ⟨y0, y1⟩ := xx
      simp only at x0 x1 HE
      have hbx := below_new (o := .cells #[.string y0, .string y1] 91) (w := wr) (Below.refl _ _)
      have HIX := hid (HI.out.keep hbx)
      have HOX := hid (HO.out.kept hbx)
      have KX := hid (Bk.new wr 91 [.string y0, .string y1])
      have k0 := KX.out.cell (j := 0) rfl
      have k1 := KX.out.cell (j := 1) rfl
      clear hbx
      by_cases e : y0 = k
      · have HEQ : Hid (l ++ delS (t.ps.drop (i + 1)) k = delS t.ps k) := by have := HE.out; show _ = _; simpa [e] using this
        subst e
        clear HE
        go_wp2
        go_roundw
        case rel => exact ⟨i + 1, a, n, c, l, by omega, rfl, by go_num, HIX.out, HOX.out, HEQ.out, by have := HLL.out; show _ ≤ _; omega⟩
        case measure => simp [intOf]; omega
      · have HEQ : Hid ((l ++ [(y0, y1)]) ++ delS (t.ps.drop (i + 1)) k = delS t.ps k) := by have := HE.out; show _ = _; simpa [e] using this
        have hne : (y0.toList == k.toList) = false := by
          rw [beq_eq_false_iff_ne]; exact fun h => e (str_ext h)
        have hby := below_new (o := .cells #[.string y0, .string y1] 91) (w := wr.alloc (.cells #[.string y0, .string y1] 91)) (Below.refl _ _)
        have HIY := hid (HIX.out.keep hby)
        have HOY := hid (HOX.out.kept hby)
        have HPa : Hid (Pr ((wr.alloc (.cells #[.string y0, .string y1] 91)).alloc (.cells #[.string y0, .string y1] 91)) (fun _ => True) (.slice (some ⟨wr.heap.size + 1, 0, none⟩) 1 1) [(y0, y1)]) := by
          have := (Bk.new (wr.alloc (.cells #[.string y0, .string y1] 91)) 91 [.string y0, .string y1]).pr (n := 1) (ps := [(y0, y1)]) rfl (by omega) (fun _ => True) trivial
          have hz : (wr.alloc (.cells #[.string y0, .string y1] 91)).heap.size = wr.heap.size + 1 := by simp
          rw [hz] at this
          exact this
        clear HE hby
        go_wp2_with (at_builtin; refine wpList_append_pairs rfl _ _ rfl (w.heap.size + 2) _ _ rfl HOY.out (fun _ => True) _ [(y0, y1)] rfl HPa.out ?q1 ?q2 ?_)
        case q1 => have := HLL.out; simp; omega
        case q2 => have h9 := HI.out.z; first | omega | (simp; omega)
        intro v2 w2 hO2 hg2
        obtain ⟨a2, n2, c2, e2, -⟩ := hO2.shape'
        subst e2
        have HI2 := hid (HIY.out.grow hg2 (fun x e => (World.ownsRow.lt HOY.out x e).1))
        have HO2 := hid hO2
        clear hO2 hg2
        go_wp2
        go_roundw
        case rel => exact ⟨i + 1, a2, n2, c2, _, by omega, rfl, by go_num, HI2.out, HO2.out, HEQ.out, by have := HLL.out; show _ ≤ _; simp; omega⟩
        case measure => simp [intOf]; omega
    · have hlt' : ¬ (i : Int) < (np : Int) := by omega
      have HD : Hid (t.ps.drop i = []) := List.drop_eq_nil_of_le (by rw [← HNP.out]; omega)
      rw [HD.out] at HE
      have HEQ : Hid (delS t.ps k = l) := by have := HE.out; show _ = _; simpa [delS] using this.symm
      have r0 := HI.out.r.cell (j := 0) rfl
      have r1 := HI.out.r.cell (j := 1) rfl
      have r2 := HI.out.r.cell (j := 2) rfl
      have rf0 := HI.out.r.free 0
      have rf1 := HI.out.r.free 1
      have rf2 := HI.out.r.free 2
      have HD2 := hid (HI.out.done (S := fun y => S y ∧ y < w.heap.size) (Sub.leafOf (HO.out.pr (fun y _ h1 _ => .inr h1))) (fun y hy => hy.2))
      have z0 := HD2.out.2.2.cell (j := 0) rfl
      have z1 := HD2.out.2.2.cell (j := 1) rfl
      have z2 := HD2.out.2.2.cell (j := 2) rfl
      clear HE HP
      go_wp2
      refine bodyPost_ret (v := .agg #[.bool true, .slice a n c, .slice none 0 0]) ?_ rfl ?_
      · refine results_sub1 rfl _ _ _ rfl ?_ ?_ ?_
        · exact z0
        · exact z1
        · exact z2
      · refine ⟨_, _, _, _, _, _, _, rfl, ?_, HD2.out.2.1⟩
        rw [HEQ.out]
        exact HD2.out.1.mono (fun y hy _ => hy.imp (fun h => h.1) id)
end Go.Proofs.YtcpdedpgjaimkaaDoor
/-
  l03Drop of the specification: it drops as the plain function drops.
-/
namespace Go.Proofs.YtcpdedpgjaimkaaDoor
open Go.RowKit
set_option maxHeartbeats 4000000 in
set_option maxRecDepth 20000 in
theorem specDrop_any : ∀ (f : Nat) (r : Bool) (S : Nat → Prop) (lf : Bool) (ap ak : Option Addr) (np cp nk ck : Nat) (t : T) (k : ByteArray) (w : World), Sub w S lf (.slice ap np cp) (.slice ak nk ck) t → PutIn f r t →
    Calls Tryd.prog 70 #[.agg #[.bool lf, .slice ap np cp, .slice ak nk ck], .string k] w fun e w' => DropPost w S (dropS f t k) e w' := by
  intro f
  induction f with
  | zero => intro r S lf ap ak np cp nk ck t k w _ g; exact g.ev.elim
  | succ f ih =>
  intro r S lf ap ak np cp nk ck t k w h g
  obtain ⟨_, _, _, _, _, _, e1, e2, HNP, HNK, b1, b2, hlf, -⟩ := h.shape
  cases e1
  cases e2
  by_cases hk : t.ks = []
  · have hn : nk = 0 := by rw [HNK.out, hk]; rfl
    have hl : lf = true := by rw [hlf, hn]; rfl
    have HF : dropS (f + 1) t k = .mk (delS t.ps k) [] := by rw [dropS, if_pos hk]
    subst hn hl
    rw [HF]
    exact specDrop_leaf S ap ak np cp ck t k w h (by obtain ⟨ps, ks⟩ := t; cases (show ks = [] from hk); exact g.leaf.2.1)
  · obtain ⟨ps, ks⟩ := t
    simp only [T.ks, T.ps] at hk HNK HNP
    obtain ⟨hp0, hl1, hl2, hf3, he4, ha5⟩ := g.kids hk
    have hn0 : nk ≠ 0 := by rw [HNK.out]; have := List.length_pos_iff.2 hk; omega
    have hl : lf = false := by rw [hlf]; exact decide_eq_false hn0
    subst hl
    obtain ⟨hq, _, _⟩ := kidOf_spec k hk
    have hw := wayOf_eq (k := k) hk hf3 ha5
    have HF : Hid (dropS (f + 1) (.mk ps ks) k = if (dropS f (tAt ks (wayOf ks k)) k).poor = true then .mk [] ((ks.set (wayOf ks k) (dropS f (tAt ks (wayOf ks k)) k)).take (max (wayOf ks k) 1 - 1) ++ togS (tAt (ks.set (wayOf ks k) (dropS f (tAt ks (wayOf ks k)) k)) (max (wayOf ks k) 1 - 1)) (tAt (ks.set (wayOf ks k) (dropS f (tAt ks (wayOf ks k)) k)) (max (wayOf ks k) 1)) ++ (ks.set (wayOf ks k) (dropS f (tAt ks (wayOf ks k)) k)).drop (max (wayOf ks k) 1 + 1)) else .mk [] (ks.set (wayOf ks k) (dropS f (tAt ks (wayOf ks k)) k))) := by
      show _ = _; rw [dropS, if_neg (show ¬ (T.mk ps ks).ks = [] from hk)]; rfl
    have HKG := hid (g.kid hk k)
    rw [← hw] at hq HKG
    have HNR : Hid (Near f (dropS f (tAt ks (wayOf ks k)) k) (delP (tAt ks (wayOf ks k)).all k)) := by
      show Near _ _ _
      rw [dropS_eq f false _ k HKG.out]; exact (dropF_out f false _ k HKG.out).1
    have HKF : Hid (∀ x ∈ ks, x.full false = true) := hf3
    have HKE : Hid (∀ x ∈ ks, Ev f x) := he4
    have H0 : Hid (Sub w (fun y => S y ∧ y < w.heap.size) false (.slice ap np cp) (.slice ak nk ck) (.mk ps ks)) := h.mono (fun y hy hl => ⟨hy, hl⟩)
    have hnk : nk ≤ 4 := by rw [HNK.out]; exact hl2
    have hnk2 : 2 ≤ nk := by rw [HNK.out]; exact hl1
    have HWY := hid (fun (w' : World) (h' : Sub w' (fun y => S y ∧ y < w.heap.size) false (.slice ap np cp) (.slice ak nk ck) (.mk ps ks)) => specWay_any _ false ap ak np cp nk ck (.mk ps ks) k w' h' (by simp only [T.ks]; omega))
    simp only [T.ks] at HWY
    have IH := hid ih
    have hqn : wayOf ks k < nk := by rw [HNK.out]; exact hq
    have HQ := hid hq
    generalize hqq : wayOf ks k = q at *
    clear hqq hw h g ih hlf b1 b2 hp0 hl1 hl2 hf3 he4 ha5 hq
    have HI0 := hid (dri_start w false (.slice ap np cp) (.slice ak nk ck))
    have s0 := HI0.out.s.cell (j := 0) rfl
    have s1 := HI0.out.s.cell (j := 1) rfl
    have s2 := HI0.out.s.cell (j := 2) rfl
    go_enter Tryd.func70, Tryd.ntmps70
    go_wp2_with fail
    refine (HWY.out _ (H0.out.kept HI0.out.b)).mono ?_
    generalize (w.alloc (.cells #[.bool false, .slice ap np cp, .slice ak nk ck] 98)).alloc (.cells #[.bool false, .slice none 0 0, .slice none 0 0] 98) = U at *
    rintro e w1 ⟨rfl, hb⟩
    have HI1 := hid (HI0.out.keep hb)
    have HI2 := hid (HI1.out.keep (below_new (o := .cells #[] 98) (w := w1) (Below.refl _ _)))
    have HSN := hid (so_new w1 (w.heap.size + 2) HI1.out.z)
    clear hb s0 s1 s2 HWY HI0
    have HS2 := hid ((H0.out.kept HI2.out.b).row)
    simp only [T.ks] at HS2
    have u2 := HI2.out.s.cell (j := 2) rfl
    go_wp2_with (at_builtin; refine wpList_append_subs rfl _ _ rfl (w.heap.size + 2) _ (fun y => S y ∧ y < w.heap.size) (.slice (some ⟨w1.heap.size, 0, none⟩) 0 0) _ [] ks rfl HSN.out rfl HS2.out ?q0 ?q1 ?q2 ?_)
    case q0 => intro y hy e; have e' : w1.heap.size = y := (by simpa [Value.ownBlock] using e)
               have := HI1.out.z; have := hy.2; omega
    case q1 => have := HNK.out; simp; omega
    case q2 => have := HI1.out.z; first | omega | (simp; omega)
    intro v3 w3 hO3 hg3 ha3
    obtain ⟨a3, n3, c3, e3, hn3⟩ := hO3.shape
    subst e3
    have hlo3 := hO3.lo
    have HI3 := hid (HI2.out.grow hg3 (fun x e => by have e' : w1.heap.size = x := (by simpa [Value.ownBlock] using e); have := HI1.out.z; omega))
    have HS3 : Hid (SO w3 (w.heap.size + 2) (fun y => S y ∧ y < w.heap.size) (.slice a3 n3 c3) ks) := hO3.mono (fun y hy _ => hy.1) (fun y hy e => by have := (hlo3 y e).1; have := hy.2; omega)
    have HN3 : Hid (n3 = nk) := by have := hn3.out; have := HNK.out; show _ = _; simp at *; omega
    clear hO3 hg3 ha3 HSN HS2 HI2 u2 hlo3 hn3 HI1
    obtain ⟨gk, hak, hfr, hat⟩ := HS3.out.at (by rw [← HNK.out]; omega)
    subst hak
    obtain ⟨l9, ap9, np9, cp9, ak9, nk9, ck9, x0, x1, x2, hs9⟩ := hat q HQ.out
    have HS9 := hid hs9
    have hgk := HS3.out.lo gk rfl
    have HGK := hid hgk
    have hq2 : (0 : Int) ≤ (q : Int) := by omega
    have hq4 : (q : Int) < (n3 : Int) := by have := HN3.out; omega
    clear hat hs9 hgk hfr
    go_wp2_with fail
    refine (IH.out false _ l9 ap9 ak9 np9 cp9 nk9 ck9 (tAt ks q) k w3 HS9.out HKG.out).mono ?_
    rintro e w4 ⟨lz, apz, npz, cpz, akz, nkz, ckz, rfl, hsz, hbz⟩
    have HI4 := hid (HI3.out.keep hbz)
    have HS4 := hid (HS3.out.kept hbz)
    have HZ34 := hid hbz.size
    have hsz2 : Sub w4 (fun y => (S y ∧ y < w.heap.size) ∨ (w3.heap.size ≤ y ∧ y < w4.heap.size)) lz (.slice apz npz cpz) (.slice akz nkz ckz) (dropS f (tAt ks q) k) := hsz.mono (fun y hy hl => hy.imp id (fun h => ⟨h, hl⟩))
    have HS5 := hid (HS4.out.set HQ.out hsz2 (fun y hy e => by
      have := HGK.out
      rcases hy with hy | hy
      · have := hy.2; omega
      · omega))
    obtain ⟨_, e5, hfr4, hat4⟩ := HS4.out.at (by rw [← HNK.out]; omega)
    cases e5
    obtain ⟨m9, _, _, _, _, _, _, y0, y1, y2, -⟩ := hat4 q HQ.out
    have yf0 := hfr4 (q * 3)
    have yf1 := hfr4 (q * 3 + 1)
    have yf2 := hfr4 (q * 3 + 2)
    generalize hrr : dropS f (tAt ks q) k = rr at *
    have HRR := hid hrr
    have HI5 : Hid (DrI w (((w4.setCell ⟨gk, q * 3, none⟩ (.bool lz)).setCell ⟨gk, q * 3 + 1, none⟩ (.slice apz npz cpz)).setCell ⟨gk, q * 3 + 2, none⟩ (.slice akz nkz ckz)) false (.slice ap np cp) (.slice ak nk ck)) := HI4.out.only (((only_set (R := fun y => y = gk) rfl _).trans (only_set (R := fun y => y = gk) rfl _)).trans (only_set (R := fun y => y = gk) rfl _)) (fun x e => by have := HGK.out; omega)
    have HLN : Hid ((ks.set q rr).length = nk) := by show _ = _; rw [List.length_set]; exact HNK.out.symm
    obtain ⟨_, e5, hfr5, hat5⟩ := HS5.out.at (by rw [HLN.out]; omega)
    cases e5
    obtain ⟨l5, ap5, np5, cp5, ak5, nk5, ck5, t0, t1, t2, hs5⟩ := hat5 q (by rw [HLN.out]; exact hqn)
    rw [show tAt (ks.set q rr) q = rr by simp [tAt, HQ.out]] at hs5
    have HFW := hid (specFew_any _ l5 ap5 ak5 np5 cp5 nk5 ck5 rr _ hs5 (fun h => (HNR.out.br h).1))
    have HW5 : Hid (w4.heap.size = (((w4.setCell ⟨gk, q * 3, none⟩ (.bool lz)).setCell ⟨gk, q * 3 + 1, none⟩ (.slice apz npz cpz)).setCell ⟨gk, q * 3 + 2, none⟩ (.slice akz nkz ckz)).heap.size) := by show _ = _; simp [World.setCell]
    clear hsz hbz hsz2 hat4 hfr4 hat5 hfr5 hs5 hrr
    go_wp2_with fail
    refine HFW.out.mono ?_
    generalize hX : (((w4.setCell ⟨gk, q * 3, none⟩ (.bool lz)).setCell ⟨gk, q * 3 + 1, none⟩ (.slice apz npz cpz)).setCell ⟨gk, q * 3 + 2, none⟩ (.slice akz nkz ckz)) = X at *
    clear hX y0 y1 y2 yf0 yf1 yf2 x0 x1 x2
    rintro e w6 ⟨rfl, hb⟩
    have HI6 := hid (HI5.out.keep hb)
    have HS6 := hid (HS5.out.kept hb)
    have HZ6 := hid hb.size
    clear hb t0 t1 t2 HFW HS5 HI5 HS4 HI4 HS3 HI3 HS9
    have hn32 : ¬ (n3 : Int) < 2 := by have := HN3.out; omega
    cases hpo : rr.poor with
    | false =>
      have HF2 : Hid (dropS (f + 1) (.mk ps ks) k = .mk [] (ks.set q rr)) := by show _ = _; rw [HF.out, if_neg (by rw [hpo]; simp)]
      have r0 := HI6.out.r.cell (j := 0) rfl
      have r1 := HI6.out.r.cell (j := 1) rfl
      have r2 := HI6.out.r.cell (j := 2) rfl
      have rf0 := HI6.out.r.free 0
      have rf1 := HI6.out.r.free 1
      have rf2 := HI6.out.r.free 2
      have hsr : SubR w6 (fun y => (S y ∧ y < w.heap.size) ∨ w.heap.size + 2 ≤ y) (.slice (some ⟨gk, 0, none⟩) n3 c3) (ks.set q rr) := HS6.out.subR (fun y _ h1 _ => .inr h1) (fun y hy _ => by
        rcases hy with h | h | h
        · exact .inl h
        · exact .inl h
        · right; have := HGK.out; omega)
      have HD2 := hid (HI6.out.done (S := fun y => S y ∧ y < w.heap.size) (hsr.sub (by intro e; have := HLN.out; rw [e] at this; simp at this; omega)) (fun y hy => hy.2))
      have z0 := HD2.out.2.2.cell (j := 0) rfl
      have z1 := HD2.out.2.2.cell (j := 1) rfl
      have z2 := HD2.out.2.2.cell (j := 2) rfl
      clear hpo hsr
      go_wp2
      refine bodyPost_ret (v := .agg #[.bool false, .slice none 0 0, .slice (some ⟨gk, 0, none⟩) n3 c3]) ?_ rfl ?_
      · refine results_sub1 rfl _ _ _ rfl ?_ ?_ ?_
        · exact z0
        · exact z1
        · exact z2
      · refine ⟨_, _, _, _, _, _, _, rfl, ?_, HD2.out.2.1⟩
        rw [HF2.out]
        exact HD2.out.1.mono (fun y hy _ => hy.imp (fun h => h.1) id)
    | true =>
      obtain ⟨s, hs⟩ : ∃ s, max q 1 = s + 1 := ⟨max q 1 - 1, by omega⟩
      have HF2 : Hid (dropS (f + 1) (.mk ps ks) k = .mk [] ((ks.set q rr).take s ++ togS (tAt (ks.set q rr) s) (tAt (ks.set q rr) (s + 1)) ++ (ks.set q rr).drop (s + 1 + 1))) := by show _ = _; rw [HF.out, if_pos hpo, hs, Nat.add_sub_cancel]
      have hsn : s + 1 < nk := by omega
      have HKS : Hid (SO w6 (w.heap.size + 2) (fun y => (S y ∧ y < w.heap.size) ∨ (w3.heap.size ≤ y ∧ y < w4.heap.size)) (.slice (some ⟨gk, 0, none⟩) n3 c3) (ks.set q rr)) := HS6.out.mono (fun y hy _ => by
        rcases hy with h | h | h
        · exact .inl h
        · exact .inl h
        · exact .inr h) (fun y hy e => by
        have e' : gk = y := by simpa [Value.ownBlock] using e
        have := HGK.out
        rcases hy with h | h
        · have := h.2; omega
        · omega)
      have HSM : Hid (∀ i, i < nk → Ev f (tAt (ks.set q rr) i) ∧ (tAt (ks.set q rr) i).ps.length ≤ 4 ∧ (tAt (ks.set q rr) i).ks.length ≤ 4) := by
        intro i hi
        by_cases e : i = q
        · subst e
          rw [show tAt (ks.set i rr) i = rr by simp [tAt, HQ.out]]
          refine ⟨HNR.out.ev, ?_, ?_⟩
          · by_cases h : rr.ks = []
            · exact HNR.out.leaf h
            · rw [(HNR.out.br h).1]; simp
          · by_cases h : rr.ks = []
            · rw [h]; simp
            · exact (HNR.out.br h).2.1
        · rw [show tAt (ks.set q rr) i = tAt ks i by simp [tAt, Ne.symm e]]
          have hm : tAt ks i ∈ ks := tAt_mem (by rw [← HNK.out]; exact hi)
          exact ⟨HKE.out _ hm, full_small (HKF.out _ hm)⟩
      have HNE : Hid ((ks.set q rr).take s ++ togS (tAt (ks.set q rr) s) (tAt (ks.set q rr) (s + 1)) ++ (ks.set q rr).drop (s + 1 + 1) ≠ []) := by
        intro e
        have h1 := List.append_eq_nil_iff.1 e
        have h2 := List.append_eq_nil_iff.1 h1.1
        have h3 : splT (.mk ((tAt (ks.set q rr) s).ps ++ (tAt (ks.set q rr) (s + 1)).ps) ((tAt (ks.set q rr) s).ks ++ (tAt (ks.set q rr) (s + 1)).ks)) = [] := h2.2
        unfold splT at h3
        split at h3
        · cases h3
        · split at h3 <;> cases h3
      have HTL : Hid ((togS (tAt (ks.set q rr) s) (tAt (ks.set q rr) (s + 1))).length ≤ 2) := by
        show (splT _).length ≤ 2
        unfold splT
        split
        · simp
        · split <;> simp
      have HTP : Hid (0 < (togS (tAt (ks.set q rr) s) (tAt (ks.set q rr) (s + 1))).length) := by
        show 0 < (splT _).length
        unfold splT
        split
        · simp
        · split <;> simp
      have HQ0 : Hid (q = 0 ∧ s = 0 ∨ q = s + 1) := by show _ ∨ _; omega
      have HSN : Hid (s + 1 < nk) := hsn
      have HPO := hid hpo
      generalize hkz : ks.set q rr = kz at *
      clear hkz HNR HKF HKE HF HRR HS6 hs hsn
      have hn4 : n3 ≤ 4 := by have := HN3.out; omega
      rcases HQ0.out with ⟨hq0', hs0'⟩ | hqs
      · have hqz : (q : Int) = 0 := by omega
        subst hs0'
        simp only [Nat.zero_add, List.take_zero, List.nil_append] at HTL HF2 HNE HSN HTP
        have HI7 := hid (HI6.out.keep (below_new (o := .cells #[] 98) (w := w6) (Below.refl _ _)))
        have HK7 := hid (HKS.out.kept (below_new (o := .cells #[] 98) (w := w6) (Below.refl _ _)))
        have HS7 := hid (so_new w6 w6.heap.size (Nat.le_refl _))
        have HGZ : Hid (gk < w6.heap.size ∧ w4.heap.size ≤ w6.heap.size ∧ w.heap.size + 2 ≤ w6.heap.size) := ⟨(HKS.out.lo gk rfl).2, by have h1 := HZ6.out; have h2 := HW5.out; omega, HI6.out.z⟩
        have HR7 : Hid (SubR (w6.alloc (.cells #[] 98)) (fun y => y < w6.heap.size ∧ ((S y ∧ y < w.heap.size) ∨ w.heap.size + 2 ≤ y)) (.slice (some ⟨gk, 0, none⟩) n3 c3) kz) := HK7.out.subR (fun y e h1 _ => by have e' : gk = y := (by simpa [Value.ownBlock] using e); have := HGZ.out; exact ⟨by omega, .inr h1⟩) (fun y hy _ => by
          have := HGZ.out
          have := HGK.out
          rcases hy with h | h
          · exact ⟨by have := h.2; omega, .inl h⟩
          · exact ⟨by omega, .inr (by omega)⟩)
        have hn1 : 0 + 1 < n3 := by have := HN3.out; have := HSN.out; omega
        have hc3 : n3 ≤ c3 ∧ c3 ≤ 9223372036854775807 := by obtain ⟨L, P, K, h1, _⟩ := HKS.out; exact (row_cap h1).2
        obtain ⟨hc31, hc32⟩ := hc3
        have hzn : 0 < n3 := by omega
        have hzn1 : 1 < n3 := by omega
        have hz1 : (0 : Int) ≤ (c3 : Int) := by omega
        have hz2 : (1 : Int) < (n3 : Int) := by omega
        have hz3 : (0 : Int) < (n3 : Int) := by omega
        have hwr : IntKind.i64.wrap (0 : Int) = 0 := by rw [IntKind.wrap_i64]; omega
        go_wp2_with (at_builtin; refine wpList_append_subs rfl _ _ rfl w6.heap.size _ (fun y => y < w6.heap.size ∧ ((S y ∧ y < w.heap.size) ∨ w.heap.size + 2 ≤ y)) (.slice (some ⟨w6.heap.size, 0, none⟩) 0 0) _ [] (kz.take (0)) rfl HS7.out rfl (HR7.out.take (by omega)) ?q0 ?q1 ?q2 ?_)
        case q0 => intro y hy e; have e' : w6.heap.size = y := (by simpa [Value.ownBlock] using e)
                   have := hy.1; omega
        case q1 => first | (rw [List.length_take]; simp; omega) | simp
        case q2 => first | omega | simp
        intro v8 w8 hO8 hg8 ha8
        obtain ⟨a8, n8, c8, e8, -⟩ := hO8.shape
        subst e8
        have hlo8 := hO8.lo
        have HI8 := hid (HI7.out.grow hg8 (fun x e => by have e' : w6.heap.size = x := (by simpa [Value.ownBlock] using e); have := HGZ.out; omega))
        have hon8 : Only (fun y => y = w6.heap.size) (w6.alloc (.cells #[] 98)) w8 := only_of_grown hg8 (fun x e => by have e' : w6.heap.size = x := (by simpa [Value.ownBlock] using e); omega)
        have HK8 := hid (HK7.out.to hon8 (fun y e h => by have e' : gk = y := (by simpa [Value.ownBlock] using e); have := HGZ.out; omega) (fun y hy _ h => by have := HGZ.out; rcases hy with h2 | h2 <;> omega))
        have HS8 : Hid (SO w8 w6.heap.size (fun y => y < w6.heap.size ∧ ((S y ∧ y < w.heap.size) ∨ w.heap.size + 2 ≤ y)) (.slice a8 n8 c8) (kz.take (0))) := by
          refine SO.mono (S := fun y => y < w6.heap.size ∧ ((S y ∧ y < w.heap.size) ∨ w.heap.size + 2 ≤ y)) ?_ (fun y hy _ => hy) (fun y hy e => by have := (hlo8 y e).1; have := hy.1; omega)
          have h9 := hO8.mono (R := fun y => y < w6.heap.size ∧ ((S y ∧ y < w.heap.size) ∨ w.heap.size + 2 ≤ y)) (fun y hy _ => by first | exact hy.1 | exact hy.1.resolve_left id) (fun y hy e => by have := (hlo8 y e).1; have := hy.1; omega)
          simpa using h9
        have HZ68 : Hid (w6.heap.size ≤ w8.heap.size) := by have := hon8.size; simp at this; show _ ≤ _; omega
        clear hO8 hg8 ha8 HI7 HK7 HS7 HR7 hlo8 hon8
        obtain ⟨_, eK, _, hatK⟩ := HK8.out.at (by rw [HLN.out]; omega)
        cases eK
        obtain ⟨la, apa, npa, cpa, aka, nka, cka, i0, i1, i2, hsa⟩ := hatK (0) (by rw [HLN.out]; have := HSN.out; omega)
        obtain ⟨lb, apb, npb, cpb, akb, nkb, ckb, j0, j1, j2, hsb⟩ := hatK (1) (by rw [HLN.out]; exact HSN.out)
        try simp only [Nat.zero_mul, Nat.one_mul, Nat.zero_add] at i0 i1 i2 j0 j1 j2
        have HTG := hid (specTogether_any _ la lb apa aka apb akb npa cpa nka cka npb cpb nkb ckb _ _ w8.drew (hsa.kept (below_drew _)) (hsb.kept (below_drew _)) (ev_leaf (HSM.out (0) (by have := HSN.out; omega)).1 (HSM.out (1) HSN.out).1) (by have h1 := (HSM.out (0) (by have := HSN.out; omega)).2.1; have h2 := (HSM.out (1) HSN.out).2.1; omega) (by have h1 := (HSM.out (0) (by have := HSN.out; omega)).2.2; have h2 := (HSM.out (1) HSN.out).2.2; omega))
        have HAP : Hid (∀ y, ((S y ∧ y < w.heap.size) ∨ (w3.heap.size ≤ y ∧ y < w4.heap.size)) ∨ w8.drew.heap.size ≤ y → (Value.slice a8 n8 c8).ownBlock ≠ some y) := by
          intro y hy e
          have h1 := HS8.out.lo y e
          have h2 := HGZ.out
          rcases hy with (h | h) | h
          · have := h.2; omega
          · omega
          · have h3 : w8.heap.size ≤ y := h
            omega
        have HTL2 : Hid ((kz.take (0)).length + (togS (tAt kz (0)) (tAt kz (1))).length ≤ 1048576) := by have := HTL.out; rw [List.length_take]; show _ ≤ _; omega
        have HST : Hid (∀ (w9 : World), Below w8.drew.heap.size w8.drew w9 → SO w9 w6.heap.size (fun y => y < w6.heap.size ∧ ((S y ∧ y < w.heap.size) ∨ w.heap.size + 2 ≤ y)) (.slice a8 n8 c8) (kz.take (0)) ∧ w6.heap.size ≤ w9.heap.size) := by
          intro w9 hb
          refine ⟨HS8.out.kept (Below.then' (below_drew w8) hb (Nat.le_refl _)), ?_⟩
          have h5 : w8.heap.size ≤ w9.heap.size := hb.size
          have := HZ68.out; omega
        have HFIN : Hid (∀ (w9 wA : World) (aA : Option Addr) (nA cA : Nat) (R : Nat → Prop), Below w8.drew.heap.size w8.drew w9 → SO wA w6.heap.size R (.slice aA nA cA) (kz.take (0) ++ togS (tAt kz (0)) (tAt kz (1))) → (∀ y, R y → ((S y ∧ y < w.heap.size) ∨ w.heap.size + 2 ≤ y)) → w9.grownBy wA (Value.slice a8 n8 c8).ownBlock →
            SO wA w6.heap.size (fun y => ((S y ∧ y < w.heap.size) ∨ (w.heap.size + 2 ≤ y ∧ (Value.slice aA nA cA).ownBlock ≠ some y))) (.slice aA nA cA) (kz.take (0) ++ togS (tAt kz (0)) (tAt kz (1))) ∧ DrI w wA false (.slice ap np cp) (.slice ak nk ck) ∧ SO wA (w.heap.size + 2) (fun y => (S y ∧ y < w.heap.size) ∨ (w3.heap.size ≤ y ∧ y < w4.heap.size)) (.slice (some ⟨gk, 0, none⟩) n3 c3) kz) := by
          intro w9 wA aA nA cA R hb hO hR hg
          have hlo := hO.lo
          have hz := HGZ.out
          have hb2 := Below.then' (below_drew w8) hb (Nat.le_refl _)
          have hon : Only (fun y => w6.heap.size ≤ y) w9 wA := only_of_grown hg (fun x e => (HS8.out.lo x e).1)
          refine ⟨?_, (HI8.out.keep hb2).only hon (fun x h => by omega), (HK8.out.kept hb2).to hon (fun y e h => by have e' : gk = y := (by simpa [Value.ownBlock] using e); omega) (fun y hy _ h => by rcases hy with h2 | h2 <;> omega)⟩
          obtain ⟨L, P, K, h1, h2, h3⟩ := hO
          refine ⟨L, P, K, h1, fun i hi => (h2 i hi).mono (fun y hy hl => ?_), ?_⟩
          · rcases hR y hy with h | h
            · exact .inl h
            · exact .inr ⟨h, h3 y hy⟩
          · rintro y (h | h)
            · intro e; have := (hlo y e).1; have := h.2; omega
            · exact h.2
        have HRR2 : Hid (∀ y, ((y < w6.heap.size ∧ ((S y ∧ y < w.heap.size) ∨ w.heap.size + 2 ≤ y)) ∨ ((S y ∧ y < w.heap.size) ∨ (w3.heap.size ≤ y ∧ y < w4.heap.size)) ∨ w8.drew.heap.size ≤ y) ∧ True → ((S y ∧ y < w.heap.size) ∨ w.heap.size + 2 ≤ y)) := by
          have h1 := HGK.out
          have h2 := HGZ.out
          have h4 := HZ68.out
          rintro y ⟨h | (h | h) | h, -⟩
          · exact h.2
          · exact .inl h
          · right; omega
          · have h3 : w8.heap.size ≤ y := h
            right; omega
        clear hsa hsb hatK
        go_wp2_with fail
        go_cut [10] (fun x v2 => ∃ (aA : Option Addr) (nA cA : Nat), x = .slice aA nA cA ∧ Hid (SO v2 w6.heap.size (fun y => ((S y ∧ y < w.heap.size) ∨ (w.heap.size + 2 ≤ y ∧ (Value.slice aA nA cA).ownBlock ≠ some y))) (.slice aA nA cA) (kz.take (0) ++ togS (tAt kz (0)) (tAt kz (1)))) ∧ Hid (DrI w v2 false (.slice ap np cp) (.slice ak nk ck)) ∧ Hid (SO v2 (w.heap.size + 2) (fun y => (S y ∧ y < w.heap.size) ∨ (w3.heap.size ≤ y ∧ y < w4.heap.size)) (.slice (some ⟨gk, 0, none⟩) n3 c3) kz))
        case first =>
          go_region_law (first
            | (go_simp; go_at_call 76; refine HTG.out.mono ?_; rintro e w9 ⟨v9, rfl, hR9, hb9⟩)
            | (refine step_append_subs rfl _ _ rfl w6.heap.size _ _ (.slice a8 n8 c8) _ (kz.take (0)) (togS (tAt kz (0)) (tAt kz (1))) rfl (HST.out _ hb9).1 rfl hR9 HAP.out HTL2.out (HST.out _ hb9).2 ?_; intro vA wA hOA hgA haA; obtain ⟨aA, nA, cA, eA, -⟩ := hOA.shape; subst eA))
          all_goals (go_wp2_with fail; go_meet)
          all_goals exact ⟨aA, nA, cA, rfl, (HFIN.out _ _ _ _ _ _ hb9 hOA (fun y hy => HRR2.out y ⟨hy.1, trivial⟩) hgA).1, (HFIN.out _ _ _ _ _ _ hb9 hOA (fun y hy => HRR2.out y ⟨hy.1, trivial⟩) hgA).2.1, (HFIN.out _ _ _ _ _ _ hb9 hOA (fun y hy => HRR2.out y ⟨hy.1, trivial⟩) hgA).2.2⟩
        case rest =>
          obtain ⟨aA, nA, cA, rfl, HSA, HIA, HKA⟩ := hcut
          clear HFIN HST HAP HTG i0 i1 i2 j0 j1 j2 HS8 HI8 HK8 HTL2 HRR2
          have HZB : Hid (w6.heap.size ≤ wc.heap.size) := by
            obtain ⟨L, P, K, h1, _⟩ := HSA.out
            have hlen : 0 < (kz.take (0) ++ togS (tAt kz (0)) (tAt kz (1))).length := by
              rw [List.length_append]
              have := HTP.out
              omega
            rcases h1.2 with ⟨_, h0⟩ | ⟨g, _, _, h0, h2, h3, _⟩
            · omega
            · have := (Array.getElem?_eq_some_iff.1 h3).1
              show _ ≤ _; omega
          have HRA : Hid (SubR wc (fun y => y < w6.heap.size ∧ ((S y ∧ y < w.heap.size) ∨ w.heap.size + 2 ≤ y)) (.slice (some ⟨gk, 0, none⟩) n3 c3) kz) := HKA.out.subR (fun y e h1 _ => by have e' : gk = y := (by simpa [Value.ownBlock] using e); have := HGZ.out; exact ⟨by omega, .inr h1⟩) (fun y hy _ => by
            have := HGZ.out
            have := HGK.out
            rcases hy with h | h
            · exact ⟨by have := h.2; omega, .inl h⟩
            · exact ⟨by omega, .inr (by omega)⟩)
          have HAQ : Hid (∀ y, y < w6.heap.size ∧ ((S y ∧ y < w.heap.size) ∨ w.heap.size + 2 ≤ y) → (Value.slice aA nA cA).ownBlock ≠ some y) := fun y hy e => by have := (HSA.out.lo y e).1; have := hy.1; omega
          have HDL : Hid ((kz.take (0) ++ togS (tAt kz (0)) (tAt kz (1))).length + (kz.drop (2)).length ≤ 1048576) := by
            have := HTL.out
            have := HLN.out
            rw [List.length_append, List.length_take, List.length_drop]; show _ ≤ _; omega
          have hzz1 : (2 : Int) ≤ (n3 : Int) := by omega
          have hzz2 : (0 : Int) ≤ (2 : Int) := by omega
          by_cases hcap : ¬ c3 = 2
          · have HDR := hid (HRA.out.drop (m := 2) (by omega))
            rw [Nat.zero_add] at HDR
            go_wp2_with (at_builtin; refine wpList_append_subs rfl _ _ rfl w6.heap.size _ (fun y => y < w6.heap.size ∧ ((S y ∧ y < w.heap.size) ∨ w.heap.size + 2 ≤ y)) (.slice aA nA cA) _ _ (kz.drop (2)) rfl HSA.out rfl HDR.out HAQ.out HDL.out HZB.out ?_)
            intro v6 wD hO6 hg6 ha6
            obtain ⟨a6, n6, c6, e6, -⟩ := hO6.shape
            subst e6
            have hID := HIA.out.grow hg6 (fun x e => by have := (HSA.out.lo x e).1; have := HGZ.out; omega)
            have hSD : Sub wD (fun y => (S y ∧ y < w.heap.size) ∨ w.heap.size + 2 ≤ y) false (.slice none 0 0) (.slice a6 n6 c6) (.mk [] (togS (tAt kz 0) (tAt kz 1) ++ kz.drop 2)) := (hO6.subR (fun y _ h1 _ => .inr (by have := HGZ.out; omega)) (fun y hy _ => by
              rcases hy.1 with (h | h) | h
              · exact .inl h
              · exact .inr h.1
              · exact h.2)).sub HNE.out
            have HD2 := hid (hID.done (S := fun y => S y ∧ y < w.heap.size) hSD (fun y hy => hy.2))
            have r0 := hID.r.cell (j := 0) rfl
            have r1 := hID.r.cell (j := 1) rfl
            have r2 := hID.r.cell (j := 2) rfl
            have rf0 := hID.r.free 0
            have rf1 := hID.r.free 1
            have rf2 := hID.r.free 2
            have z0 := HD2.out.2.2.cell (j := 0) rfl
            have z1 := HD2.out.2.2.cell (j := 1) rfl
            have z2 := HD2.out.2.2.cell (j := 2) rfl
            clear hO6 hg6 ha6 hID hSD HDR
            go_wp2
            refine bodyPost_ret (v := .agg #[.bool false, .slice none 0 0, .slice a6 n6 c6]) ?_ rfl ?_
            · refine results_sub1 rfl _ _ _ rfl ?_ ?_ ?_
              · exact z0
              · exact z1
              · exact z2
            · refine ⟨_, _, _, _, _, _, _, rfl, ?_, HD2.out.2.1⟩
              rw [HF2.out]
              exact HD2.out.1.mono (fun y hy _ => hy.imp (fun h => h.1) id)
          · have hck : c3 = 2 := by omega
            have hnk1 : n3 = 2 := by omega
            have HDR : Hid (SubR wc (fun y => y < w6.heap.size ∧ ((S y ∧ y < w.heap.size) ∨ w.heap.size + 2 ≤ y)) (.slice (some ⟨gk, 0, none⟩) 0 0) (kz.drop (2))) := by
              rw [List.drop_eq_nil_of_le (by rw [HLN.out]; have := HN3.out; omega)]
              exact ⟨fun _ => false, fun _ => .slice none 0 0, fun _ => .slice none 0 0, ⟨_, 0, rfl, Nat.le_refl _, by omega, fun _ => rfl, fun h => (by cases h), fun h => (by simp at h)⟩, fun i hi => (by simp at hi)⟩
            subst hck hnk1
            go_wp2_with (at_builtin; refine wpList_append_subs rfl _ _ rfl w6.heap.size _ (fun y => y < w6.heap.size ∧ ((S y ∧ y < w.heap.size) ∨ w.heap.size + 2 ≤ y)) (.slice aA nA cA) _ _ (kz.drop (2)) rfl HSA.out rfl HDR.out HAQ.out HDL.out HZB.out ?_)
            intro v6 wD hO6 hg6 ha6
            obtain ⟨a6, n6, c6, e6, -⟩ := hO6.shape
            subst e6
            have hID := HIA.out.grow hg6 (fun x e => by have := (HSA.out.lo x e).1; have := HGZ.out; omega)
            have hSD : Sub wD (fun y => (S y ∧ y < w.heap.size) ∨ w.heap.size + 2 ≤ y) false (.slice none 0 0) (.slice a6 n6 c6) (.mk [] (togS (tAt kz 0) (tAt kz 1) ++ kz.drop 2)) := (hO6.subR (fun y _ h1 _ => .inr (by have := HGZ.out; omega)) (fun y hy _ => by
              rcases hy.1 with (h | h) | h
              · exact .inl h
              · exact .inr h.1
              · exact h.2)).sub HNE.out
            have HD2 := hid (hID.done (S := fun y => S y ∧ y < w.heap.size) hSD (fun y hy => hy.2))
            have r0 := hID.r.cell (j := 0) rfl
            have r1 := hID.r.cell (j := 1) rfl
            have r2 := hID.r.cell (j := 2) rfl
            have rf0 := hID.r.free 0
            have rf1 := hID.r.free 1
            have rf2 := hID.r.free 2
            have z0 := HD2.out.2.2.cell (j := 0) rfl
            have z1 := HD2.out.2.2.cell (j := 1) rfl
            have z2 := HD2.out.2.2.cell (j := 2) rfl
            clear hO6 hg6 ha6 hID hSD HDR
            go_wp2
            refine bodyPost_ret (v := .agg #[.bool false, .slice none 0 0, .slice a6 n6 c6]) ?_ rfl ?_
            · refine results_sub1 rfl _ _ _ rfl ?_ ?_ ?_
              · exact z0
              · exact z1
              · exact z2
            · refine ⟨_, _, _, _, _, _, _, rfl, ?_, HD2.out.2.1⟩
              rw [HF2.out]
              exact HD2.out.1.mono (fun y hy _ => hy.imp (fun h => h.1) id)
      · have hqz : ¬ (q : Int) = 0 := by omega
        subst hqs
        simp only [List.append_assoc] at HF2 HNE
        have HI7 := hid (HI6.out.keep (below_new (o := .cells #[] 98) (w := w6) (Below.refl _ _)))
        have HK7 := hid (HKS.out.kept (below_new (o := .cells #[] 98) (w := w6) (Below.refl _ _)))
        have HS7 := hid (so_new w6 w6.heap.size (Nat.le_refl _))
        have HGZ : Hid (gk < w6.heap.size ∧ w4.heap.size ≤ w6.heap.size ∧ w.heap.size + 2 ≤ w6.heap.size) := ⟨(HKS.out.lo gk rfl).2, by have h1 := HZ6.out; have h2 := HW5.out; omega, HI6.out.z⟩
        have HR7 : Hid (SubR (w6.alloc (.cells #[] 98)) (fun y => y < w6.heap.size ∧ ((S y ∧ y < w.heap.size) ∨ w.heap.size + 2 ≤ y)) (.slice (some ⟨gk, 0, none⟩) n3 c3) kz) := HK7.out.subR (fun y e h1 _ => by have e' : gk = y := (by simpa [Value.ownBlock] using e); have := HGZ.out; exact ⟨by omega, .inr h1⟩) (fun y hy _ => by
          have := HGZ.out
          have := HGK.out
          rcases hy with h | h
          · exact ⟨by have := h.2; omega, .inl h⟩
          · exact ⟨by omega, .inr (by omega)⟩)
        have hn1 : s + 1 < n3 := by have := HN3.out; have := HSN.out; omega
        have hc3 : n3 ≤ c3 ∧ c3 ≤ 9223372036854775807 := by obtain ⟨L, P, K, h1, _⟩ := HKS.out; exact (row_cap h1).2
        obtain ⟨hc31, hc32⟩ := hc3
        have hz5 : (0 : Int) ≤ (s : Int) + 1 := by omega
        have hz0 : (0 : Int) ≤ (s : Int) := by omega
        have hz1 : (s : Int) ≤ (c3 : Int) := by omega
        have hz2 : (s : Int) + 1 < (n3 : Int) := by omega
        have hz3 : (s : Int) < (n3 : Int) := by omega
        have hz4 : (s : Int) ≤ 1000 := by omega
        have hwr : IntKind.i64.wrap (s : Int) = (s : Int) := by rw [IntKind.wrap_i64]; omega
        have hwr2 : IntKind.i64.wrap ((s : Int) + 1 - 1) = (s : Int) := by rw [IntKind.wrap_i64]; omega
        go_wp2_with (at_builtin; refine wpList_append_subs rfl _ _ rfl w6.heap.size _ (fun y => y < w6.heap.size ∧ ((S y ∧ y < w.heap.size) ∨ w.heap.size + 2 ≤ y)) (.slice (some ⟨w6.heap.size, 0, none⟩) 0 0) _ [] (kz.take (s)) rfl HS7.out rfl (HR7.out.take (by omega)) ?q0 ?q1 ?q2 ?_)
        case q0 => intro y hy e; have e' : w6.heap.size = y := (by simpa [Value.ownBlock] using e)
                   have := hy.1; omega
        case q1 => first | (rw [List.length_take]; simp; omega) | simp
        case q2 => first | omega | simp
        intro v8 w8 hO8 hg8 ha8
        obtain ⟨a8, n8, c8, e8, -⟩ := hO8.shape
        subst e8
        have hlo8 := hO8.lo
        have HI8 := hid (HI7.out.grow hg8 (fun x e => by have e' : w6.heap.size = x := (by simpa [Value.ownBlock] using e); have := HGZ.out; omega))
        have hon8 : Only (fun y => y = w6.heap.size) (w6.alloc (.cells #[] 98)) w8 := only_of_grown hg8 (fun x e => by have e' : w6.heap.size = x := (by simpa [Value.ownBlock] using e); omega)
        have HK8 := hid (HK7.out.to hon8 (fun y e h => by have e' : gk = y := (by simpa [Value.ownBlock] using e); have := HGZ.out; omega) (fun y hy _ h => by have := HGZ.out; rcases hy with h2 | h2 <;> omega))
        have HS8 : Hid (SO w8 w6.heap.size (fun y => y < w6.heap.size ∧ ((S y ∧ y < w.heap.size) ∨ w.heap.size + 2 ≤ y)) (.slice a8 n8 c8) (kz.take (s))) := by
          refine SO.mono (S := fun y => y < w6.heap.size ∧ ((S y ∧ y < w.heap.size) ∨ w.heap.size + 2 ≤ y)) ?_ (fun y hy _ => hy) (fun y hy e => by have := (hlo8 y e).1; have := hy.1; omega)
          have h9 := hO8.mono (R := fun y => y < w6.heap.size ∧ ((S y ∧ y < w.heap.size) ∨ w.heap.size + 2 ≤ y)) (fun y hy _ => by first | exact hy.1 | exact hy.1.resolve_left id) (fun y hy e => by have := (hlo8 y e).1; have := hy.1; omega)
          simpa using h9
        have HZ68 : Hid (w6.heap.size ≤ w8.heap.size) := by have := hon8.size; simp at this; show _ ≤ _; omega
        clear hO8 hg8 ha8 HI7 HK7 HS7 HR7 hlo8 hon8
        obtain ⟨_, eK, _, hatK⟩ := HK8.out.at (by rw [HLN.out]; omega)
        cases eK
        obtain ⟨la, apa, npa, cpa, aka, nka, cka, i0, i1, i2, hsa⟩ := hatK (s) (by rw [HLN.out]; have := HSN.out; omega)
        obtain ⟨lb, apb, npb, cpb, akb, nkb, ckb, j0, j1, j2, hsb⟩ := hatK (s + 1) (by rw [HLN.out]; exact HSN.out)
        try simp only [Nat.zero_mul, Nat.one_mul, Nat.zero_add] at i0 i1 i2 j0 j1 j2
        have HTG := hid (specTogether_any _ la lb apa aka apb akb npa cpa nka cka npb cpb nkb ckb _ _ w8.drew (hsa.kept (below_drew _)) (hsb.kept (below_drew _)) (ev_leaf (HSM.out (s) (by have := HSN.out; omega)).1 (HSM.out (s + 1) HSN.out).1) (by have h1 := (HSM.out (s) (by have := HSN.out; omega)).2.1; have h2 := (HSM.out (s + 1) HSN.out).2.1; omega) (by have h1 := (HSM.out (s) (by have := HSN.out; omega)).2.2; have h2 := (HSM.out (s + 1) HSN.out).2.2; omega))
        have HAP : Hid (∀ y, ((S y ∧ y < w.heap.size) ∨ (w3.heap.size ≤ y ∧ y < w4.heap.size)) ∨ w8.drew.heap.size ≤ y → (Value.slice a8 n8 c8).ownBlock ≠ some y) := by
          intro y hy e
          have h1 := HS8.out.lo y e
          have h2 := HGZ.out
          rcases hy with (h | h) | h
          · have := h.2; omega
          · omega
          · have h3 : w8.heap.size ≤ y := h
            omega
        have HTL2 : Hid ((kz.take (s)).length + (togS (tAt kz (s)) (tAt kz (s + 1))).length ≤ 1048576) := by have := HTL.out; rw [List.length_take]; show _ ≤ _; omega
        have HST : Hid (∀ (w9 : World), Below w8.drew.heap.size w8.drew w9 → SO w9 w6.heap.size (fun y => y < w6.heap.size ∧ ((S y ∧ y < w.heap.size) ∨ w.heap.size + 2 ≤ y)) (.slice a8 n8 c8) (kz.take (s)) ∧ w6.heap.size ≤ w9.heap.size) := by
          intro w9 hb
          refine ⟨HS8.out.kept (Below.then' (below_drew w8) hb (Nat.le_refl _)), ?_⟩
          have h5 : w8.heap.size ≤ w9.heap.size := hb.size
          have := HZ68.out; omega
        have HFIN : Hid (∀ (w9 wA : World) (aA : Option Addr) (nA cA : Nat) (R : Nat → Prop), Below w8.drew.heap.size w8.drew w9 → SO wA w6.heap.size R (.slice aA nA cA) (kz.take (s) ++ togS (tAt kz (s)) (tAt kz (s + 1))) → (∀ y, R y → ((S y ∧ y < w.heap.size) ∨ w.heap.size + 2 ≤ y)) → w9.grownBy wA (Value.slice a8 n8 c8).ownBlock →
            SO wA w6.heap.size (fun y => ((S y ∧ y < w.heap.size) ∨ (w.heap.size + 2 ≤ y ∧ (Value.slice aA nA cA).ownBlock ≠ some y))) (.slice aA nA cA) (kz.take (s) ++ togS (tAt kz (s)) (tAt kz (s + 1))) ∧ DrI w wA false (.slice ap np cp) (.slice ak nk ck) ∧ SO wA (w.heap.size + 2) (fun y => (S y ∧ y < w.heap.size) ∨ (w3.heap.size ≤ y ∧ y < w4.heap.size)) (.slice (some ⟨gk, 0, none⟩) n3 c3) kz) := by
          intro w9 wA aA nA cA R hb hO hR hg
          have hlo := hO.lo
          have hz := HGZ.out
          have hb2 := Below.then' (below_drew w8) hb (Nat.le_refl _)
          have hon : Only (fun y => w6.heap.size ≤ y) w9 wA := only_of_grown hg (fun x e => (HS8.out.lo x e).1)
          refine ⟨?_, (HI8.out.keep hb2).only hon (fun x h => by omega), (HK8.out.kept hb2).to hon (fun y e h => by have e' : gk = y := (by simpa [Value.ownBlock] using e); omega) (fun y hy _ h => by rcases hy with h2 | h2 <;> omega)⟩
          obtain ⟨L, P, K, h1, h2, h3⟩ := hO
          refine ⟨L, P, K, h1, fun i hi => (h2 i hi).mono (fun y hy hl => ?_), ?_⟩
          · rcases hR y hy with h | h
            · exact .inl h
            · exact .inr ⟨h, h3 y hy⟩
          · rintro y (h | h)
            · intro e; have := (hlo y e).1; have := h.2; omega
            · exact h.2
        have HRR2 : Hid (∀ y, ((y < w6.heap.size ∧ ((S y ∧ y < w.heap.size) ∨ w.heap.size + 2 ≤ y)) ∨ ((S y ∧ y < w.heap.size) ∨ (w3.heap.size ≤ y ∧ y < w4.heap.size)) ∨ w8.drew.heap.size ≤ y) ∧ True → ((S y ∧ y < w.heap.size) ∨ w.heap.size + 2 ≤ y)) := by
          have h1 := HGK.out
          have h2 := HGZ.out
          have h4 := HZ68.out
          rintro y ⟨h | (h | h) | h, -⟩
          · exact h.2
          · exact .inl h
          · right; omega
          · have h3 : w8.heap.size ≤ y := h
            right; omega
        clear hsa hsb hatK
        go_wp2_with fail
        go_cut [10] (fun x v2 => ∃ (aA : Option Addr) (nA cA : Nat), x = .slice aA nA cA ∧ Hid (SO v2 w6.heap.size (fun y => ((S y ∧ y < w.heap.size) ∨ (w.heap.size + 2 ≤ y ∧ (Value.slice aA nA cA).ownBlock ≠ some y))) (.slice aA nA cA) (kz.take (s) ++ togS (tAt kz (s)) (tAt kz (s + 1)))) ∧ Hid (DrI w v2 false (.slice ap np cp) (.slice ak nk ck)) ∧ Hid (SO v2 (w.heap.size + 2) (fun y => (S y ∧ y < w.heap.size) ∨ (w3.heap.size ≤ y ∧ y < w4.heap.size)) (.slice (some ⟨gk, 0, none⟩) n3 c3) kz))
        case first =>
          go_region_law (first
            | (go_simp; go_at_call 76; refine HTG.out.mono ?_; rintro e w9 ⟨v9, rfl, hR9, hb9⟩)
            | (refine step_append_subs rfl _ _ rfl w6.heap.size _ _ (.slice a8 n8 c8) _ (kz.take (s)) (togS (tAt kz (s)) (tAt kz (s + 1))) rfl (HST.out _ hb9).1 rfl hR9 HAP.out HTL2.out (HST.out _ hb9).2 ?_; intro vA wA hOA hgA haA; obtain ⟨aA, nA, cA, eA, -⟩ := hOA.shape; subst eA))
          all_goals (go_wp2_with fail; go_meet)
          all_goals exact ⟨aA, nA, cA, rfl, (HFIN.out _ _ _ _ _ _ hb9 hOA (fun y hy => HRR2.out y ⟨hy.1, trivial⟩) hgA).1, (HFIN.out _ _ _ _ _ _ hb9 hOA (fun y hy => HRR2.out y ⟨hy.1, trivial⟩) hgA).2.1, (HFIN.out _ _ _ _ _ _ hb9 hOA (fun y hy => HRR2.out y ⟨hy.1, trivial⟩) hgA).2.2⟩
        case rest =>
          obtain ⟨aA, nA, cA, rfl, HSA, HIA, HKA⟩ := hcut
          clear HFIN HST HAP HTG i0 i1 i2 j0 j1 j2 HS8 HI8 HK8 HTL2 HRR2
          have HZB : Hid (w6.heap.size ≤ wc.heap.size) := by
            obtain ⟨L, P, K, h1, _⟩ := HSA.out
            have hlen : 0 < (kz.take (s) ++ togS (tAt kz (s)) (tAt kz (s + 1))).length := by
              rw [List.length_append]
              have := HTP.out
              omega
            rcases h1.2 with ⟨_, h0⟩ | ⟨g, _, _, h0, h2, h3, _⟩
            · omega
            · have := (Array.getElem?_eq_some_iff.1 h3).1
              show _ ≤ _; omega
          have HRA : Hid (SubR wc (fun y => y < w6.heap.size ∧ ((S y ∧ y < w.heap.size) ∨ w.heap.size + 2 ≤ y)) (.slice (some ⟨gk, 0, none⟩) n3 c3) kz) := HKA.out.subR (fun y e h1 _ => by have e' : gk = y := (by simpa [Value.ownBlock] using e); have := HGZ.out; exact ⟨by omega, .inr h1⟩) (fun y hy _ => by
            have := HGZ.out
            have := HGK.out
            rcases hy with h | h
            · exact ⟨by have := h.2; omega, .inl h⟩
            · exact ⟨by omega, .inr (by omega)⟩)
          have HAQ : Hid (∀ y, y < w6.heap.size ∧ ((S y ∧ y < w.heap.size) ∨ w.heap.size + 2 ≤ y) → (Value.slice aA nA cA).ownBlock ≠ some y) := fun y hy e => by have := (HSA.out.lo y e).1; have := hy.1; omega
          have HDL : Hid ((kz.take (s) ++ togS (tAt kz (s)) (tAt kz (s + 1))).length + (kz.drop (s + 1 + 1)).length ≤ 1048576) := by
            have := HTL.out
            have := HLN.out
            rw [List.length_append, List.length_take, List.length_drop]; show _ ≤ _; omega
          have hzz1 : ((s : Int) + 1 + 1 : Int) ≤ (n3 : Int) := by omega
          have hzz2 : (0 : Int) ≤ ((s : Int) + 1 + 1 : Int) := by omega
          by_cases hcap : ¬ c3 = s + 1 + 1
          · have HDR := hid (HRA.out.drop (m := s + 1 + 1) (by omega))
            rw [Nat.zero_add] at HDR
            go_wp2_with (at_builtin; refine wpList_append_subs rfl _ _ rfl w6.heap.size _ (fun y => y < w6.heap.size ∧ ((S y ∧ y < w.heap.size) ∨ w.heap.size + 2 ≤ y)) (.slice aA nA cA) _ _ (kz.drop (s + 1 + 1)) rfl HSA.out rfl HDR.out HAQ.out HDL.out HZB.out ?_)
            intro v6 wD hO6 hg6 ha6
            obtain ⟨a6, n6, c6, e6, -⟩ := hO6.shape
            subst e6
            have hID := HIA.out.grow hg6 (fun x e => by have := (HSA.out.lo x e).1; have := HGZ.out; omega)
            have hSD : Sub wD (fun y => (S y ∧ y < w.heap.size) ∨ w.heap.size + 2 ≤ y) false (.slice none 0 0) (.slice a6 n6 c6) (.mk [] (kz.take s ++ (togS (tAt kz s) (tAt kz (s + 1)) ++ kz.drop (s + 1 + 1)))) := (hO6.subR (fun y _ h1 _ => .inr (by have := HGZ.out; omega)) (fun y hy _ => by
              rcases hy.1 with (h | h) | h
              · exact .inl h
              · exact .inr h.1
              · exact h.2)).sub HNE.out
            have HD2 := hid (hID.done (S := fun y => S y ∧ y < w.heap.size) hSD (fun y hy => hy.2))
            have r0 := hID.r.cell (j := 0) rfl
            have r1 := hID.r.cell (j := 1) rfl
            have r2 := hID.r.cell (j := 2) rfl
            have rf0 := hID.r.free 0
            have rf1 := hID.r.free 1
            have rf2 := hID.r.free 2
            have z0 := HD2.out.2.2.cell (j := 0) rfl
            have z1 := HD2.out.2.2.cell (j := 1) rfl
            have z2 := HD2.out.2.2.cell (j := 2) rfl
            clear hO6 hg6 ha6 hID hSD HDR
            go_wp2
            refine bodyPost_ret (v := .agg #[.bool false, .slice none 0 0, .slice a6 n6 c6]) ?_ rfl ?_
            · refine results_sub1 rfl _ _ _ rfl ?_ ?_ ?_
              · exact z0
              · exact z1
              · exact z2
            · refine ⟨_, _, _, _, _, _, _, rfl, ?_, HD2.out.2.1⟩
              rw [HF2.out]
              exact HD2.out.1.mono (fun y hy _ => hy.imp (fun h => h.1) id)
          · have hck : c3 = s + 1 + 1 := by omega
            have hnk1 : n3 = s + 1 + 1 := by omega
            have HDR : Hid (SubR wc (fun y => y < w6.heap.size ∧ ((S y ∧ y < w.heap.size) ∨ w.heap.size + 2 ≤ y)) (.slice (some ⟨gk, 0, none⟩) 0 0) (kz.drop (s + 1 + 1))) := by
              rw [List.drop_eq_nil_of_le (by rw [HLN.out]; have := HN3.out; omega)]
              exact ⟨fun _ => false, fun _ => .slice none 0 0, fun _ => .slice none 0 0, ⟨_, 0, rfl, Nat.le_refl _, by omega, fun _ => rfl, fun h => (by cases h), fun h => (by simp at h)⟩, fun i hi => (by simp at hi)⟩
            subst hck hnk1
            go_wp2_with (at_builtin; refine wpList_append_subs rfl _ _ rfl w6.heap.size _ (fun y => y < w6.heap.size ∧ ((S y ∧ y < w.heap.size) ∨ w.heap.size + 2 ≤ y)) (.slice aA nA cA) _ _ (kz.drop (s + 1 + 1)) rfl HSA.out rfl HDR.out HAQ.out HDL.out HZB.out ?_)
            intro v6 wD hO6 hg6 ha6
            obtain ⟨a6, n6, c6, e6, -⟩ := hO6.shape
            subst e6
            have hID := HIA.out.grow hg6 (fun x e => by have := (HSA.out.lo x e).1; have := HGZ.out; omega)
            have hSD : Sub wD (fun y => (S y ∧ y < w.heap.size) ∨ w.heap.size + 2 ≤ y) false (.slice none 0 0) (.slice a6 n6 c6) (.mk [] (kz.take s ++ (togS (tAt kz s) (tAt kz (s + 1)) ++ kz.drop (s + 1 + 1)))) := (hO6.subR (fun y _ h1 _ => .inr (by have := HGZ.out; omega)) (fun y hy _ => by
              rcases hy.1 with (h | h) | h
              · exact .inl h
              · exact .inr h.1
              · exact h.2)).sub HNE.out
            have HD2 := hid (hID.done (S := fun y => S y ∧ y < w.heap.size) hSD (fun y hy => hy.2))
            have r0 := hID.r.cell (j := 0) rfl
            have r1 := hID.r.cell (j := 1) rfl
            have r2 := hID.r.cell (j := 2) rfl
            have rf0 := hID.r.free 0
            have rf1 := hID.r.free 1
            have rf2 := hID.r.free 2
            have z0 := HD2.out.2.2.cell (j := 0) rfl
            have z1 := HD2.out.2.2.cell (j := 1) rfl
            have z2 := HD2.out.2.2.cell (j := 2) rfl
            clear hO6 hg6 ha6 hID hSD HDR
            go_wp2
            refine bodyPost_ret (v := .agg #[.bool false, .slice none 0 0, .slice a6 n6 c6]) ?_ rfl ?_
            · refine results_sub1 rfl _ _ _ rfl ?_ ?_ ?_
              · exact z0
              · exact z1
              · exact z2
            · refine ⟨_, _, _, _, _, _, _, rfl, ?_, HD2.out.2.1⟩
              rw [HF2.out]
              exact HD2.out.1.mono (fun y hy _ => hy.imp (fun h => h.1) id)
end Go.Proofs.YtcpdedpgjaimkaaDoor
/-
  spec.TreeDrop.
-/
namespace Go.Proofs.YtcpdedpgjaimkaaDoor
open Go.RowKit
theorem strip1_rootD (t : T) : strip1 t = rootD t := rfl
theorem dropV_small (ns : List NB) (k : ByteArray) : smallK ((dropV ns k).getD []) ∧ ((dropV ns k).getD []).length ≤ 100000 := by
  have h0 : smallK (([] : List NB)) ∧ ([] : List NB).length ≤ 100000 := ⟨fun i hi => by simp at hi, by simp⟩
  unfold dropV
  split
  · exact h0
  · rename_i t h
    split
    · exact layT_small (rootD_out (k := k) (okT_putIn h)).1 (by have := (dropV_size h k).2.1; omega)
    · exact h0
theorem rootD_ks1 {h : Nat} {t : T} {k : ByteArray} (g : PutIn h true t) : (rootD (dropF h t k)).ks.length ≠ 1 := by
  rcases (rootD_out (k := k) g).1 with h1 | h1
  · exact full_ks1 h1
  · rw [h1]; decide
set_option maxHeartbeats 2000000 in
set_option maxRecDepth 20000 in
theorem specTreeDrop_any (ns : List NB) (hlen : ns.length ≤ 1048576) (hsm : smallN ns) (S : Nat → Prop) (an : Option Addr) (nn cn : Nat) (k : ByteArray) (w : World) (hN : Nr w S (.slice an nn cn) ns) :
    Calls Tryd.prog 59 #[.agg #[.slice an nn cn], .string k] w fun e w' => STPost (dropV ns k) w e w' := by
  have h1 := hN.len.2.1
  have h2 := hN.len.2.2
  have HB0 : Hid (Below w.heap.size w ((w.alloc (.cells #[.slice an nn cn] 88)).alloc (.cells #[.slice none 0 0] 88))) := below_new (below_new (Below.refl _ _))
  have K0 : Hid (Bk ((w.alloc (.cells #[.slice an nn cn] 88)).alloc (.cells #[.slice none 0 0] 88)) (w.heap.size + 1) 88 [.slice none 0 0]) := by
    have := Bk.new (w.alloc (.cells #[.slice an nn cn] 88)) 88 [.slice none 0 0]
    show Bk _ _ _ _
    simpa using this
  have KA : Hid (Bk ((w.alloc (.cells #[.slice an nn cn] 88)).alloc (.cells #[.slice none 0 0] 88)) w.heap.size 88 [.slice an nn cn]) := (Bk.new w 88 [.slice an nn cn]).alloc _
  have a0 := KA.out.cell (j := 0) rfl
  have H0 := hid (hN.below HB0.out)
  have HLS := hid (And.intro hlen hsm)
  clear hN hlen hsm
  go_enter Tryd.func59, Tryd.ntmps59
  go_wp2_with fail
  refine (specTreeOk_any ns HLS.out.1 HLS.out.2 S an nn cn _ H0.out).mono ?_
  generalize (w.alloc (.cells #[.slice an nn cn] 88)).alloc (.cells #[.slice none 0 0] 88) = U at *
  rintro e w1 ⟨rfl, hb⟩
  have HB1 := hid (HB0.out.trans (hb.mono HB0.out.size))
  have K1 := hid (K0.out.below hb)
  have KA1 := hid (KA.out.below hb)
  have H1 := hid (H0.out.below hb)
  clear hb HB0 K0 H0 KA a0
  have HNO : Hid (∀ (X : World) (u : Value), Below w.heap.size w X → Below w.heap.size w (X.setCell ⟨w.heap.size + 1, 0, none⟩ u)) := fun X u hb => ⟨hb.os, hb.tape, hb.output, by simp [World.setCell]; exact hb.size, fun i hi => (Below.heap_setCell _ _ _ _ (show i ≠ w.heap.size + 1 by omega)).trans (hb.block i hi)⟩
  rw [spOk_eq]
  have c0 := K1.out.cell (j := 0) rfl
  have f0 := K1.out.free 0
  have d0 := (K1.out.set 0 (.slice none 0 0)).cell (j := 0) rfl
  cases hr : okT ns with
  | none =>
    have HR : Hid (dropV ns k = none) := by show _ = _; rw [dropV, hr]
    clear hr
    go_wp2
    refine bodyPost_ret (v := .tuple #[.agg #[.slice none 0 0], .bool false]) ?_ rfl ?_
    · refine results_tree2 rfl _ _ _ rfl rfl ?_
      exact d0
    · rw [HR.out]; exact ⟨_, _, _, rfl, NewK.nil _ _, HNO.out _ _ HB1.out⟩
  | some t =>
    have HR : Hid (dropV ns k = if kOk k = true then some (layT (rootD (dropF t.lv t k))) else none) := by show _ = _; rw [dropV, hr]
    cases hk : kOk k with
    | false =>
      have HR2 : Hid (dropV ns k = none) := by show _ = _; rw [HR.out, hk]; simp
      have HKO := hid (specKeyOk_is k false hk)
      clear hk HR hr
      go_wp2_with fail
      refine (HKO.out w1).mono ?_
      rintro e w2 ⟨rfl, rfl⟩
      go_wp2
      refine bodyPost_ret (v := .tuple #[.agg #[.slice none 0 0], .bool false]) ?_ rfl ?_
      · refine results_tree2 rfl _ _ _ rfl rfl ?_
        exact d0
      · rw [HR2.out]; exact ⟨_, _, _, rfl, NewK.nil _ _, HNO.out _ _ HB1.out⟩
    | true =>
      have HKO := hid (specKeyOk_is k true hk)
      have HR3 : Hid (dropV ns k = some (layT (rootD (dropF t.lv t k)))) := by show _ = _; rw [HR.out, hk]; simp
      have HOK := hid (okT_facts hr)
      have HG := hid (okT_putIn hr)
      have HRO := hid (rootD_out (k := k) (okT_putIn hr))
      have HSZ := hid (dropV_size hr k)
      have HDS : Hid (dropS t.lv t k = dropF t.lv t k) := dropS_eq t.lv true t k HG.out
      have HK1 := hid (rootD_ks1 (k := k) (okT_putIn hr))
      clear hk HR hr
      have g0 := KA1.out.cell (j := 0) rfl
      go_wp2_with fail
      refine (HKO.out w1).mono ?_
      rintro e w2 ⟨rfl, rfl⟩
      clear HKO c0 f0 d0
      go_wp2_with fail
      refine (specRoot_any ns HLS.out.1 HLS.out.2 S an nn cn w2 H1.out).mono ?_
      rintro e w3 ⟨hpost, hb⟩
      rw [HOK.out.root] at hpost
      obtain ⟨lf, ap, np, cp, ak, nk, ck, rfl, hs⟩ := hpost
      have HS3 := hid hs
      have HB3 := hid (Below.then' HB1.out hb (Nat.le_refl _))
      have K3 := hid (K1.out.below hb)
      clear hs hb K1 KA1 g0 HB1 H1
      have HB4 := hid (below_new (o := .cells #[.bool lf, .slice ap np cp, .slice ak nk ck] 98) (w := w3) (Below.refl _ _))
      have KS := hid (Bk.new w3 98 [.bool lf, .slice ap np cp, .slice ak nk ck])
      have k0 := KS.out.cell (j := 0) rfl
      have k1 := KS.out.cell (j := 1) rfl
      have k2 := KS.out.cell (j := 2) rfl
      go_wp2_with fail
      refine (specDrop_any t.lv true _ lf ap ak np cp nk ck t k _ (HS3.out.kept HB4.out) HG.out).mono ?_
      rintro e w5 ⟨l5, ap5, np5, cp5, ak5, nk5, ck5, rfl, hR5, hb5⟩
      rw [HDS.out] at hR5
      have HR5 := hid hR5
      have HB7 := hid (Below.then' (Below.then' HB3.out HB4.out (Nat.le_refl _)) hb5 (Nat.le_refl _))
      have K7 := hid ((K3.out.below HB4.out).below hb5)
      clear hR5 hb5 k0 k1 k2 KS HB4 HB3 K3 HS3
      have HT := hid (specTree_any _ l5 ap5 ak5 np5 cp5 nk5 ck5 (dropF t.lv t k) w5 HR5.out HK1.out HRO.out.1 (by have := HSZ.out.2.1; rw [strip1_rootD]; omega))
      go_wp2_with fail
      refine HT.out.mono ?_
      rintro e w8 ⟨a8, n8, c8, rfl, hN8, hb8⟩
      rw [strip1_rootD] at hN8
      have K8 := hid (K7.out.below hb8)
      have HB8 := hid (Below.then' HB7.out hb8 (Nat.le_refl _))
      have hwx : w.heap.size + 1 < w5.heap.size := K7.out.lt
      have HNN : Hid (NewK w (w8.setCell ⟨w.heap.size + 1, 0, none⟩ (.slice a8 n8 c8)) (.slice a8 n8 c8) (layT (rootD (dropF t.lv t k)))) := (NrK.to hN8 (only_set (R := fun y => y = w.heap.size + 1) rfl _) (fun y hy _ e => by have := hy.1; omega)).mono (fun y hy hl => ⟨by have := hy.1; omega, hl⟩)
      have e0 := K8.out.cell (j := 0) rfl
      have e1 := K8.out.free 0
      have d1 := (K8.out.set 0 (.slice a8 n8 c8)).cell (j := 0) rfl
      clear hN8 hb8 HT
      go_wp2
      refine bodyPost_ret (v := .tuple #[.agg #[.slice a8 n8 c8], .bool true]) ?_ rfl ?_
      · refine results_tree2 rfl _ _ _ rfl rfl ?_
        exact d1
      · rw [HR3.out]; exact ⟨_, _, _, rfl, HNN.out, HNO.out _ _ HB8.out⟩
end Go.Proofs.YtcpdedpgjaimkaaDoor
/-
  The trees that the laws draw: some trees that are not too large.
-/
namespace Go.Proofs.YtcpdedpgjaimkaaDoor
open Go.RowKit
set_option maxHeartbeats 4000000 in
theorem val_any (g : Nat) (w : World) (h : Cu w g) : Calls Tryd.prog 62 #[.pointer (some ⟨g, 0, none⟩)] w fun e w' => (∃ s : ByteArray, e = .returned (.string s)) ∧ w.grownBy w' (some g) ∧ Cu w' g := by
  have HC := hid h
  clear h
  go_enter Tryd.func62, Tryd.ntmps62
  go_wp2_with fail
  refine (below_any g 12 w HC.out (by omega) (by omega)).mono ?_
  rintro e w1 ⟨⟨x, rfl, hx0, hx1⟩, hg1, hc1⟩
  have HG1 := hid hg1
  have HC1 := hid hc1
  clear hg1 hc1 HC
  by_cases h0 : x = 0
  · subst h0
    clear hx0 hx1
    go_wp2
    go_ret
    exact ⟨⟨_, rfl⟩, HG1.out, HC1.out⟩
  · by_cases h1 : x = 1
    · subst h1
      clear hx0 hx1 h0
      have hmk := made_any 60 60 (by omega) (by omega)
      have hst := run_str (rd_made w1 60 (by omega))
      generalize strOf (List.replicate 60 0) = s6 at hst
      go_wp2
      go_ret
      exact ⟨⟨_, rfl⟩, grownBy_trans HG1.out (grownBy_alloc _ _ _), HC1.out.alloc _⟩
    · go_wp2_with fail
      refine (below_any g 50 w1 HC1.out (by omega) (by omega)).mono ?_
      rintro e w2 ⟨⟨y, rfl, hy0, hy1⟩, hg2, hc2⟩
      have HG2 := hid (grownBy_trans HG1.out hg2)
      have HC2 := hid hc2
      clear hg2 hc2 HG1 HC1
      go_wp2_with fail
      refine (numText_any y w2 hy0 (by omega)).mono ?_
      rintro e w3 ⟨⟨s, rfl, hs⟩, hb3⟩
      have HG3 := hid (grownBy_trans HG2.out (grown_of_below hb3 _))
      have HC3 := hid (HC2.out.below hb3)
      clear hb3 HG2 HC2
      go_wp2
      go_ret
      exact ⟨⟨_, rfl⟩, HG3.out, HC3.out⟩
/-- A drawn tree: some small list of nodes in blocks that are new and not the cursor's. -/
structure Tw (w v : World) (g tb S : Nat) (a : Option Addr) (n c : Nat) (ns : List NB) : Prop where
  gr : w.grownBy v (some g)
  cu : Cu v g
  bk : Bk v tb 88 [.slice a n c]
  nr : NrK v (fun y => tb < y ∧ y < S) (.slice a n c) ns
  sm : smallK ns ∧ ns.length ≤ 100000
  ng : g < w.heap.size
  nb : w.heap.size ≤ tb
  sz : S ≤ v.heap.size
theorem Tw.lt {w v : World} {g tb S : Nat} {a : Option Addr} {n c : Nat} {ns : List NB} (h : Tw w v g tb S a n c ns) : tb < v.heap.size := h.bk.lt
/-- What touches the cursor alone, or makes new blocks. -/
theorem Tw.step {w v v' : World} {g tb S : Nat} {a : Option Addr} {n c : Nat} {ns : List NB} (h : Tw w v g tb S a n c ns) (hg : v.grownBy v' (some g)) (hc : Cu v' g) : Tw w v' g tb S a n c ns := by
  have hon : Only (fun y => y = g) v v' := only_of_grown hg (fun k e => by cases e; rfl)
  exact ⟨grownBy_trans h.gr hg, hc, h.bk.to hon (by have := h.ng; have := h.nb; omega), h.nr.to hon (fun y hy _ e => by have := h.ng; have := h.nb; have := hy.1; omega), h.sm, h.ng, h.nb, Nat.le_trans h.sz hg.size⟩
theorem Tw.below {w v v' : World} {g tb S : Nat} {a : Option Addr} {n c : Nat} {ns : List NB} (h : Tw w v g tb S a n c ns) (hb : Below v.heap.size v v') : Tw w v' g tb S a n c ns := h.step (grown_of_below hb _) (h.cu.below hb)
theorem small_smallN {ns : List NB} (h : smallK ns ∧ ns.length ≤ 100000) : smallN ns ∧ ns.length ≤ 1048576 := ⟨fun i hi => by have := h.1 i hi; omega, by have := h.2; omega⟩
/-- Another tree is stored. -/
theorem Tw.put {w v v' : World} {g tb S : Nat} {a a' : Option Addr} {n c n' c' : Nat} {ns ns' : List NB} (h : Tw w v g tb S a n c ns) (hb : Below v.heap.size v v') (hN : NewK v v' (.slice a' n' c') ns') (hs : smallK ns' ∧ ns'.length ≤ 100000) : Tw w (v'.setCell ⟨tb, 0, none⟩ (.slice a' n' c')) g tb v'.heap.size a' n' c' ns' := by
  have h2 := h.below hb
  have hlt := h.lt
  have hsz := h.gr.size
  have hon : Only (fun y => y = tb) v' (v'.setCell ⟨tb, 0, none⟩ (.slice a' n' c')) := only_set (R := fun y => y = tb) rfl _
  refine ⟨⟨h2.gr.os, h2.gr.tape, h2.gr.output, by simp [World.setCell]; exact h2.gr.size, fun i hi hne => (Below.heap_setCell _ _ _ _ (show i ≠ tb by have := h.nb; omega)).trans (h2.gr.block i hi hne)⟩, ?_, h2.bk.set 0 _, ?_, hs, h.ng, h.nb, by simp [World.setCell]⟩
  · exact h2.cu.set _ _ _ (by have := h.ng; have := h.nb; omega)
  · exact (NrK.to hN hon (fun y hy _ e => by have := hy.1; omega)).mono (fun y hy hl => ⟨by have := hy.1; omega, by simpa [World.setCell] using hl⟩)
theorem Tw.put' {w v : World} {g tb S : Nat} {a a' : Option Addr} {n c n' c' : Nat} {ns ns' : List NB} (h : Tw w v g tb S a n c ns) (hN : NrK v (fun y => tb < y) (.slice a' n' c') ns') (hs : smallK ns' ∧ ns'.length ≤ 100000) : Tw w (v.setCell ⟨tb, 0, none⟩ (.slice a' n' c')) g tb v.heap.size a' n' c' ns' := by
  have hon : Only (fun y => y = tb) v (v.setCell ⟨tb, 0, none⟩ (.slice a' n' c')) := only_set (R := fun y => y = tb) rfl _
  refine ⟨⟨h.gr.os, h.gr.tape, h.gr.output, by simp [World.setCell]; exact h.gr.size, fun i hi hne => (Below.heap_setCell _ _ _ _ (show i ≠ tb by have := h.nb; omega)).trans (h.gr.block i hi hne)⟩, ?_, h.bk.set 0 _, ?_, hs, h.ng, h.nb, by simp [World.setCell]⟩
  · exact h.cu.set _ _ _ (by have := h.ng; have := h.nb; omega)
  · exact (hN.to hon (fun y hy _ e => by omega)).mono (fun y hy hl => ⟨hy, by simpa [World.setCell] using hl⟩)
theorem Tw.alloc {w v : World} {g tb S : Nat} {a : Option Addr} {n c : Nat} {ns : List NB} (h : Tw w v g tb S a n c ns) (o : Obj) : Tw w (v.alloc o) g tb S a n c ns := h.below (below_new (Below.refl _ _))
theorem Tw.drew {w v : World} {g tb S : Nat} {a : Option Addr} {n c : Nat} {ns : List NB} (h : Tw w v g tb S a n c ns) : Tw w v.drew g tb S a n c ns := h.below (below_drew _)
/-- A new box for a tree, behind the drawn one. -/
def NewB (tb S : Nat) (v : World) (x : Nat) : Prop := Bk v x 88 [.slice none 0 0] ∧ tb < x ∧ S ≤ x
theorem newB {w v : World} {g tb S : Nat} {a : Option Addr} {n c : Nat} {ns : List NB} (h : Tw w v g tb S a n c ns) : NewB tb S (v.alloc (.cells #[.slice none 0 0] 88)) v.heap.size := ⟨Bk.new v 88 [.slice none 0 0], h.lt, h.sz⟩
theorem NewB.below {tb S x : Nat} {v v' : World} (h : NewB tb S v x) (hb : Below v.heap.size v v') : NewB tb S v' x := ⟨h.1.below hb, h.2⟩
theorem tr_grown {v v' : World} {x g W : Nat} {T : TypeId} {vs : List Value} (h : Bk v x T vs) (hg : v.grownBy v' (some g)) (hn : g < W) (hx : W ≤ x := by omega) : Bk v' x T vs := h.to (only_of_grown hg (R := fun y => y = g) (fun k e => by cases e; rfl)) (by omega)
theorem NewB.grown {tb S x g : Nat} {w v v' u : World} {a : Option Addr} {n c : Nat} {ns : List NB} (h : NewB tb S v x) (hg : v.grownBy v' (some g)) (hD : Tw w u g tb S a n c ns) : NewB tb S v' x := ⟨tr_grown h.1 hg hD.ng (by have := hD.nb; have := h.2.1; omega), h.2⟩
/-- What stands behind 'next, ok := TreePut(..)'. -/
def PutR (w : World) (g S : Nat) (a : Option Addr) (n c : Nat) (ns : List NB) (x z : Value) (v : World) : Prop := ∃ (nb : Nat) (b : Bool) (a5 : Option Addr) (n5 c5 : Nat) (ns5 : List NB), x = .pointer (some ⟨nb, 0, none⟩) ∧ z = .bool b ∧ Hid (Tw w v g (w.heap.size + 1) S a n c ns) ∧ Hid (Bk v nb 88 [.slice a5 n5 c5] ∧ w.heap.size + 1 < nb) ∧ Hid (NrK v (fun y => w.heap.size + 1 < y) (.slice a5 n5 c5) ns5) ∧ Hid (smallK ns5 ∧ ns5.length ≤ 100000) ∧ Hid (Bk v w.heap.size 88 [.slice none 0 0])
theorem fin2 {w v v' : World} {g S : Nat} {a a5 : Option Addr} {n c n5 c5 : Nat} {ns ns5 : List NB} {ok : Bool} (D : Tw w v g (w.heap.size + 1) S a n c ns) (R : Bk v w.heap.size 88 [.slice none 0 0]) (hN : NewK v v' (.slice a5 n5 c5) ns5) (hb : Below v.heap.size v v') (hs : smallK ns5 ∧ ns5.length ≤ 100000) : PutR w g S a n c ns (.pointer (some ⟨v'.heap.size, 0, none⟩)) (.bool ok) (v'.alloc (.cells #[.slice a5 n5 c5] 88)) := by
  have h4 := D.lt
  exact ⟨_, _, _, _, _, _, rfl, rfl, (D.below hb).alloc _, ⟨Bk.new v' 88 [.slice a5 n5 c5], (D.below hb).lt⟩, (NrK.below hN (below_new (Below.refl _ _))).mono (fun y hy _ => by have := hy.1; omega), hs, (R.below hb).alloc _⟩
theorem fin1 {w v v' : World} {g x S : Nat} {a a5 : Option Addr} {n c n5 c5 : Nat} {ns ns5 : List NB} {ok : Bool} (D : Tw w v g (w.heap.size + 1) S a n c ns) (R : Bk v w.heap.size 88 [.slice none 0 0]) (N : NewB (w.heap.size + 1) S v x) (hN : NewK v v' (.slice a5 n5 c5) ns5) (hb : Below v.heap.size v v') (hs : smallK ns5 ∧ ns5.length ≤ 100000) : PutR w g S a n c ns (.pointer (some ⟨x, 0, none⟩)) (.bool ok) (v'.setCell ⟨x, 0, none⟩ (.slice a5 n5 c5)) := by
  have h4 := D.lt
  have hx := N.2.1
  have hxS := N.2.2
  have hxl := N.1.lt
  have hon : Only (fun y => y = x) v' (v'.setCell ⟨x, 0, none⟩ (.slice a5 n5 c5)) := only_set (R := fun y => y = x) rfl _
  have D' := D.below hb
  have hg : v'.grownBy (v'.setCell ⟨x, 0, none⟩ (.slice a5 n5 c5)) (some x) := ⟨rfl, rfl, rfl, by simp [World.setCell], fun i _ hne => Below.heap_setCell _ _ _ _ (by intro e; exact hne (by rw [e]))⟩
  have hnb := D.nb
  refine ⟨_, _, _, _, _, _, rfl, rfl, ?_, ⟨(N.1.below hb).set 0 _, hx⟩, ?_, hs, (R.below hb).setOther (by omega) _ _⟩
  · refine ⟨⟨D'.gr.os, D'.gr.tape, D'.gr.output, by simp [World.setCell]; exact D'.gr.size, fun i hi hne => (Below.heap_setCell _ _ _ _ (show i ≠ x by omega)).trans (D'.gr.block i hi hne)⟩, D'.cu.set _ _ _ (by have := D.ng; omega), D'.bk.setOther (by omega) _ _, ?_, D.sm, D.ng, D.nb, by simp [World.setCell]; exact D'.sz⟩
    exact D'.nr.to hon (fun y hy _ e => by have := hy.2; omega)
  · exact (NrK.to hN hon (fun y hy _ e => by have := hy.1; omega)).mono (fun y hy _ => by have := hy.1; omega)
/-- What a drawn tree is. -/
def TwPost (w : World) (g : Nat) (e : Ending) (w' : World) : Prop := ∃ a n c ns, e = .returned (.agg #[.slice a n c]) ∧ w.grownBy w' (some g) ∧ Cu w' g ∧ NrK w' (fun y => w.heap.size ≤ y ∧ y < w'.heap.size) (.slice a n c) ns ∧ smallK ns ∧ ns.length ≤ 100000
set_option maxHeartbeats 4000000 in
set_option maxRecDepth 20000 in
theorem drawT_any (g : Nat) (most : Nat) (w : World) (h : Cu w g) (hm : most ≤ 100) : Calls Tryd.prog 50 #[.pointer (some ⟨g, 0, none⟩), .int .i64 (most : Int)] w fun e w' => TwPost w g e w' := by
  have hng := h.lt
  have HR0 := hid (Bk.new w 88 [.slice none 0 0])
  have KT : Hid (Bk ((w.alloc (.cells #[.slice none 0 0] 88)).alloc (.cells #[.slice none 0 0] 88)) (w.heap.size + 1) 88 [.slice none 0 0]) := by
    have := Bk.new (w.alloc (.cells #[.slice none 0 0] 88)) 88 [.slice none 0 0]
    show Bk _ _ _ _
    simpa using this
  have D0 : Hid (Tw w ((w.alloc (.cells #[.slice none 0 0] 88)).alloc (.cells #[.slice none 0 0] 88)) g (w.heap.size + 1) (w.heap.size + 2) none 0 0 []) := ⟨grownBy_trans (grownBy_alloc _ _ _) (grownBy_alloc _ _ _), (h.alloc _).alloc _, KT.out, nrK_nil _ _, ⟨fun i hi => by simp at hi, by simp⟩, hng, by omega, by simp⟩
  have R0 : Hid (Bk ((w.alloc (.cells #[.slice none 0 0] 88)).alloc (.cells #[.slice none 0 0] 88)) w.heap.size 88 [.slice none 0 0]) := HR0.out.alloc _
  clear h HR0 KT
  go_enter Tryd.func50, Tryd.ntmps50
  go_wp2_with fail
  refine (below_any g ((most : Int) + 1) _ D0.out.cu (by omega) (by omega)).mono ?_
  generalize (w.alloc (.cells #[.slice none 0 0] 88)).alloc (.cells #[.slice none 0 0] 88) = U at *
  rintro e w1 ⟨⟨x, rfl, hx0, hx1⟩, hg1, hc1⟩
  have D1 := hid (D0.out.step hg1 hc1)
  have R1 : Hid (Bk w1 w.heap.size 88 [.slice none 0 0]) := R0.out.to (only_of_grown hg1 (R := fun y => y = g) (fun k e => by cases e; rfl)) (by omega)
  obtain ⟨x, rfl⟩ := Int.eq_ofNat_of_zero_le hx0
  have hxm : x ≤ 100 := by omega
  clear hg1 hc1 D0 R0 hx0 hx1
  go_wp2_with fail
  go_loopw [6] (fun z wr => ∃ (j S : Nat) (a : Option Addr) (n c : Nat) (ns : List NB), j ≤ 100 ∧ z = .int .i64 (j : Int) ∧ Hid (Tw w wr g (w.heap.size + 1) S a n c ns) ∧ Hid (Bk wr w.heap.size 88 [.slice none 0 0])) (fun z _ => (intOf z).toNat)
  case atStart => exact ⟨x, _, _, _, _, _, hxm, rfl, D1.out, R1.out⟩
  case round =>
    obtain ⟨j, S, a, n, c, ns, hj, rfl, HD, HR⟩ := hrel
    by_cases hlt : 0 < j
    · have hlt' : (0 : Int) < (j : Int) := by omega
      go_wp2_with fail
      refine (below_any g 5 _ HD.out.cu (by omega) (by omega)).mono ?_
      rintro e w2 ⟨⟨y, rfl, hy0, hy1⟩, hg1, hc1⟩
      have D2 := hid (HD.out.step hg1 hc1)
      have R2 : Hid (Bk w2 w.heap.size 88 [.slice none 0 0]) := HR.out.to (only_of_grown hg1 (R := fun y => y = g) (fun k e => by cases e; rfl)) (by omega)
      clear hg1 hc1 HD HR
      by_cases hy : y = 0
      · subst hy
        have t0 := D2.out.bk.cell (j := 0) rfl
        have HFIN : Hid (∀ (w3 w4 : World) (k : ByteArray) (a4 : Option Addr) (n4 c4 : Nat), w2.drew.grownBy w3 (some g) → Cu w3 g → NewK w3 w4 (.slice a4 n4 c4) ((dropV ns k).getD []) → Below w3.heap.size w3 w4 → Tw w (w4.setCell ⟨w.heap.size + 1, 0, none⟩ (.slice a4 n4 c4)) g (w.heap.size + 1) w4.heap.size a4 n4 c4 ((dropV ns k).getD []) ∧ Bk (w4.setCell ⟨w.heap.size + 1, 0, none⟩ (.slice a4 n4 c4)) w.heap.size 88 [.slice none 0 0]) := by
          intro w3 w4 k a4 n4 c4 hg hc hN hb
          refine ⟨(D2.out.drew.step hg hc).put hb hN (dropV_small ns k), ?_⟩
          have r3 : Bk w3 w.heap.size 88 [.slice none 0 0] := (R2.out.below (below_drew _)).to (only_of_grown hg (R := fun y => y = g) (fun k e => by cases e; rfl)) (by omega)
          exact (r3.below hb).setOther (by omega) _ _
        go_wp2_with fail
        go_region_with (first
          | (go_at_call 60; refine (key_any g _ D2.out.drew.cu).mono ?_; rintro e w3 ⟨⟨k, rfl, hk⟩, hg3, hc3⟩; have D3 := D2.out.drew.step hg3 hc3; have t3 := D3.bk.cell (j := 0) rfl)
          | (go_at_call 59; refine (specTreeDrop_any ns (small_smallN D3.sm).2 (small_smallN D3.sm).1 _ a n c k _ D3.nr.nr).mono ?_; rintro e w4 ⟨a4, n4, c4, rfl, hN4, hb4⟩; have t4 := (D3.below hb4).bk.cell (j := 0) rfl; have tf4 := (D3.below hb4).bk.free 0))
        all_goals
          have HF := hid (HFIN.out _ _ _ _ _ _ hg3 hc3 hN4 hb4)
          clear HFIN t0 D3 t3 hg3 hc3 hN4 hb4
          go_wp2
          go_roundw
          case rel => exact ⟨j - 1, _, _, _, _, _, by omega, by go_num, HF.out.1, HF.out.2⟩
          case measure => simp [intOf]; omega
      · have hy' : ¬ y = 0 := hy
        have t0 := D2.out.bk.cell (j := 0) rfl
        have t0a := (D2.out.alloc (.cells #[.slice none 0 0] 88)).bk.cell (j := 0) rfl
        go_wp2_with fail
        go_cut [7, 8] (fun x z v => PutR w g S a n c ns x z v)
        case first =>
          go_region_with (first
            | (go_at_call 60; refine (key_any g _ (by first | exact D2.out.drew.cu | exact (D2.out.drew.alloc _).cu)).mono ?_; rintro e w3 ⟨⟨k, rfl, hk⟩, hg3, hc3⟩; have D3 : Tw w w3 g (w.heap.size + 1) S a n c ns := (by first | exact D2.out.drew.step hg3 hc3 | exact (D2.out.drew.alloc _).step hg3 hc3); have t3 := D3.bk.cell (j := 0) rfl; have t3a := (D3.alloc (.cells #[.slice none 0 0] 88)).bk.cell (j := 0) rfl; have R3 : Bk w3 w.heap.size 88 [.slice none 0 0] := (by first | exact tr_grown (R2.out.below (below_drew _)) hg3 hng | exact tr_grown ((R2.out.below (below_drew _)).alloc _) hg3 hng); try (have n3 : NewB (w.heap.size + 1) S w3 w2.heap.size := (newB D2.out.drew).grown hg3 D2.out.drew))
            | (go_at_call 62; refine (val_any g _ (by first | exact D3.cu | exact (D3.alloc _).cu)).mono ?_; rintro e w4 ⟨⟨v, rfl⟩, hg4, hc4⟩; have D4 : Tw w w4 g (w.heap.size + 1) S a n c ns := (by first | exact D3.step hg4 hc4 | exact (D3.alloc _).step hg4 hc4); have t4 := D4.bk.cell (j := 0) rfl; have t4a := (D4.alloc (.cells #[.slice none 0 0] 88)).bk.cell (j := 0) rfl; have R4 : Bk w4 w.heap.size 88 [.slice none 0 0] := (by first | exact tr_grown R3 hg4 hng | exact tr_grown (R3.alloc _) hg4 hng); first | (have n4 := n3.grown hg4 D3) | (have n4 := (newB D3).grown hg4 D3) | skip)
            | (go_at_call 61; refine (specTreePut_any ns (small_smallN D4.sm).2 (small_smallN D4.sm).1 _ a n c k v _ (by first | exact D4.nr.nr | exact (D4.alloc _).nr.nr)).mono ?_; rintro e w5 ⟨a5, n5, c5, rfl, hN5, hb5⟩; first | (have m5 := n4.below hb5; have q5 := m5.1.cell (j := 0) rfl; have f5 := m5.1.free 0) | (have m5 := (newB D4).below hb5; have q5 := m5.1.cell (j := 0) rfl; have f5 := m5.1.free 0) | skip))
          all_goals (go_wp2_with fail; go_meet)
          all_goals first
            | exact fin2 D4 R4 hN5 hb5 (putV_small ns k v)
            | exact fin1 D4 R4 n4 hN5 hb5 (putV_small ns k v)
            | exact fin1 (D4.alloc _) (R4.alloc _) (newB D4) hN5 hb5 (putV_small ns k v)
        case rest =>
          obtain ⟨nb, b, a5, n5, c5, ns5, rfl, rfl, HD5, HB5, HN5, HS5, HR5⟩ := hcut
          clear t0 t0a
          cases b with
          | false =>
            go_wp2
            go_roundw
            case rel => exact ⟨j - 1, S, a, n, c, ns, by omega, by go_num, HD5.out, HR5.out⟩
            case measure => simp [intOf]; omega
          | true =>
            have q0 := HB5.out.1.cell (j := 0) rfl
            have q1 := HD5.out.bk.cell (j := 0) rfl
            have q2 := HD5.out.bk.free 0
            have HD6 := hid (HD5.out.put' HN5.out HS5.out)
            have HR6 : Hid (Bk _ w.heap.size 88 [.slice none 0 0]) := HR5.out.setOther (b := w.heap.size + 1) (by omega) 0 (.slice a5 n5 c5)
            go_wp2
            go_roundw
            case rel => exact ⟨j - 1, _, a5, n5, c5, ns5, by omega, by go_num, HD6.out, HR6.out⟩
            case measure => simp [intOf]; omega
    · obtain rfl : j = 0 := by omega
      have t0 := HD.out.bk.cell (j := 0) rfl
      have r0 := HR.out.cell (j := 0) rfl
      have rf := HR.out.free 0
      have d1 := (HR.out.set 0 (.slice a n c)).cell (j := 0) rfl
      have HFIN : Hid (TwPost w g (.returned (.agg #[.slice a n c])) (wr.setCell ⟨w.heap.size, 0, none⟩ (.slice a n c))) := by
        have hon : Only (fun y => y = w.heap.size) wr (wr.setCell ⟨w.heap.size, 0, none⟩ (.slice a n c)) := only_set (R := fun y => y = w.heap.size) rfl _
        refine ⟨a, n, c, ns, rfl, ⟨HD.out.gr.os, HD.out.gr.tape, HD.out.gr.output, by simp [World.setCell]; exact HD.out.gr.size, fun i hi hne => (Below.heap_setCell _ _ _ _ (show i ≠ w.heap.size by omega)).trans (HD.out.gr.block i hi hne)⟩, HD.out.cu.set _ _ _ (by omega), ?_, HD.out.sm⟩
        exact (HD.out.nr.to hon (fun y hy _ e => by have := hy.1; omega)).mono (fun y hy hl => ⟨by have := hy.1; omega, hl⟩)
      clear HD HR
      go_wp2
      refine bodyPost_ret (v := .agg #[.slice a n c]) ?_ rfl ?_
      · refine results_tree1 rfl _ _ _ rfl ?_
        exact d1
      · exact HFIN.out
end Go.Proofs.YtcpdedpgjaimkaaDoor
/-
  What the law's helpers do with pages: copied, sizes summed, held against each other.
-/
namespace Go.Proofs.YtcpdedpgjaimkaaDoor
open Go.RowKit
instance : DecidableEq PG := fun a b => decidable_of_iff (a.keys = b.keys ∧ a.vals = b.vals ∧ a.kids = b.kids) (by cases a; cases b; simp)
theorem load_pg {w : World} {g : Nat} {x y z : Value} (c0 : w.cell? ⟨g, 0, none⟩ = some x) (c1 : w.cell? ⟨g, 1, none⟩ = some y) (c2 : w.cell? ⟨g, 2, none⟩ = some z) :
    (loadVar 69 ⟨g, 0, none⟩).run Tryd.prog w = .ok (.agg #[x, y, z]) w := by go_simp
theorem results_pg {fn : Func} {p : Tmp} (h : fn.results = #[.cell p 69]) (tmps : Array Value) (w : World) (g : Nat) {x y z : Value} (hp : tmps.getD p undef = .pointer (some ⟨g, 0, none⟩))
    (c0 : w.cell? ⟨g, 0, none⟩ = some x) (c1 : w.cell? ⟨g, 1, none⟩ = some y) (c2 : w.cell? ⟨g, 2, none⟩ = some z) : (results fn tmps).run Tryd.prog w = .ok (.agg #[x, y, z]) w := by
  have hp' : tmps[p]?.getD undef = .pointer (some ⟨g, 0, none⟩) := by simpa using hp
  simp [results, h, hp', asAddr, load_pg c0 c1 c2]
end Go.Proofs.YtcpdedpgjaimkaaDoor
/-
  l04Page: the page that is drawn is right.
-/
namespace Go.Proofs.YtcpdedpgjaimkaaDoor
open Go.RowKit
theorem wrap_smallX {x : Int} (h0 : 0 ≤ x) (h1 : x ≤ 1000000) : IntKind.i64.wrap x = x := by
  simp [IntKind.wrap, IntKind.signed, IntKind.bits]
  omega
theorem fx_bk {v : World} {b n : Nat} {T : TypeId} {xs : List Value} {K : Nat → Value → Prop} (h : Bk v b T xs) (hn : xs.length = n) (hb : n ≤ 1048576) (hK : ∀ j u, xs[j]? = some u → K j u) : Fx v T K (.slice (some ⟨b, 0, none⟩) n n) n := by
  refine .inr ⟨b, 0, n, xs.toArray, rfl, h, Nat.le_refl _, by simp; omega, by omega, fun j hj => ?_⟩
  have hj' : j < xs.length := by omega
  exact ⟨xs[j], by simp [hj'], hK j _ (by simp [hj'])⟩
theorem pOkF_at (l : List PB) : ∀ f k, pOkF l f k = true → ∀ i, k ≤ i → i < k + f → kOk (pAtB l i).1 = true ∧ vOk (pAtB l i).2 = true ∧ (0 < i → Op.bytesLess (pAtB l (i - 1)).1.toList (pAtB l i).1.toList = true)
  | 0, _, _, i, h1, h2 => by omega
  | f + 1, k, h, i, h1, h2 => by
    simp only [pOkF, Bool.and_eq_true, Bool.or_eq_true, decide_eq_true_eq] at h
    by_cases e : i = k
    · subst e
      exact ⟨h.1.1.1, h.1.1.2, fun hp => by rcases h.1.2 with h0 | h0; exact absurd h0 (by omega); exact h0⟩
    · exact pOkF_at l f (k + 1) h.2 i (by omega) (by omega)
theorem sOkF_of (ss : List ByteArray) : ∀ f k, (∀ i, k ≤ i → i < k + f → kOk (ss[i]?.getD ⟨#[]⟩) = true ∧ (0 < i → Op.bytesLess (ss[i - 1]?.getD ⟨#[]⟩).toList (ss[i]?.getD ⟨#[]⟩).toList = true)) → sOkF ss f k = true
  | 0, _, _ => rfl
  | f + 1, k, h => by
    have h0 := h k (Nat.le_refl _) (by omega)
    have h1 := sOkF_of ss f (k + 1) (fun i hi hj => h i (by omega) (by omega))
    simp only [sOkF, h0.1, h1, Bool.and_true, Bool.true_and, Bool.or_eq_true, decide_eq_true_eq]
    by_cases e : k = 0
    · exact .inl e
    · exact .inr (h0.2 (by omega))
theorem rise_of (l : List PB) (hl : pOk l = true) (o n : Nat) (hn : o + n ≤ l.length) : sOkF ((List.range n).map (fun j => (pAtB l (j + o)).1)) n 0 = true := by
  have hp : pOkF l l.length 0 = true := by simp [pOk] at hl; exact hl.2
  refine sOkF_of _ n 0 (fun i _ hi => ?_)
  have e : ∀ j, j < n → ((List.range n).map (fun j => (pAtB l (j + o)).1))[j]?.getD ⟨#[]⟩ = (pAtB l (j + o)).1 := by
    intro j hj
    simp [hj]
  have f := pOkF_at l l.length 0 hp (i + o) (by omega) (by omega)
  refine ⟨by rw [e i (by omega)]; exact f.1, fun h0 => ?_⟩
  rw [e i (by omega), e (i - 1) (by omega), show i - 1 + o = i + o - 1 by omega]
  exact f.2.2 (by omega)
theorem kids_all {ks : List Int} (h : ∀ k ∈ ks, 2 ≤ k ∧ k < 400) : ks.all kidOk = true := by
  rw [List.all_eq_true]
  intro k hk
  have := h k hk
  simp [kidOk]
  omega
theorem pgx_branch {n : Nat} {kf : Nat → ByteArray} (vf : Nat → ByteArray) (hs : sOkF ((List.range n).map kf) n 0 = true) (h1 : 1 ≤ n) (h3 : n ≤ 3) (ks : List Int) (hl : ks.length = n + 1) (hk : ∀ k ∈ ks, 2 ≤ k ∧ k < 400) : pgOk ⟨(List.range n).map kf, (List.range 0).map vf, ks⟩ = true := by
  rw [pgOk_branch (by simpa using hs) (by simp only; omega)]
  have e1 : ((List.range n).map kf).length = n := by simp
  have e2 : ((List.range 0).map vf).length = 0 := by simp
  unfold pgBranch
  simp only [kids_all hk, e1, e2, hl]
  simp
  omega
theorem pgx_leaf (l : List PB) (hl : pOk l = true) (n : Nat) (h1 : 1 ≤ n) (h4 : n ≤ 4) (hn : n ≤ l.length) (ks : List Int) (h0 : ks.length = 0) : pgOk ⟨(List.range n).map (fun j => (pAtB l j).1), (List.range n).map (fun j => (pAtB l j).2), ks⟩ = true := by
  have hp : pOkF l l.length 0 = true := by simp [pOk] at hl; exact hl.2
  have hv : ((List.range n).map (fun j => (pAtB l j).2)).all vOk = true := by
    rw [List.all_eq_true]
    intro v hv
    obtain ⟨j, hj, rfl⟩ := List.mem_map.1 hv
    have := List.mem_range.1 hj
    exact (pOkF_at l l.length 0 hp j (by omega) (by omega)).2.1
  rw [pgOk_leaf (by simpa using rise_of l hl 0 n (by omega)) (by simpa using h0)]
  have e1 : ((List.range n).map (fun j => (pAtB l j).1)).length = n := by simp
  have e2 : ((List.range n).map (fun j => (pAtB l j).2)).length = n := by simp
  unfold pgLeaf
  simp only [hv, e1, e2]
  simp
  omega
theorem pgx_c (vf : Nat → ByteArray) (ks : List Int) (hl : ks.length = 1 + 1) (hk : ∀ k ∈ ks, 2 ≤ k ∧ k < 400) : pgOk ⟨(List.range 1).map (fun _ => ⟨#[99]⟩), (List.range 0).map vf, ks⟩ = true :=
  pgx_branch vf (by decide) (by omega) (by omega) ks hl hk
theorem alV_ok (ns : List NB) : pOk (alV ns) = true := by
  unfold alV
  cases h : okT ns with
  | none => decide
  | some t => exact (okT_facts h).ok
theorem DPx.start {w v : World} {g : Nat} (hc : Cu v g) (hg : w.grownBy v (some g)) (hr : Bk v w.heap.size 69 [.slice none 0 0, .slice none 0 0, .slice none 0 0]) (hb : Bk v (w.heap.size + 1) 69 [.slice none 0 0, .slice none 0 0, .slice none 0 0]) (hlt : g < w.heap.size) : ∀ K V, DPx w v g (.slice none 0 0) (.slice none 0 0) (.slice none 0 0) 0 0 0 K V := fun K V =>
  ⟨hg, hc, hr, hb, .inl ⟨rfl, rfl⟩, .inl ⟨rfl, rfl⟩, .inl ⟨rfl, rfl⟩, fun y hy => (by rcases hy with e | e | e <;> cases e), fun y => ⟨fun e => (by cases e), fun e => (by cases e)⟩, hlt⟩
set_option maxHeartbeats 8000000 in
set_option maxRecDepth 20000 in
theorem pageX_any (g : Nat) (w : World) (h : Cu w g) : Calls Tryd.prog 39 #[.pointer (some ⟨g, 0, none⟩)] w fun e w' => DpX w g e w' := by
  have hlt := h.lt
  have D0 : Hid (∀ l : List PB, DPx w ((w.alloc (.cells #[.slice none 0 0, .slice none 0 0, .slice none 0 0] 69)).alloc (.cells #[.slice none 0 0, .slice none 0 0, .slice none 0 0] 69)) g (.slice none 0 0) (.slice none 0 0) (.slice none 0 0) 0 0 0 (fun j u => u = .string (pAtB l j).1) (fun j u => u = .string (pAtB l j).2)) := by
    intro l
    have k1 := Bk.new (w.alloc (.cells #[.slice none 0 0, .slice none 0 0, .slice none 0 0] 69)) 69 [.slice none 0 0, .slice none 0 0, .slice none 0 0]
    have hb : Below w.heap.size w ((w.alloc (.cells #[.slice none 0 0, .slice none 0 0, .slice none 0 0] 69)).alloc (.cells #[.slice none 0 0, .slice none 0 0, .slice none 0 0] 69)) := below_new (below_new (Below.refl _ _))
    exact DPx.start (h.below hb) (grown_of_below hb _) ((Bk.new w 69 [.slice none 0 0, .slice none 0 0, .slice none 0 0]).alloc _) (by simpa using k1) hlt _ _
  have HLT := hid hlt
  clear h hlt
  go_enter Tryd.func39, Tryd.ntmps39
  go_wp2_with fail
  refine (drawT_any g 6 _ (D0.out []).cu (by omega)).mono ?_
  generalize (w.alloc (.cells #[.slice none 0 0, .slice none 0 0, .slice none 0 0] 69)).alloc (.cells #[.slice none 0 0, .slice none 0 0, .slice none 0 0] 69) = U at *
  rintro e w1 ⟨ta, tn, tc, ns, rfl, hg1, hc1, hN1, hsm, hnl⟩
  have D1 := hid ((D0.out (alV ns)).draw hg1 hc1)
  have HN := hid hN1
  have HSM := hid hsm
  have HNL := hid hnl
  clear hg1 hc1 hN1 hsm hnl D0
  go_wp2_with fail
  refine (specTreeAll_any ns (by have := HNL.out; omega) (small_smallN ⟨HSM.out, HNL.out⟩).1 _ ta tn tc _ HN.out.nr).mono ?_
  rintro e w2 ⟨lv, rfl, hO2, hb2⟩
  have D2 := hid (D1.out.below hb2)
  have HLL := hid (alV_len ns)
  have HOK := hid (alV_ok ns)
  have O2 := hid hO2
  have W1 : Hid (w.heap.size + 1 < w1.heap.size) := D1.out.ltk
  clear hb2 hO2 D1 HN HSM HNL
  generalize alV ns = l at *
  obtain ⟨la, lc, rfl⟩ := O2.out.shape
  generalize hL : l.length = L at *
  have HL := hid hL
  clear hL
  have hll := HLL.out
  have HB2 : Hid (w.heap.size + 1 < w2.heap.size) := D2.out.ltk
  have HPR : Hid (∀ v, Only (fun y => y = w.heap.size + 1) w2 v → Pr v (fun _ => True) (.slice la L lc) l) := by
    intro v ho
    have := (O2.out.to ho (fun k e hr => by have h2 := (World.ownsRow.lt O2.out k e).1; have h3 := W1.out; omega)).pr (S := fun _ => True) (fun _ _ _ _ => trivial)
    exact this
  have HLO2 : Hid (Only (fun y => y = w.heap.size + 1) w2 w2) := Only.refl _ _
  go_wp2_with fail
  go_loopw [12] (fun i wr => ∃ (j : Nat) (kv vv : Value) (nk : Nat), j ≤ L ∧ i = .int .i64 j ∧ nk ≤ 4 ∧ Hid ((nk = j ∧ j ≤ 4) ∨ (nk = 4 ∧ 4 ≤ j)) ∧ Hid (DPx w wr g kv vv (.slice none 0 0) nk nk 0 (fun j u => u = .string (pAtB l j).1) (fun j u => u = .string (pAtB l j).2)) ∧ Hid (Only (fun y => y = w.heap.size + 1) w2 wr) ∧ Hid (∀ y, (kv.ownBlock = some y ∨ vv.ownBlock = some y) → w2.heap.size ≤ y)) (fun i _ => L - (intOf i).toNat)
  case atStart => exact ⟨0, _, _, 0, Nat.zero_le _, rfl, Nat.zero_le _, .inl ⟨rfl, by omega⟩, D2.out, HLO2.out, fun y hy => (by rcases hy with e | e <;> cases e)⟩
  case round =>
    obtain ⟨j, kv, vv, nk, hj, rfl, hnk, HJ, D3, N3, Y3⟩ := hrel
    clear D2 HLO2
    by_cases hlt : j < L
    · have hlt' : (j : Int) < (L : Int) := by omega
      obtain ⟨b, off, ha, -, -, hcell⟩ := (HPR.out _ N3.out).at (by omega)
      subst ha
      obtain ⟨m0, m1⟩ := hcell j hlt
      clear hcell
      have HKS : Hid (∃ ks vs, (pAtB l j).1 = ks ∧ (pAtB l j).2 = vs) := ⟨_, _, rfl, rfl⟩
      obtain ⟨ks, vs, hks, hvs⟩ := HKS.out
      rw [hks] at m0
      rw [hvs] at m1
      have HKS := hid hks
      have HVS := hid hvs
      clear hks hvs
      obtain ⟨ka, kc, rfl, hk1, hk2⟩ := D3.out.hk.shape
      obtain ⟨va, vc, rfl, hv1, hv2⟩ := D3.out.hv.shape
      have D4 := hid (D3.out.below (below_new (o := .cells #[.string ks, .string vs] 91) (Below.refl _ _)))
      have N4 : Hid (Only (fun y => y = w.heap.size + 1) w2 (wr.alloc (.cells #[.string ks, .string vs] 91))) := N3.out.trans (only_of_below (below_new (Below.refl _ _)) _)
      have KB := hid (Bk.new wr 91 [.string ks, .string vs])
      have HBX : Hid (w2.heap.size ≤ wr.heap.size) := N3.out.size
      have HKL : Hid ((∀ y, (Value.slice ka nk kc).ownBlock = some y → y < wr.heap.size) ∧ (∀ y, (Value.slice va nk vc).ownBlock = some y → y < wr.heap.size)) := ⟨fun y e => D3.out.hk.lt e, fun y e => D3.out.hv.lt e⟩
      obtain ⟨⟨c0, c1, c2⟩, f0, f1, f2⟩ := D4.out.cells
      by_cases h4 : nk < 4
      · have h4' : (nk : Int) < 4 := by omega
        have HNJ : Hid (nk = j) := by rcases HJ.out with h | h; exact h.1; exact absurd h.1 (by omega)
        have HEK : Hid (Value.string ks = .string (pAtB l nk).1) := by show _ = _; rw [HNJ.out, HKS.out]
        have HEV : Hid (Value.string vs = .string (pAtB l nk).2) := by show _ = _; rw [HNJ.out, HVS.out]
        have b0 := KB.out.cell (j := 0) rfl
        have D5 := hid (D4.out.below (below_new (o := .cells #[.string ks] 9) (Below.refl _ _)))
        have N5 : Hid (Only (fun y => y = w.heap.size + 1) w2 ((wr.alloc (.cells #[.string ks, .string vs] 91)).alloc (.cells #[.string ks] 9))) := N4.out.trans (only_of_below (below_new (Below.refl _ _)) _)
        have e5 : ((wr.alloc (.cells #[.string ks, .string vs] 91)).alloc (.cells #[.string ks] 9)).cell? ⟨wr.heap.size + 1, 0, none⟩ = some (.string ks) := by
          have := (Bk.new (wr.alloc (.cells #[.string ks, .string vs] 91)) 9 [.string ks]).cell (j := 0) rfl
          simp at this ⊢
        have KB5 := hid (KB.out.alloc (.cells #[.string ks] 9))
        clear D3 N3 D4 N4 KB
        go_wp2_with (at_builtin; refine wpList_append_fx rfl _ _ 67 9 rfl _ 16 Tryd.underlying67 infoStr' rfl (by omega) (K := fun j u => u = .string (pAtB l j).1) _ nk rfl D5.out.hk (by omega) _ (.string ks) rfl HEK.out rfl e5 ?_)
        intro a6 n6 c6 w6 hg6
        have hgo : Only (fun y => (Value.slice ka nk kc).ownBlock = some y) _ w6 := only_of_grown hg6.2.1 (fun k e => e)
        have D6 := hid (D5.out.addK hg6)
        have N6 : Hid (Only (fun y => y = w.heap.size + 1) w2 (w6.setCell ⟨w.heap.size + 1, 0, none⟩ (.slice a6 n6 c6))) := (N5.out.then hgo (fun i hi e => by have := Y3.out i (.inl e); omega)).trans (only_set (R := fun y => y = w.heap.size + 1) rfl _)
        have Y6 : Hid (∀ y, ((Value.slice a6 n6 c6).ownBlock = some y ∨ (Value.slice va nk vc).ownBlock = some y) → w2.heap.size ≤ y) := by
          rintro y (e | e)
          · rcases hg6.2.2 with e2 | ⟨k, e2, hk⟩
            · exact Y3.out y (.inl (e2 ▸ e))
            · rw [e2] at e
              cases e
              have := N5.out.size
              omega
          · exact Y3.out y (.inr e)
        have HKX : Hid (∀ y, ((Value.slice ka nk kc).ownBlock = some y ∨ (Value.slice va nk vc).ownBlock = some y) → y < wr.heap.size) := by
          rintro y (e | e)
          · exact HKL.out.1 y e
          · exact HKL.out.2 y e
        have KB6 : Hid (Bk (w6.setCell ⟨w.heap.size + 1, 0, none⟩ (.slice a6 n6 c6)) wr.heap.size 91 [.string ks, .string vs]) := (KB5.out.to hgo (fun e => by have := HKX.out _ (.inl e); omega)).setOther (by have := HBX.out; have := HB2.out; omega) _ _
        have KP6 := hid (D5.out.bk.to hgo (fun e => D5.out.ne.1 e))
        have KB7 := hid (KB5.out.to hgo (fun e => by have := HKX.out _ (.inl e); omega))
        have hn1 : ¬ w.heap.size + 1 = wr.heap.size := by have := HBX.out; have := HB2.out; omega
        have hn2 : ¬ wr.heap.size = w.heap.size + 1 := fun e => hn1 e.symm
        have bp1 := KB7.out.cell (j := 1) rfl
        clear hg6 hgo D5 N5 KB5 e5 c0 c1 c2 f0 f1 f2 b0 HKX
        have p0 := KP6.out.cell (j := 0) rfl
        have pf0 := KP6.out.free 0
        have p1 := KP6.out.cell (j := 1) rfl
        have pf1 := KP6.out.free 1
        have D7 := hid (D6.out.below (below_new (o := .cells #[.string vs] 9) (Below.refl _ _)))
        have N7 : Hid (Only (fun y => y = w.heap.size + 1) w2 ((w6.setCell ⟨w.heap.size + 1, 0, none⟩ (.slice a6 n6 c6)).alloc (.cells #[.string vs] 9))) := N6.out.trans (only_of_below (below_new (Below.refl _ _)) _)
        have e7 := (Bk.new (w6.setCell ⟨w.heap.size + 1, 0, none⟩ (.slice a6 n6 c6)) 9 [.string vs]).cell (j := 0) rfl
        rw [show (w6.setCell ⟨w.heap.size + 1, 0, none⟩ (.slice a6 n6 c6)).heap.size = w6.heap.size by simp [World.setCell]] at e7
        go_wp2_with (at_builtin; refine wpList_append_fx rfl _ _ 67 9 rfl _ 16 Tryd.underlying67 infoStr' rfl (by omega) (K := fun j u => u = .string (pAtB l j).2) _ nk rfl D7.out.hv (by omega) _ (.string vs) rfl HEV.out rfl e7 ?_)
        intro a8 n8 c8 w8 hg8
        have hgo : Only (fun y => (Value.slice va nk vc).ownBlock = some y) _ w8 := only_of_grown hg8.2.1 (fun k e => e)
        have D8 := hid (D7.out.addV hg8)
        have N8 : Hid (Only (fun y => y = w.heap.size + 1) w2 (w8.setCell ⟨w.heap.size + 1, 1, none⟩ (.slice a8 n8 c8))) := (N7.out.then hgo (fun i hi e => by have := Y6.out i (.inr e); omega)).trans (only_set (R := fun y => y = w.heap.size + 1) rfl _)
        have Y8 : Hid (∀ y, ((Value.slice a6 n6 c6).ownBlock = some y ∨ (Value.slice a8 n8 c8).ownBlock = some y) → w2.heap.size ≤ y) := by
          rintro y (e | e)
          · exact Y6.out y (.inl e)
          · rcases hg8.2.2 with e2 | ⟨k, e2, hk⟩
            · exact Y6.out y (.inr (e2 ▸ e))
            · rw [e2] at e
              cases e
              have := N7.out.size
              omega
        have KP8 := hid (D7.out.bk.to hgo (fun e => D7.out.ne.2.1 e))
        clear hg8 hgo D7 N7 e7 p0 pf0 p1 pf1 bp1 KP6 KB6 KB7 D6 N6 Y6
        have p1 := KP8.out.cell (j := 1) rfl
        have pf1 := KP8.out.free 1
        go_wp2
        go_roundw
        case rel => exact ⟨j + 1, _, _, nk + 1, by omega, by go_num, by omega, .inl ⟨by rw [HNJ.out], by have := HNJ.out; omega⟩, D8.out, N8.out, Y8.out⟩
        case measure => simp [intOf]; omega
      · have h4' : ¬ (nk : Int) < 4 := by omega
        clear D3 N3
        go_wp2
        go_roundw
        case rel => exact ⟨j + 1, _, _, nk, by omega, by go_num, hnk, (by rcases HJ.out with h | h; exact .inr ⟨by omega, by omega⟩; exact .inr ⟨h.1, by omega⟩), D4.out, N4.out, Y3.out⟩
        case measure => simp [intOf]; omega
    · have D4 := hid D3.out
      have HNL : Hid (nk ≤ l.length) := by rw [HL.out]; show _ ≤ _; rcases HJ.out with h | h <;> omega
      clear N3 Y3 HPR O2 D3 HJ
      obtain ⟨ka, kc, rfl, hk1, hk2⟩ := D4.out.hk.shape
      obtain ⟨va, vc, rfl, hv1, hv2⟩ := D4.out.hv.shape
      go_wp2_with fail
      refine (below_any g 2 _ D4.out.cu (by omega) (by omega)).mono ?_
      rintro e w5 ⟨⟨x, rfl, hx0, hx1⟩, hg5, hc5⟩
      have D5 := hid (D4.out.draw hg5 hc5)
      clear hg5 hc5 D4
      obtain ⟨⟨c0, c1, c2⟩, f0, f1, f2⟩ := D5.out.cells
      by_cases h0 : nk = 0
      · subst h0
        by_cases hx : x = 0
        · subst hx
          have DA := hid (D5.out.below (below_new (o := .cells #[.string ⟨#[99]⟩] 9) (Below.refl _ _)))
          obtain ⟨⟨a0, a1, a2⟩, af0, af1, af2⟩ := DA.out.cells
          have hfb := fx_bk (K := fun _ u => u = .string ⟨#[99]⟩) (Bk.new w5 9 [.string ⟨#[99]⟩]) (n := 1) rfl (by omega) (fun j u hu => by cases j with | zero => (simp at hu; exact hu.symm) | succ j => simp at hu)
          have hs5 := D5.out.ltk
          have D8 := hid (DA.out.key (R := fun _ => False) (Only.refl _ _) (fun _ e => e.elim) DA.out.cu hfb (fun y e => by cases e; exact ⟨hs5, fun e2 => by have h9 : w5.heap.size < w5.heap.size := D5.out.hv.lt e2; exact absurd h9 (Nat.lt_irrefl _), fun e2 => by cases e2⟩))
          have D9 := hid (D8.out.val (nw := .slice none 0 0) (nv' := 0) (V' := fun j u => u = .string (pAtB l j).2) (R := fun _ => False) (Only.refl _ _) (fun _ e => e.elim) D8.out.cu (.inl ⟨rfl, rfl⟩) (fun y e => by cases e))
          clear hfb hs5 DA D8 D5
          go_wp2_with fail
          go_loopw [6] (fun i wr => ∃ (j : Nat) (ia : Option Addr) (ic : Nat), j ≤ 1 + 1 ∧ i = .int .i64 j ∧ Hid (DPx w wr g (.slice (some ⟨w5.heap.size, 0, none⟩) 1 1) (.slice none 0 0) (.slice ia j ic) 1 0 j (fun _ u => u = .string ⟨#[99]⟩) (fun j u => u = .string (pAtB l j).2))) (fun i _ => 1 + 1 - (intOf i).toNat)
          case atStart => exact ⟨0, none, 0, Nat.zero_le _, rfl, D9.out⟩
          case round =>
            obtain ⟨j, ia, ic, hj, rfl, E1⟩ := hrel
            obtain ⟨⟨c0, c1, c2⟩, f0, f1, f2⟩ := E1.out.cells
            by_cases hle : j ≤ 1
            · have hle' : (j : Int) ≤ ((1 : Nat) : Int) := by omega
              have LD := hid (E1.out.below (below_drew _))
              go_wp2_with fail
              go_region_law (first
                | (go_simp; go_at_call 23; refine (below_any g 398 _ LD.out.cu (by omega) (by omega)).mono ?_; rintro e w3 ⟨⟨x3, rfl, hx30, hx31⟩, hg3, hc3⟩; have D3 := LD.out.draw hg3 hc3; have t0 := D3.cells.1.2.2; have D4 := D3.below (below_new (o := .cells #[.int .i64 (2 + x3)] 3) (Below.refl _ _)); have t4 := D4.cells.1.2.2; have hwx : IntKind.i64.wrap (2 + x3) = 2 + x3 := wrap_smallX (by omega) (by omega))
                | (refine step_append_fx rfl _ _ 31 3 rfl _ 8 Tryd.underlying31 infoInt' rfl (by omega) (K := isKid) _ j rfl D4.hi (by omega) w3.heap.size (.int .i64 (2 + x3)) rfl ⟨_, rfl, by omega, by omega⟩ rfl ((Bk.new w3 3 [.int .i64 (2 + x3)]).cell (j := 0) rfl) (w.heap.size + 1) 2 (.slice ia j ic) D4.cells.1.2.2 D4.cells.2.2.2 D4.ne.2.2 ?_; intro a5 n5 c5 w5 hg5 hcc5 hff5))
              all_goals
                have hn5 : n5 = j + 1 := by obtain ⟨aa, cc, e, -⟩ := hg5.1.shape; cases e; rfl
                subst hn5
                have E2 := hid (D4.addI hg5)
                clear D3 D4 LD E1 t0 t4 hg5 hg3 hc3 c0 c1 c2 f0 f1 f2
                go_wp2
                go_roundw
                case rel => exact ⟨j + 1, a5, c5, by omega, by go_num, E2.out⟩
                case measure => simp [intOf]; omega
            · have hle' : ¬ (j : Int) ≤ ((1 : Nat) : Int) := by omega
              obtain ⟨⟨r0, r1, r2⟩, rf0, rf1, rf2⟩ := E1.out.rcells
              have HQ := hid (E1.out.done (kf := fun _ => ⟨#[99]⟩) (fun kl hl hk => pgx_c _ kl (by omega) hk) (.slice (some ⟨w5.heap.size, 0, none⟩) 1 1) (.slice none 0 0) (.slice ia j ic))
              clear E1
              go_wp2
              refine bodyPost_ret (results_pg (x := .slice (some ⟨w5.heap.size, 0, none⟩) 1 1) (y := .slice none 0 0) (z := .slice ia j ic) rfl _ _ _ rfl (by go_simp) (by go_simp) (by go_simp)) rfl ?_
              exact HQ.out
        · have hx' : (x == 0) = false := by simp [hx]
          have DA := hid (D5.out.below (below_new (o := .cells #[.string ⟨#[99]⟩] 9) (Below.refl _ _)))
          obtain ⟨⟨a0, a1, a2⟩, af0, af1, af2⟩ := DA.out.cells
          have hfb := fx_bk (K := fun _ u => u = .string ⟨#[99]⟩) (Bk.new w5 9 [.string ⟨#[99]⟩]) (n := 1) rfl (by omega) (fun j u hu => by cases j with | zero => (simp at hu; exact hu.symm) | succ j => simp at hu)
          have hs5 := D5.out.ltk
          have D8 := hid (DA.out.key (R := fun _ => False) (Only.refl _ _) (fun _ e => e.elim) DA.out.cu hfb (fun y e => by cases e; exact ⟨hs5, fun e2 => by have h9 : w5.heap.size < w5.heap.size := D5.out.hv.lt e2; exact absurd h9 (Nat.lt_irrefl _), fun e2 => by cases e2⟩))
          have D9 := hid (D8.out.val (nw := .slice none 0 0) (nv' := 0) (V' := fun j u => u = .string (pAtB l j).2) (R := fun _ => False) (Only.refl _ _) (fun _ e => e.elim) D8.out.cu (.inl ⟨rfl, rfl⟩) (fun y e => by cases e))
          clear hfb hs5 DA D8 D5
          go_wp2_with fail
          go_loopw [6] (fun i wr => ∃ (j : Nat) (ia : Option Addr) (ic : Nat), j ≤ 1 + 1 ∧ i = .int .i64 j ∧ Hid (DPx w wr g (.slice (some ⟨w5.heap.size, 0, none⟩) 1 1) (.slice none 0 0) (.slice ia j ic) 1 0 j (fun _ u => u = .string ⟨#[99]⟩) (fun j u => u = .string (pAtB l j).2))) (fun i _ => 1 + 1 - (intOf i).toNat)
          case atStart => exact ⟨0, none, 0, Nat.zero_le _, rfl, D9.out⟩
          case round =>
            obtain ⟨j, ia, ic, hj, rfl, E1⟩ := hrel
            obtain ⟨⟨c0, c1, c2⟩, f0, f1, f2⟩ := E1.out.cells
            by_cases hle : j ≤ 1
            · have hle' : (j : Int) ≤ ((1 : Nat) : Int) := by omega
              have LD := hid (E1.out.below (below_drew _))
              go_wp2_with fail
              go_region_law (first
                | (go_simp; go_at_call 23; refine (below_any g 398 _ LD.out.cu (by omega) (by omega)).mono ?_; rintro e w3 ⟨⟨x3, rfl, hx30, hx31⟩, hg3, hc3⟩; have D3 := LD.out.draw hg3 hc3; have t0 := D3.cells.1.2.2; have D4 := D3.below (below_new (o := .cells #[.int .i64 (2 + x3)] 3) (Below.refl _ _)); have t4 := D4.cells.1.2.2; have hwx : IntKind.i64.wrap (2 + x3) = 2 + x3 := wrap_smallX (by omega) (by omega))
                | (refine step_append_fx rfl _ _ 31 3 rfl _ 8 Tryd.underlying31 infoInt' rfl (by omega) (K := isKid) _ j rfl D4.hi (by omega) w3.heap.size (.int .i64 (2 + x3)) rfl ⟨_, rfl, by omega, by omega⟩ rfl ((Bk.new w3 3 [.int .i64 (2 + x3)]).cell (j := 0) rfl) (w.heap.size + 1) 2 (.slice ia j ic) D4.cells.1.2.2 D4.cells.2.2.2 D4.ne.2.2 ?_; intro a5 n5 c5 w5 hg5 hcc5 hff5))
              all_goals
                have hn5 : n5 = j + 1 := by obtain ⟨aa, cc, e, -⟩ := hg5.1.shape; cases e; rfl
                subst hn5
                have E2 := hid (D4.addI hg5)
                clear D3 D4 LD E1 t0 t4 hg5 hg3 hc3 c0 c1 c2 f0 f1 f2
                go_wp2
                go_roundw
                case rel => exact ⟨j + 1, a5, c5, by omega, by go_num, E2.out⟩
                case measure => simp [intOf]; omega
            · have hle' : ¬ (j : Int) ≤ ((1 : Nat) : Int) := by omega
              obtain ⟨⟨r0, r1, r2⟩, rf0, rf1, rf2⟩ := E1.out.rcells
              have HQ := hid (E1.out.done (kf := fun _ => ⟨#[99]⟩) (fun kl hl hk => pgx_c _ kl (by omega) hk) (.slice (some ⟨w5.heap.size, 0, none⟩) 1 1) (.slice none 0 0) (.slice ia j ic))
              clear E1
              go_wp2
              refine bodyPost_ret (results_pg (x := .slice (some ⟨w5.heap.size, 0, none⟩) 1 1) (y := .slice none 0 0) (z := .slice ia j ic) rfl _ _ _ rfl (by go_simp) (by go_simp) (by go_simp)) rfl ?_
              exact HQ.out
      · have h0' : ((nk : Int) == 0) = false := by simp; omega
        have h0'' : ¬ (nk : Int) = 0 := by omega
        by_cases hx : x = 0
        · subst hx
          by_cases h4 : nk = 4
          · subst h4
            have HFK := hid D5.out.hk
            obtain ⟨kb, ko, rfl⟩ : ∃ kb ko, ka = some ⟨kb, ko, none⟩ := by
              rcases HFK.out with ⟨e, _⟩ | ⟨kb, ko, c', cur, e, _⟩
              · cases e
              · cases e; exact ⟨kb, ko, rfl⟩
            have hkc : ¬ kc = 1 := by omega
            have hft := HFK.out.tail (n := 3)
            have D8 := hid (D5.out.key (nw := .slice (some ⟨kb, ko + 1, none⟩) 3 (kc - 1)) (R := fun _ => False) (Only.refl _ _) (fun _ e => e.elim) D5.out.cu hft (fun y e => ⟨D5.out.lo y (.inl e), (D5.out.ap y).1 e⟩))
            have D9 := hid (D8.out.val (nw := .slice none 0 0) (nv' := 0) (V' := fun j u => u = .string (pAtB l j).2) (R := fun _ => False) (Only.refl _ _) (fun _ e => e.elim) D8.out.cu (.inl ⟨rfl, rfl⟩) (fun y e => by cases e))
            clear hft D8 D5 HFK
            go_wp2_with fail
            go_loopw [6] (fun i wr => ∃ (j : Nat) (ia : Option Addr) (ic : Nat), j ≤ 3 + 1 ∧ i = .int .i64 j ∧ Hid (DPx w wr g (.slice (some ⟨kb, ko + 1, none⟩) 3 (kc - 1)) (.slice none 0 0) (.slice ia j ic) 3 0 j (fun j u => u = .string (pAtB l (j + 1)).1) (fun j u => u = .string (pAtB l j).2))) (fun i _ => 3 + 1 - (intOf i).toNat)
            case atStart => exact ⟨0, none, 0, Nat.zero_le _, rfl, D9.out⟩
            case round =>
              obtain ⟨j, ia, ic, hj, rfl, E1⟩ := hrel
              obtain ⟨⟨c0, c1, c2⟩, f0, f1, f2⟩ := E1.out.cells
              by_cases hle : j ≤ 3
              · have hle' : (j : Int) ≤ ((3 : Nat) : Int) := by omega
                have LD := hid (E1.out.below (below_drew _))
                go_wp2_with fail
                go_region_law (first
                  | (go_simp; go_at_call 23; refine (below_any g 398 _ LD.out.cu (by omega) (by omega)).mono ?_; rintro e w3 ⟨⟨x3, rfl, hx30, hx31⟩, hg3, hc3⟩; have D3 := LD.out.draw hg3 hc3; have t0 := D3.cells.1.2.2; have D4 := D3.below (below_new (o := .cells #[.int .i64 (2 + x3)] 3) (Below.refl _ _)); have t4 := D4.cells.1.2.2; have hwx : IntKind.i64.wrap (2 + x3) = 2 + x3 := wrap_smallX (by omega) (by omega))
                  | (refine step_append_fx rfl _ _ 31 3 rfl _ 8 Tryd.underlying31 infoInt' rfl (by omega) (K := isKid) _ j rfl D4.hi (by omega) w3.heap.size (.int .i64 (2 + x3)) rfl ⟨_, rfl, by omega, by omega⟩ rfl ((Bk.new w3 3 [.int .i64 (2 + x3)]).cell (j := 0) rfl) (w.heap.size + 1) 2 (.slice ia j ic) D4.cells.1.2.2 D4.cells.2.2.2 D4.ne.2.2 ?_; intro a5 n5 c5 w5 hg5 hcc5 hff5))
                all_goals
                  have hn5 : n5 = j + 1 := by obtain ⟨aa, cc, e, -⟩ := hg5.1.shape; cases e; rfl
                  subst hn5
                  have E2 := hid (D4.addI hg5)
                  clear D3 D4 LD E1 t0 t4 hg5 hg3 hc3 c0 c1 c2 f0 f1 f2
                  go_wp2
                  go_roundw
                  case rel => exact ⟨j + 1, a5, c5, by omega, by go_num, E2.out⟩
                  case measure => simp [intOf]; omega
              · have hle' : ¬ (j : Int) ≤ ((3 : Nat) : Int) := by omega
                obtain ⟨⟨r0, r1, r2⟩, rf0, rf1, rf2⟩ := E1.out.rcells
                have HQ := hid (E1.out.done (kf := fun j => (pAtB l (j + 1)).1) (fun kl hl hk => pgx_branch _ (rise_of l HOK.out 1 3 (by have := HNL.out; omega)) (by omega) (by omega) kl (by omega) hk) (.slice (some ⟨kb, ko + 1, none⟩) 3 (kc - 1)) (.slice none 0 0) (.slice ia j ic))
                clear E1
                go_wp2
                refine bodyPost_ret (results_pg (x := .slice (some ⟨kb, ko + 1, none⟩) 3 (kc - 1)) (y := .slice none 0 0) (z := .slice ia j ic) rfl _ _ _ rfl (by go_simp) (by go_simp) (by go_simp)) rfl ?_
                exact HQ.out
          · have h4' : ((nk : Int) == 4) = false := by simp; omega
            have h4'' : ¬ (nk : Int) = 4 := by omega
            have D9 := hid (D5.out.val (nw := .slice none 0 0) (nv' := 0) (V' := fun j u => u = .string (pAtB l j).2) (R := fun _ => False) (Only.refl _ _) (fun _ e => e.elim) D5.out.cu (.inl ⟨rfl, rfl⟩) (fun y e => by cases e))
            clear D5
            go_wp2_with fail
            go_loopw [6] (fun i wr => ∃ (j : Nat) (ia : Option Addr) (ic : Nat), j ≤ nk + 1 ∧ i = .int .i64 j ∧ Hid (DPx w wr g (.slice ka nk kc) (.slice none 0 0) (.slice ia j ic) nk 0 j (fun j u => u = .string (pAtB l j).1) (fun j u => u = .string (pAtB l j).2))) (fun i _ => nk + 1 - (intOf i).toNat)
            case atStart => exact ⟨0, none, 0, Nat.zero_le _, rfl, D9.out⟩
            case round =>
              obtain ⟨j, ia, ic, hj, rfl, E1⟩ := hrel
              obtain ⟨⟨c0, c1, c2⟩, f0, f1, f2⟩ := E1.out.cells
              by_cases hle : j ≤ nk
              · have hle' : (j : Int) ≤ ((nk : Nat) : Int) := by omega
                have LD := hid (E1.out.below (below_drew _))
                go_wp2_with fail
                go_region_law (first
                  | (go_simp; go_at_call 23; refine (below_any g 398 _ LD.out.cu (by omega) (by omega)).mono ?_; rintro e w3 ⟨⟨x3, rfl, hx30, hx31⟩, hg3, hc3⟩; have D3 := LD.out.draw hg3 hc3; have t0 := D3.cells.1.2.2; have D4 := D3.below (below_new (o := .cells #[.int .i64 (2 + x3)] 3) (Below.refl _ _)); have t4 := D4.cells.1.2.2; have hwx : IntKind.i64.wrap (2 + x3) = 2 + x3 := wrap_smallX (by omega) (by omega))
                  | (refine step_append_fx rfl _ _ 31 3 rfl _ 8 Tryd.underlying31 infoInt' rfl (by omega) (K := isKid) _ j rfl D4.hi (by omega) w3.heap.size (.int .i64 (2 + x3)) rfl ⟨_, rfl, by omega, by omega⟩ rfl ((Bk.new w3 3 [.int .i64 (2 + x3)]).cell (j := 0) rfl) (w.heap.size + 1) 2 (.slice ia j ic) D4.cells.1.2.2 D4.cells.2.2.2 D4.ne.2.2 ?_; intro a5 n5 c5 w5 hg5 hcc5 hff5))
                all_goals
                  have hn5 : n5 = j + 1 := by obtain ⟨aa, cc, e, -⟩ := hg5.1.shape; cases e; rfl
                  subst hn5
                  have E2 := hid (D4.addI hg5)
                  clear D3 D4 LD E1 t0 t4 hg5 hg3 hc3 c0 c1 c2 f0 f1 f2
                  go_wp2
                  go_roundw
                  case rel => exact ⟨j + 1, a5, c5, by omega, by go_num, E2.out⟩
                  case measure => simp [intOf]; omega
              · have hle' : ¬ (j : Int) ≤ ((nk : Nat) : Int) := by omega
                obtain ⟨⟨r0, r1, r2⟩, rf0, rf1, rf2⟩ := E1.out.rcells
                have HQ := hid (E1.out.done (kf := fun j => (pAtB l j).1) (fun kl hl hk => pgx_branch _ (rise_of l HOK.out 0 nk (by have := HNL.out; omega)) (by omega) (by omega) kl (by omega) hk) (.slice ka nk kc) (.slice none 0 0) (.slice ia j ic))
                clear E1
                go_wp2
                refine bodyPost_ret (results_pg (x := .slice ka nk kc) (y := .slice none 0 0) (z := .slice ia j ic) rfl _ _ _ rfl (by go_simp) (by go_simp) (by go_simp)) rfl ?_
                exact HQ.out
        · have hx' : (x == 0) = false := by simp [hx]
          obtain ⟨⟨r0, r1, r2⟩, rf0, rf1, rf2⟩ := D5.out.rcells
          have HQ := hid (D5.out.done (kf := fun j => (pAtB l j).1) (vf := fun j => (pAtB l j).2) (fun kl hl hk => pgx_leaf l HOK.out nk (by omega) (by omega) HNL.out kl hl) (.slice ka nk kc) (.slice va nk vc) (.slice none 0 0))
          clear D5
          go_wp2
          refine bodyPost_ret (results_pg (x := .slice ka nk kc) (y := .slice va nk vc) (z := .slice none 0 0) rfl _ _ _ rfl (by go_simp) (by go_simp) (by go_simp)) rfl ?_
          exact HQ.out
end Go.Proofs.YtcpdedpgjaimkaaDoor
/-
  Metas as plain data; MetaOk, l04Five and MetaBytes of the specification.
-/
namespace Go.Proofs.YtcpdedpgjaimkaaDoor
open Go.RowKit
def mtOk (g r : Int) : Bool := decide (1 ≤ g ∧ g ≤ 1099511627775) && (decide (r = 0) || decide (2 ≤ r ∧ r < 400))
def wts : List Int := [4294967296, 16777216, 65536, 256, 1]
def five (n : Int) : List Int := wts.map fun W => n / W % 256
def fiveT (n : Int) (j : Nat) : List Int := (wts.take j).map fun W => n / W % 256
def mtHead (g r : Int) : List Int := [77] ++ five g ++ [r / 256, r % 256]
def mtFull (g r : Int) : List Int := mtHead g r ++ List.replicate 499 0 ++ five g
def mtBytes (g r : Int) : Option (List Int) := if mtOk g r = true then some (mtFull g r) else none
theorem five_len (n : Int) : (five n).length = 5 := rfl
theorem mtFull_len (g r : Int) : (mtFull g r).length = 512 := by simp only [mtFull, mtHead, List.length_append, List.length_replicate, five_len, List.length_cons, List.length_nil]
theorem five_byte (n : Int) : ∀ z ∈ five n, 0 ≤ z ∧ z ≤ 255 := by
  intro z hz
  simp only [five, List.mem_map] at hz
  obtain ⟨W, _, rfl⟩ := hz
  omega
theorem fiveT_byte (n : Int) (j : Nat) : ∀ z ∈ fiveT n j, 0 ≤ z ∧ z ≤ 255 := by
  intro z hz
  simp only [fiveT, List.mem_map] at hz
  obtain ⟨W, _, rfl⟩ := hz
  omega
theorem mtHead_byte {g r : Int} (h0 : 0 ≤ r) (h1 : r < 400) : ∀ z ∈ mtHead g r, 0 ≤ z ∧ z ≤ 255 :=
  byte_append (byte_append (by intro z hz; simp at hz; omega) (five_byte g)) (by intro z hz; simp at hz; omega)
theorem mtFull_byte {g r : Int} (h0 : 0 ≤ r) (h1 : r < 400) : ∀ z ∈ mtFull g r, 0 ≤ z ∧ z ≤ 255 :=
  byte_append (byte_append (mtHead_byte h0 h1) (fun z hz => by have := List.eq_of_mem_replicate hz; omega)) (five_byte g)
def wAt (j : Nat) : Int := wts[j]?.getD 1
theorem wAt_rng {j : Nat} (h : j < 5) : 1 ≤ wAt j ∧ wAt j ≤ 4294967296 := by
  match j, h with
  | 0, _ => decide
  | 1, _ => decide
  | 2, _ => decide
  | 3, _ => decide
  | 4, _ => decide
theorem fiveT_succ (n : Int) {j : Nat} (h : j < 5) : fiveT n (j + 1) = fiveT n j ++ [n / wAt j % 256] := by
  match j, h with
  | 0, _ => rfl
  | 1, _ => rfl
  | 2, _ => rfl
  | 3, _ => rfl
  | 4, _ => rfl
theorem fiveT_five (n : Int) : fiveT n 5 = five n := rfl
theorem fiveT_len (n : Int) {j : Nat} (h : j ≤ 5) : (fiveT n j).length = j := by
  simp [fiveT, wts]; omega
theorem mtOk_facts {g r : Int} (h : mtOk g r = true) : 1 ≤ g ∧ g ≤ 1099511627775 ∧ 0 ≤ r ∧ r < 400 := by
  simp [mtOk] at h
  omega
set_option maxHeartbeats 4000000 in
theorem specMetaOk_any (g r : Int) (w : World) : Calls Tryd.prog 51 #[.agg #[.int .i64 g, .int .i64 r]] w fun e w' => e = .returned (.bool (mtOk g r)) ∧ Below w.heap.size w w' := by
  have HB := hid (below_new (o := .cells #[.int .i64 g, .int .i64 r] 73) (w := w) (Below.refl _ _))
  have HD : Hid (mtOk g r = (decide (1 ≤ g ∧ g ≤ 1099511627775) && (decide (r = 0) || decide (2 ≤ r ∧ r < 400)))) := rfl
  by_cases q1 : 1 ≤ g
  · by_cases q2 : g ≤ 1099511627775
    · have HN := hid (fun w => specNum_any g w true (by rw [decide_eq_true (by omega)]))
      rw [decide_eq_true (show 1 ≤ g ∧ g ≤ 1099511627775 from ⟨q1, q2⟩)] at HD
      by_cases q3 : r = 0
      · subst q3
        have HF : Hid (mtOk g 0 = true) := by show _ = true; rw [HD.out]; rfl
        go_enter Tryd.func51, Tryd.ntmps51
        go_wp2_with fail
        refine (HN.out _).mono ?_
        rintro e w1 ⟨rfl, rfl⟩
        go_wp2
        go_ret
        exact ⟨by rw [HF.out]; rfl, HB.out⟩
      · have q3' : (r == 0) = false := by simp [q3]
        by_cases q4 : 2 ≤ r
        · by_cases q5 : r < 400
          · have HF : Hid (mtOk g r = true) := by show _ = true; rw [HD.out, decide_eq_true (show 2 ≤ r ∧ r < 400 from ⟨q4, q5⟩)]; simp
            go_enter Tryd.func51, Tryd.ntmps51
            go_wp2_with fail
            refine (HN.out _).mono ?_
            rintro e w1 ⟨rfl, rfl⟩
            go_wp2
            go_ret
            exact ⟨by rw [HF.out]; rfl, HB.out⟩
          · have HF : Hid (mtOk g r = false) := by show _ = false; rw [HD.out, decide_eq_false q3, decide_eq_false (by omega)]; rfl
            have q5' : decide (r < 400) = false := decide_eq_false q5
            go_enter Tryd.func51, Tryd.ntmps51
            go_wp2_with fail
            refine (HN.out _).mono ?_
            rintro e w1 ⟨rfl, rfl⟩
            go_wp2
            go_ret
            exact ⟨by rw [HF.out]; rfl, HB.out⟩
        · have HF : Hid (mtOk g r = false) := by show _ = false; rw [HD.out, decide_eq_false q3, decide_eq_false (by omega)]; rfl
          go_enter Tryd.func51, Tryd.ntmps51
          go_wp2_with fail
          refine (HN.out _).mono ?_
          rintro e w1 ⟨rfl, rfl⟩
          go_wp2
          go_ret
          exact ⟨by rw [HF.out]; rfl, HB.out⟩
    · have HN := hid (fun w => specNum_any g w false (by rw [decide_eq_false (by omega)]))
      have HF : Hid (mtOk g r = false) := by show _ = false; rw [HD.out, decide_eq_false (by omega)]; rfl
      go_enter Tryd.func51, Tryd.ntmps51
      go_wp2_with fail
      refine (HN.out _).mono ?_
      rintro e w1 ⟨rfl, rfl⟩
      go_wp2
      go_ret
      exact ⟨by rw [HF.out]; rfl, HB.out⟩
  · have HF : Hid (mtOk g r = false) := by show _ = false; rw [HD.out, decide_eq_false (by omega)]; rfl
    go_enter Tryd.func51, Tryd.ntmps51
    go_wp2
    go_ret
    exact ⟨by rw [HF.out]; rfl, HB.out⟩
theorem infoU8' : (Tryd.prog.info? 5).map (fun i => (i.zero, i.size, i.bytes)) = some (some (.int .u8 0), 1, 1) := by kernel_rfl
theorem Ob.lower {w : World} {B B' : Nat} {v : Value} {zs : List Int} (h : Ob w B v zs) (hB : B' ≤ B) : Ob w B' v zs := by
  refine ⟨h.1, h.2.imp id ?_⟩
  rintro ⟨g, cap, cur, h1, h2, h3⟩
  exact ⟨g, cap, cur, h1, Nat.le_trans hB h2, h3⟩
theorem Ob.keep {w w' : World} {B : Nat} {v : Value} {zs : List Int} (h : Ob w B v zs) (hb : Below w.heap.size w w') : Ob w' B v zs := own_kept h (only_of_below hb (fun _ => False)) (fun _ _ h => h)
/-- append of bytes to a row of one's own, and where the new row lies. -/
theorem wpList_append_by {w : World} {ops : Array Oper} {rest : List Oper} {o : Oper} {a : Act} {Q : Exit → Act → World → Prop} (hgd : o.guard = none) (s x : Operand)
    (ho : o.op = .call { callee := .builtin .append, args := #[s, x], argTypes := #[22, 22] }) (B : Nat) (v : Value) (zs : List Int) (hs : a.eval s = v) (hown : Ob w B v zs)
    (ao : Option Addr) (m c : Nat) (ys : List Int) (hx : a.eval x = .slice ao m c) (hsrc : Rd w ao m c ys) (hb : zs.length ≤ 1048576) (hm : m ≤ 1048576) (hB : B ≤ w.heap.size) (hc : ao = none → c = 0)
    (h : ∀ a' n' c' w', Ob w' B (.slice a' n' c') (zs ++ ys) → w.grownBy w' v.ownBlock → ((Value.slice a' n' c').ownBlock = v.ownBlock ∨ (Value.slice a' n' c').ownBlock = some w.heap.size) → wpList Tryd.prog ops Q rest (a.put o.dst (.slice a' n' c')) w') : wpList Tryd.prog ops Q (o :: rest) a w := by
  obtain ⟨i, hi, hz, hsz, hby⟩ := info_of infoU8'
  obtain ⟨r1, r2, r3, r4, r5, r6⟩ := hsrc
  refine wpList_append_row_at hgd s x 22 ho B 5 i _ 1 1 Tryd.underlying22 hi hz hsz hby rfl (by decide) v zs.length (zs.map (Value.int .u8)) hs hown (fun _ => True) _ m (ys.map (Value.int .u8)) hx ?_ (by simp [r1]) (by intro u hu; simp at hu; obtain ⟨z, _, rfl⟩ := hu; rfl) (by unfold maxLen; omega) (by omega) hB ?_
  · refine ⟨ao, c, rfl, r2, r3, fun h0 => by rw [List.eq_nil_of_length_eq_zero (by omega : ys.length = 0)]; rfl, hc, fun hp => ?_⟩
    obtain ⟨b, off, e, hb, hcell⟩ := r6 hp
    refine ⟨b, off, e, hb, trivial, fun j u hu => ?_⟩
    rw [List.getElem?_map] at hu
    obtain ⟨z, hz, rfl⟩ := Option.map_eq_some_iff.1 hu
    have hj : j < ys.length := (List.getElem?_eq_some_iff.1 hz).1
    have := hcell j (by omega)
    rwa [hz] at this
  · intro v' w' k1 k2 k3
    obtain ⟨a', c', rfl⟩ := own_shape k1
    refine h a' _ c' w' ?_ k2 k3
    unfold Ob
    rw [List.length_append, List.map_append, ← r1]
    exact k1
def FvPost (n : Int) (w : World) (e : Ending) (w' : World) : Prop := ∃ a c, e = .returned (.slice (some a) 5 c) ∧ Rd w' (some a) 5 c (five n) ∧ w.heap.size ≤ a.block ∧ Below w.heap.size w w'
set_option maxHeartbeats 4000000 in
set_option maxRecDepth 20000 in
theorem five_any (n : Int) (w : World) (h0 : 0 ≤ n) (h1 : n ≤ 1099511627775) : Calls Tryd.prog 52 #[.int .i64 n] w fun e w' => FvPost n w e w' := by
  have HB : Hid (Below w.heap.size w ((w.alloc (.cells #[] 5)).alloc (.cells #[.int .i64 4294967296, .int .i64 16777216, .int .i64 65536, .int .i64 256, .int .i64 1] 3))) := below_new (below_new (Below.refl _ _))
  have HO : Hid (Ob ((w.alloc (.cells #[] 5)).alloc (.cells #[.int .i64 4294967296, .int .i64 16777216, .int .i64 65536, .int .i64 256, .int .i64 1] 3)) w.heap.size (.slice (some ⟨w.heap.size, 0, none⟩) 0 0) (fiveT n 0)) := (ob_new w w.heap.size (Nat.le_refl _)).alloc _
  have HK : Hid (Bk ((w.alloc (.cells #[] 5)).alloc (.cells #[.int .i64 4294967296, .int .i64 16777216, .int .i64 65536, .int .i64 256, .int .i64 1] 3)) (w.heap.size + 1) 3 (wts.map (Value.int .i64))) := by
    have := Bk.new (w.alloc (.cells #[] 5)) 3 (wts.map (Value.int .i64))
    show Bk _ _ _ _
    simpa [wts] using this
  go_enter Tryd.func52, Tryd.ntmps52
  go_wp2_with fail
  generalize (w.alloc (.cells #[] 5)).alloc (.cells #[.int .i64 4294967296, .int .i64 16777216, .int .i64 65536, .int .i64 256, .int .i64 1] 3) = U at *
  generalize hx : w.heap.size + 1 = x at *
  have HX : Hid (w.heap.size < x) := by show _ < _; omega
  clear hx
  go_loopw [3, 9] (fun xv i wr => ∃ (j : Nat) (av : Option Addr) (nv cv : Nat), j ≤ 5 ∧ i = .int .i64 j ∧ xv = .slice av nv cv ∧ Hid (Ob wr w.heap.size (.slice av nv cv) (fiveT n j)) ∧ Hid ((Value.slice av nv cv).ownBlock ≠ some x) ∧ Hid (Bk wr x 3 (wts.map (Value.int .i64))) ∧ Hid (Below w.heap.size w wr)) (fun _ i _ => 5 - (intOf i).toNat)
  case atStart => exact ⟨0, _, _, _, by omega, rfl, rfl, HO.out, fun e => by have h5 := HX.out; have h6 : w.heap.size = x := Option.some.inj e; omega, HK.out, HB.out⟩
  case round =>
    obtain ⟨j, av, nv, cv, hj, rfl, rfl, O1, N1, K1, B1⟩ := hrel
    clear HB HO HK
    by_cases hlt : j < 5
    · have hlt' : (j : Int) < 5 := by omega
      have m0 : wr.cell? ⟨x, j, none⟩ = some (.int .i64 (wAt j)) := K1.out.cell (by simp [wAt, wts]; match j, hlt with | 0, _ => rfl | 1, _ => rfl | 2, _ => rfl | 3, _ => rfl | 4, _ => rfl)
      obtain ⟨w1, w2⟩ := wAt_rng hlt
      have HST := hid (fiveT_succ n hlt)
      have HLN := hid (fiveT_len n (show j ≤ 5 by omega))
      generalize wAt j = W at *
      have hW : ¬ W = 0 := by omega
      have hq : n.tdiv W = n / W := Int.tdiv_eq_ediv_of_nonneg h0
      have hq0 : 0 ≤ n / W := Int.ediv_nonneg h0 (by omega)
      have hq1 : n / W ≤ n := Int.ediv_le_self _ h0
      generalize n / W = q at *
      have hr : q.tmod 256 = q % 256 := Int.tmod_eq_emod_of_nonneg hq0
      obtain ⟨z, hz, hz0, hz1⟩ : ∃ z, q % 256 = z ∧ 0 ≤ z ∧ z ≤ 255 := ⟨_, rfl, by omega, by omega⟩
      rw [hz] at hr HST
      have hwq : IntKind.i64.wrap q = q := by simp [IntKind.wrap, IntKind.signed, IntKind.bits]; omega
      have hwz : IntKind.i64.wrap z = z := by simp [IntKind.wrap, IntKind.signed, IntKind.bits]; omega
      have hw8 : IntKind.u8.wrap z = z := by simp [IntKind.wrap, IntKind.signed, IntKind.bits]; omega
      clear hz
      have ba := below_new (o := .cells #[.int .u8 z] 5) (w := wr) (Below.refl _ _)
      have O2 := hid (O1.out.keep ba)
      have K2 := hid (K1.out.below ba)
      have B2 : Hid (Below w.heap.size w (wr.alloc (.cells #[.int .u8 z] 5))) := B1.out.trans (ba.mono B1.out.size)
      have R2 := hid (rd_one wr z hz0 hz1)
      have hll : (fiveT n j).length ≤ 1048576 := by rw [HLN.out]; omega
      have HXL : Hid (x < wr.heap.size) := K1.out.lt
      clear O1 K1 B1 ba
      go_wp2_with (at_builtin; refine wpList_append_by rfl _ _ rfl w.heap.size _ (fiveT n j) rfl O2.out _ 1 1 [z] rfl R2.out hll (by omega) B2.out.size (fun e => by cases e) ?_)
      intro a3 n3 c3 w3 hO3 hg3 ha3
      have hon : Only (fun y => (Value.slice av nv cv).ownBlock = some y) _ w3 := only_of_grown hg3 (fun k e => e)
      have O3 : Hid (Ob w3 w.heap.size (.slice a3 n3 c3) (fiveT n (j + 1))) := by rw [HST.out]; exact hO3
      have K3 := hid (K2.out.to hon (fun e => N1.out e))
      have N3 : Hid ((Value.slice a3 n3 c3).ownBlock ≠ some x) := by
        intro e
        rcases ha3 with e2 | e2
        · exact N1.out (e2 ▸ e)
        · rw [e2] at e
          cases e
          have := HXL.out
          omega
      have B3 : Hid (Below w.heap.size w w3) := B2.out.trans (hon.below B2.out.size (fun b hb e => by
        have hk := World.ownsRow.lt O2.out b e
        omega))
      clear hO3 hg3 ha3 hon O2 K2 B2 R2 N1 HST
      go_wp2
      go_roundw
      case rel => exact ⟨j + 1, a3, n3, c3, by omega, by go_num, rfl, O3.out, N3.out, K3.out, B3.out⟩
      case measure => simp [intOf]; omega
    · obtain rfl : j = 5 := by omega
      have hO := O1.out
      rw [fiveT_five] at hO
      obtain ⟨a', c', e, hR, hlo⟩ := hO.rd (byte_at (five_byte n)) (by rw [five_len]; omega)
      cases e
      have hp : ∃ ad, av = some ad := by
        obtain ⟨b, off, e, _⟩ := hR.2.2.2.2.2 (by rw [five_len]; omega)
        exact ⟨_, e⟩
      obtain ⟨ad, rfl⟩ := hp
      have HR := hid hR
      have HLO := hid (hlo ad rfl)
      clear hO hR hlo O1 K1
      go_wp2
      go_ret
      exact ⟨ad, cv, rfl, HR.out, HLO.out, B1.out⟩
end Go.Proofs.YtcpdedpgjaimkaaDoor
/-
  l04Same: two slices of bytes hold the same.
-/
namespace Go.Proofs.YtcpdedpgjaimkaaDoor
open Go.RowKit
def zAt (zs : List Int) (i : Nat) : Int := zs[i]?.getD 0
theorem strOf_eq {xs ys : List Int} (hx : ∀ z ∈ xs, 0 ≤ z ∧ z ≤ 255) (hy : ∀ z ∈ ys, 0 ≤ z ∧ z ≤ 255) (h : strOf xs = strOf ys) : xs = ys := by
  have key : ∀ (o : List Int), (∀ z ∈ o, 0 ≤ z ∧ z ≤ 255) → bytesOf (strOf o) = o := by
    intro o ho
    simp only [bytesOf, strOf, List.map_map]
    conv => rhs; rw [← List.map_id o]
    refine List.map_congr_left fun z hz => ?_
    have := ho z hz
    simp
    omega
  rw [← key xs hx, ← key ys hy, h]
end Go.Proofs.YtcpdedpgjaimkaaDoor
/-
  MetaBytes and MetaRead of the specification; what is read out of a meta's bytes, as plain data.
-/
namespace Go.Proofs.YtcpdedpgjaimkaaDoor
open Go.RowKit
theorem ob_lit (w : World) (z : Int) : Ob (w.alloc (.cells #[.int .u8 z] 5)) w.heap.size (.slice (some ⟨w.heap.size, 0, none⟩) 1 1) [z] :=
  ⟨rfl, .inr ⟨w.heap.size, 1, #[.int .u8 z], rfl, Nat.le_refl _, heap_alloc_new w _, Nat.le_refl _, by decide, rfl, rfl⟩⟩
theorem rd_two (w : World) (y z : Int) (h0 : 0 ≤ y ∧ y ≤ 255) (h1 : 0 ≤ z ∧ z ≤ 255) : Rd (w.alloc (.cells #[.int .u8 y, .int .u8 z] 5)) (some ⟨w.heap.size, 0, none⟩) 2 2 [y, z] := by
  refine ⟨rfl, Nat.le_refl _, by omega, by omega, fun i => ?_, fun _ => ⟨w.heap.size, 0, rfl, by simp, fun i hi => ?_⟩⟩
  · match i with
    | 0 => exact h0
    | 1 => exact h1
    | n + 2 => simp
  · have k := Bk.new w 5 [.int .u8 y, .int .u8 z]
    match i, hi with
    | 0, _ => exact k.cell (j := 0) rfl
    | 1, _ => exact k.cell (j := 1) rfl
theorem PutM.got {w w' : World} {r : Option (List Int)} {e : Ending} {zs : List Int} (h : Put w r e w') (hr : r = some zs) : ∃ v, e = .returned (.tuple #[v, .bool true]) ∧ Ob w' w.heap.size v zs ∧ Below w.heap.size w w' := by
  obtain ⟨hb, ⟨h1, _⟩ | ⟨v, zs', h1, h2, h3⟩⟩ := h
  · rw [hr] at h1; cases h1
  · rw [hr] at h1; cases h1
    exact ⟨v, h2, h3, hb⟩
theorem btw {u v w : World} (h : Below u.heap.size u v) (k : Below v.heap.size v w) : Below u.heap.size u w := h.trans (k.mono h.size)
/-- What append leaves below, and what it keeps. -/
theorem Ob.grown {u w w' : World} {v : Value} {zs : List Int} (h : Ob w u.heap.size v zs) (hb : Below u.heap.size u w) (hg : w.grownBy w' v.ownBlock) : Below u.heap.size u w' := by
  have hon : Only (fun y => v.ownBlock = some y) w w' := only_of_grown hg (fun k e => e)
  exact hb.trans (hon.below hb.size (fun b hb' e => by have := (World.ownsRow.lt h b e).1; omega))
theorem Ob.bk {u : Nat} {w w' : World} {v : Value} {zs : List Int} {b : Nat} {T : TypeId} {xs : List Value} (h : Ob w u v zs) (hk : Bk w b T xs) (hg : w.grownBy w' v.ownBlock) (hb : b < u) : Bk w' b T xs :=
  hk.to (only_of_grown hg (R := fun y => v.ownBlock = some y) (fun k e => e)) (fun e => by have := (World.ownsRow.lt h b e).1; omega)
set_option maxHeartbeats 4000000 in
set_option maxRecDepth 20000 in
theorem specMetaBytes_any (g r : Int) (w : World) : Calls Tryd.prog 40 #[.agg #[.int .i64 g, .int .i64 r]] w fun e w' => Put w (mtBytes g r) e w' := by
  have B0 := hid (below_new (o := .cells #[.int .i64 g, .int .i64 r] 73) (w := w) (Below.refl _ _))
  have K0 := hid (Bk.new w 73 [.int .i64 g, .int .i64 r])
  have HZ0 : Hid (w.heap.size < (w.alloc (.cells #[.int .i64 g, .int .i64 r] 73)).heap.size) := by show _ < _; simp
  have HP : Hid (mtBytes g r = if mtOk g r = true then some (mtFull g r) else none) := rfl
  go_enter Tryd.func40, Tryd.ntmps40
  go_wp2_with fail
  refine (specMetaOk_any g r _).mono ?_
  generalize w.alloc (.cells #[.int .i64 g, .int .i64 r] 73) = U at *
  rintro e w1 ⟨rfl, hb1⟩
  have B1 := hid (btw B0.out hb1)
  have K1 := hid (K0.out.below hb1)
  clear hb1 B0 K0 HZ0
  cases hok : mtOk g r with
  | false =>
    have HN : Hid (mtBytes g r = none) := by show _ = _; rw [HP.out, hok]; rfl
    go_wp2
    go_ret2
    exact ⟨B1.out, .inl ⟨HN.out, rfl⟩⟩
  | true =>
    have HN : Hid (mtBytes g r = some (mtFull g r)) := by show _ = _; rw [HP.out, hok]; rfl
    obtain ⟨g0, g1, r0, r1⟩ := mtOk_facts hok
    clear hok HP
    have ba := below_new (o := .cells #[.int .u8 77] 5) (w := w1) (Below.refl _ _)
    have O2 := hid (ob_lit w1 77)
    have K2 := hid (K1.out.below ba)
    have B2 := hid (btw B1.out ba)
    have HZ : Hid (w.heap.size < w1.heap.size) := K1.out.lt
    have c0 := K2.out.cell (j := 0) rfl
    clear ba B1 K1
    go_wp2_with fail
    refine (five_any g _ (by omega) (by omega)).mono ?_
    generalize w1.alloc (.cells #[.int .u8 77] 5) = U1 at *
    generalize w1.heap.size = b1 at *
    rintro e w2 ⟨a2, c2, rfl, hR2, hlo2, hb2⟩
    have O3 := hid (O2.out.keep hb2)
    have K3 := hid (K2.out.below hb2)
    have B3 := hid (btw B2.out hb2)
    have R3 := hid hR2
    have HB1 : Hid (b1 ≤ w2.heap.size) := Nat.le_of_lt (World.ownsRow.lt O3.out b1 rfl).2
    clear hR2 hlo2 hb2 O2 K2 B2 c0
    go_wp2_with (at_builtin; refine wpList_append_by rfl _ _ rfl b1 _ [77] rfl O3.out (some a2) 5 c2 (five g) rfl R3.out (by decide) (by omega) HB1.out (fun e => by cases e) ?_)
    intro a4 n4 c4 w4 hO4 hg4 ha4
    have O4 := hid hO4
    have K4 := hid (O3.out.bk K3.out hg4 HZ.out)
    have B4 : Hid (Below w.heap.size w w4) := (O3.out.lower (Nat.le_of_lt HZ.out)).grown B3.out hg4
    clear hO4 hg4 ha4 O3 K3 B3 R3 HB1
    have hq : r.tdiv 256 = r / 256 := Int.tdiv_eq_ediv_of_nonneg r0
    have hm : r.tmod 256 = r % 256 := Int.tmod_eq_emod_of_nonneg r0
    obtain ⟨y, hy, hy0, hy1⟩ : ∃ y, r / 256 = y ∧ 0 ≤ y ∧ y ≤ 255 := ⟨_, rfl, by omega, by omega⟩
    obtain ⟨z, hz, hz0, hz1⟩ : ∃ z, r % 256 = z ∧ 0 ≤ z ∧ z ≤ 255 := ⟨_, rfl, by omega, by omega⟩
    have HYZ : Hid (mtHead g r = [77] ++ five g ++ [y, z]) := by show _ = _; rw [mtHead, hy, hz]
    rw [hy] at hq
    rw [hz] at hm
    have hw1 : IntKind.i64.wrap y = y := by simp [IntKind.wrap, IntKind.signed, IntKind.bits]; omega
    have hw2 : IntKind.i64.wrap z = z := by simp [IntKind.wrap, IntKind.signed, IntKind.bits]; omega
    have hw3 : IntKind.u8.wrap y = y := by simp [IntKind.wrap, IntKind.signed, IntKind.bits]; omega
    have hw4 : IntKind.u8.wrap z = z := by simp [IntKind.wrap, IntKind.signed, IntKind.bits]; omega
    have HHB := hid (mtHead_byte (g := g) r0 r1)
    clear hy hz
    have ba := below_new (o := .cells #[.int .u8 y, .int .u8 z] 5) (w := w4) (Below.refl _ _)
    have c1 := K4.out.cell (j := 1) rfl
    have O5 := hid (O4.out.keep ba)
    have K5 := hid (K4.out.below ba)
    have B5 := hid (btw B4.out ba)
    have R5 := hid (rd_two w4 y z ⟨hy0, hy1⟩ ⟨hz0, hz1⟩)
    have HB5 : Hid (b1 ≤ (w4.alloc (.cells #[.int .u8 y, .int .u8 z] 5)).heap.size) := by
      obtain ⟨a', c', e⟩ := O5.out.shape
      rcases O5.out.2 with ⟨e2, e3⟩ | ⟨g', cap, cur, e2, hb, hg, _⟩
      · simp [five_len] at e3
      · have := (World.ownsRow.lt O5.out g' (by rw [e2]; rfl)).2
        show _ ≤ _
        omega
    have hl6 : (77 :: five g).length ≤ 1048576 := by rw [List.length_cons, five_len]; decide
    clear ba O4 K4 B4
    go_wp2_with (at_builtin; refine wpList_append_by rfl _ _ rfl b1 _ (77 :: five g) rfl O5.out _ 2 2 [y, z] rfl R5.out hl6 (by omega) HB5.out (fun e => by cases e) ?_)
    generalize w4.alloc (.cells #[.int .u8 y, .int .u8 z] 5) = U4 at *
    intro a6 n6 c6 w6 hO6 hg6 ha6
    have hO6 : Ob w6 b1 (.slice a6 n6 c6) (mtHead g r) := by rw [HYZ.out]; simpa using hO6
    have K6 := hid (O5.out.bk K5.out hg6 HZ.out)
    have B6 : Hid (Below w.heap.size w w6) := (O5.out.lower (Nat.le_of_lt HZ.out)).grown B5.out hg6
    obtain ⟨a', c', e, hR6, _⟩ := hO6.rd (byte_at HHB.out) (by simp [mtHead, five_len])
    have hl8 : (mtHead g r).length = 8 := by simp [mtHead, five_len]
    rw [hl8] at e hR6
    cases e
    have R6 := hid hR6
    have HFL : Hid (fl (mtHead g r) 507 = some (mtHead g r ++ List.replicate 499 0)) := by
      show _ = _
      have := fl_ok (mtHead g r) 499 (by rw [hl8]; omega)
      rw [hl8] at this
      exact this
    have HB9 : Hid (∀ z ∈ mtHead g r ++ List.replicate 499 0, 0 ≤ z ∧ z ≤ 255) := byte_append HHB.out (fun z hz => by have := List.eq_of_mem_replicate hz; omega)
    have HL9 : Hid ((mtHead g r ++ List.replicate 499 0).length = 507) := by show _ = _; rw [List.length_append, hl8, List.length_replicate]
    have HEQ : Hid (mtFull g r = mtHead g r ++ List.replicate 499 0 ++ five g) := rfl
    clear hO6 hg6 ha6 hR6 hl8 O5 K5 B5 R5 HB5 HYZ HHB c1
    generalize mtHead g r ++ List.replicate 499 0 = hd at *
    go_wp2_with fail
    refine (specFill_any _ _ _ _ 507 _ R6.out (by omega)).mono ?_
    intro e w7 hput
    obtain ⟨v7, rfl, hO7, hb7⟩ := PutM.got hput HFL.out
    have K7 := hid (K6.out.below hb7)
    have B7 := hid (btw B6.out hb7)
    have HZ7 : Hid (w.heap.size < w6.heap.size) := K6.out.lt
    have O7 := hid (hO7.lower (Nat.le_of_lt HZ7.out))
    have OX := hid hO7
    have HW : Hid (w6.heap.size ≤ w7.heap.size) := hb7.size
    obtain ⟨a7, c7, e7⟩ := hO7.shape
    rw [HL9.out] at e7
    subst e7
    clear hput hO7 hb7 K6 B6 R6 HFL
    have c0 := K7.out.cell (j := 0) rfl
    go_wp2_with fail
    refine (five_any g _ (by omega) (by omega)).mono ?_
    rintro e w8 ⟨a8, c8, rfl, hR8, hlo8, hb8⟩
    have O8 := hid (OX.out.keep hb8)
    have B8 := hid (btw B7.out hb8)
    have R8 := hid hR8
    have HW8 : Hid (w6.heap.size ≤ w8.heap.size) := Nat.le_trans HW.out hb8.size
    clear hR8 hlo8 hb8 O7 OX K7 B7 c0 HW
    go_wp2_with (at_builtin; refine wpList_append_by rfl _ _ rfl w6.heap.size _ hd rfl O8.out (some a8) 5 c8 (five g) rfl R8.out (by rw [HL9.out]; omega) (by omega) HW8.out (fun e => by cases e) ?_)
    intro a9 n9 c9 w9 hO9 hg9 ha9
    have O9 : Hid (Ob w9 w.heap.size (.slice a9 n9 c9) (mtFull g r)) := by rw [HEQ.out]; exact hO9.lower (Nat.le_of_lt HZ7.out)
    have B9 : Hid (Below w.heap.size w w9) := (O8.out.lower (Nat.le_of_lt HZ7.out)).grown B8.out hg9
    clear hO9 hg9 ha9 O8 B8 R8
    go_wp2
    go_ret2
    exact ⟨B9.out, .inr ⟨_, _, HN.out, rfl, O9.out⟩⟩
end Go.Proofs.YtcpdedpgjaimkaaDoor
/-
  What both PutTexts answer, for every slice of bytes and every string that is not too long.
-/
namespace Go.Proofs.YtcpdedpgjaimkaaDoor
open Go.RowKit

theorem specPutVar_none (a : Option Addr) (n c : Nat) (zs : List Int) (m : Int) (w : World) (h : Rd w a n c zs) (hlen : n ≤ 1099511627776) (hr : pv zs m = none) :
    Calls Tryd.prog 46 #[.slice a n c, .int .i64 m] w fun e w' => e = .returned (.tuple #[.slice none 0 0, .bool false]) ∧ Below w.heap.size w w' := by
  refine (specPutVar_any a n c zs m w h hlen).mono ?_
  rintro e w' ⟨hb, ⟨_, he⟩ | ⟨v, zs', hr', _⟩⟩
  · exact ⟨he, hb⟩
  · rw [hr] at hr'; cases hr'
theorem specPutVar_some (a : Option Addr) (n c : Nat) (zs out : List Int) (m : Int) (w : World) (h : Rd w a n c zs) (hlen : n ≤ 1099511627776) (hr : pv zs m = some out) :
    Calls Tryd.prog 46 #[.slice a n c, .int .i64 m] w fun e w' => ∃ v, e = .returned (.tuple #[v, .bool true]) ∧ Ob w' w.heap.size v out ∧ Below w.heap.size w w' := by
  refine (specPutVar_any a n c zs m w h hlen).mono ?_
  rintro e w' ⟨hb, ⟨hr', _⟩ | ⟨v, zs', hr', he, ho⟩⟩
  · rw [hr] at hr'; cases hr'
  · rw [hr] at hr'; cases hr'
    exact ⟨v, he, ho, hb⟩
theorem Ob.drew {w : World} {B : Nat} {v : Value} {zs : List Int} (h : Ob w B v zs) : Ob w.drew B v zs := h
/-- What PutText answers. -/
def pt (zs : List Int) (s : ByteArray) : Option (List Int) := if (zs ++ enc s.size ++ bytesOf s).length ≤ 4096 then some (zs ++ enc s.size ++ bytesOf s) else none

set_option maxHeartbeats 800000 in
theorem specPutText_any (a : Option Addr) (n c : Nat) (zs : List Int) (s : ByteArray) (w : World) (h : Rd w a n c zs) (hlen : n ≤ 1099511627776) (hs : s.size ≤ 1048576) :
    Calls Tryd.prog 47 #[.slice a n c, .string s] w fun e w' => Put w (pt zs s) e w' := by
  have HR := hid h
  clear h
  by_cases h1 : (zs ++ enc s.size).length ≤ 4096
  · have HP := hid (pv_ok zs s.size (by omega) (by omega) h1)
    have hol : (zs ++ enc s.size).length ≤ 4096 := h1
    have HT : Hid (pt zs s = if (zs ++ enc s.size).length + s.size ≤ 4096 then some (zs ++ enc s.size ++ bytesOf s) else none) := by
      show pt zs s = _
      unfold pt
      rw [show (zs ++ enc s.size ++ bytesOf s).length = (zs ++ enc s.size).length + s.size from by rw [List.length_append, bytesOf_len]]
    clear h1
    generalize zs ++ enc s.size = out at HP hol HT
    generalize hL : out.length = L at HT hol
    have HL := hid hL
    clear hL
    have hcv := fun w => run_bytes_of_string (P := Tryd.prog) w 9 22 5 s Tryd.underlying9 Tryd.underlying22 Tryd.underlying5
    by_cases hbig : (4096 : Int) - (L : Int) < (s.size : Int)
    · have HN : Hid (pt zs s = none) := by show pt zs s = none; rw [HT.out]; exact if_neg (by omega)
      go_enter Tryd.func47, Tryd.ntmps47
      go_wp2_with fail
      refine (specPutVar_some a n c zs out _ w HR.out hlen HP.out).mono ?_
      rintro e w1 ⟨v, rfl, ho, hb1⟩
      obtain ⟨a1, c1, hv⟩ := ho.shape
      have HO := hid ho
      rw [HL.out] at hv
      clear ho
      rw [hv]
      go_wp2
      go_ret2
      exact ⟨hb1, .inl ⟨HN.out, rfl⟩⟩
    · have HN : Hid (pt zs s = some (out ++ bytesOf s)) := by show pt zs s = some (out ++ bytesOf s); rw [HT.out]; exact if_pos (by omega)
      go_enter Tryd.func47, Tryd.ntmps47
      go_wp2_with fail
      refine (specPutVar_some a n c zs out _ w HR.out hlen HP.out).mono ?_
      rintro e w1 ⟨v, rfl, ho, hb1⟩
      obtain ⟨a1, c1, hv⟩ := ho.shape
      rw [HL.out] at hv
      have HO : Hid (Ob w1 w.heap.size (.slice a1 L c1) out) := by show Ob w1 w.heap.size (.slice a1 L c1) out; rw [← hv]; exact ho
      clear ho
      rw [hv]
      clear hv
      go_wp2_with (at_builtin; refine wpList_append_rd rfl _ _ rfl w.heap.size _ out rfl ?own _ _ _ (bytesOf s) rfl ?src ?b ?base ?_)
      case own => exact HO.out.alloc _
      case src => exact rd_conv _ s _ _ (by omega) (grownCap_ge _ _ _ _) (by have := grownCap_le_maxLen w1 s.size 0 5 (by unfold maxLen; omega); unfold maxLen at this; omega)
      case b => rw [HL.out, bytesOf_len]; omega
      case base => have := hb1.size; simp; omega
      intro v2 w2 hown2 hg2
      have hb2 : Below w.heap.size w w2 := Ob.below (HO.out.alloc _).drew ((hb1.alloc hb1.size _).drew) (by have := hb1.size; simp; omega) hg2
      have HO2 := hid hown2
      obtain ⟨a2, c2, hv2⟩ := hown2.shape
      clear hown2 hg2
      go_wp2
      go_ret2
      exact ⟨hb2, .inr ⟨v2, out ++ bytesOf s, HN.out, rfl, HO2.out⟩⟩
  · have HP := hid (pv_long zs s.size (by omega))
    have HN : Hid (pt zs s = none) := by
      show pt zs s = none
      unfold pt
      rw [show (zs ++ enc s.size ++ bytesOf s).length = (zs ++ enc s.size).length + s.size from by rw [List.length_append, bytesOf_len]]
      exact if_neg (by omega)
    go_enter Tryd.func47, Tryd.ntmps47
    go_wp2_with (go_at_call 46; refine (specPutVar_none a n c zs _ w HR.out hlen HP.out).mono ?_; rintro e w1 ⟨rfl, hb1⟩)
    go_ret2
    exact ⟨hb1, .inl ⟨HN.out, rfl⟩⟩

theorem addSt_pt (zs : List Int) (s : ByteArray) (hs : s.size ≤ 1048576) : addSt 4096 (numSt 4096 (addSt 4096 (some []) zs) s.size) (bytesOf s) = pt zs s := by
  unfold numSt
  rw [if_pos ⟨by omega, by omega⟩, addSt_addSt, addSt_addSt, addSt_start]
  unfold pt
  rw [List.append_assoc]

end Go.Proofs.YtcpdedpgjaimkaaDoor
/-
  A page's bytes as plain data; PageBytes of the specification.
-/
namespace Go.Proofs.YtcpdedpgjaimkaaDoor
open Go.RowKit
def pgHead (p : PG) : List Int := (if p.kids.length = 0 then [76] else [66]) ++ enc p.keys.length ++ (if p.kids.length = 0 then [] else enc (iAt p.kids 0))
def pgPart (p : PG) (i : Nat) : List Int := enc (sAt p.keys i).size ++ bytesOf (sAt p.keys i) ++ (if p.kids.length = 0 then enc (sAt p.vals i).size ++ bytesOf (sAt p.vals i) else enc (iAt p.kids (i + 1)))
def pgBody (p : PG) : Nat → List Int
  | 0 => pgHead p
  | j + 1 => pgBody p j ++ pgPart p j
def pgRaw (p : PG) : List Int := pgBody p p.keys.length
def pgFull (p : PG) : List Int := pgRaw p ++ List.replicate (512 - (pgRaw p).length) 0
def pgBytes (p : PG) : Option (List Int) := if pgOk p = true then some (pgFull p) else none
theorem sOkF_all (ss : List ByteArray) : ∀ f k, sOkF ss f k = true → ∀ i, k ≤ i → i < k + f → kOk (ss[i]?.getD ⟨#[]⟩) = true
  | 0, k, _, i, h1, h2 => by omega
  | f + 1, k, h, i, h1, h2 => by
    simp only [sOkF, Bool.and_eq_true] at h
    by_cases e : i = k
    · rw [e]; exact h.1.1
    · exact sOkF_all ss f (k + 1) h.2 i (by omega) (by omega)
theorem all_at {α : Type} {l : List α} {f : α → Bool} (h : l.all f = true) (d : α) {i : Nat} (hi : i < l.length) : f (l[i]?.getD d) = true := by
  have := (List.all_eq_true.1 h) l[i] (List.getElem_mem hi)
  simpa [hi] using this
/-- What a right page is, in numbers. -/
structure PgF (p : PG) : Prop where
  nk : p.keys.length ≤ 4
  ks : ∀ i, i < p.keys.length → (sAt p.keys i).size ≤ 16
  lf : p.kids.length = 0 → p.vals.length = p.keys.length ∧ ∀ i, i < p.vals.length → (sAt p.vals i).size ≤ 60
  br : ¬ p.kids.length = 0 → p.kids.length = p.keys.length + 1 ∧ ∀ i, i < p.kids.length → 2 ≤ iAt p.kids i ∧ iAt p.kids i < 400
theorem pgOk_facts {p : PG} (h : pgOk p = true) : PgF p := by
  simp only [pgOk, Bool.and_eq_true] at h
  obtain ⟨h1, h2⟩ := h
  have hks : ∀ i, i < p.keys.length → (sAt p.keys i).size ≤ 16 := by
    intro i hi
    have := sOkF_all _ _ _ h1 i (Nat.zero_le _) (by omega)
    simp [kOk] at this
    exact this.2
  by_cases h0 : p.kids.length = 0
  · rw [if_pos h0] at h2
    simp only [pgLeaf, Bool.and_eq_true, decide_eq_true_eq] at h2
    obtain ⟨h3, ⟨_, h4⟩, h5⟩ := h2
    refine ⟨h4, hks, fun _ => ⟨h5, fun i hi => ?_⟩, fun h => absurd h0 h⟩
    have := all_at h3 ⟨#[]⟩ hi
    simpa [vOk, sAt] using this
  · rw [if_neg h0] at h2
    simp only [pgBranch, Bool.and_eq_true, decide_eq_true_eq] at h2
    obtain ⟨h3, ⟨⟨_, h4⟩, h5⟩, h6⟩ := h2
    refine ⟨by omega, hks, fun h => absurd h h0, fun _ => ⟨by omega, fun i hi => ?_⟩⟩
    have := all_at h3 0 hi
    simpa [kidOk, iAt] using this
theorem pgPart_len {p : PG} (h : PgF p) {i : Nat} (hi : i < p.keys.length) : (pgPart p i).length ≤ 90 := by
  have h1 := h.ks i hi
  have e1 := enc_len (sAt p.keys i).size
  unfold pgPart
  by_cases h0 : p.kids.length = 0
  · obtain ⟨h2, h3⟩ := h.lf h0
    have h4 := h3 i (by omega)
    have e2 := enc_len (sAt p.vals i).size
    rw [if_pos h0]
    simp only [List.length_append, bytesOf_len]
    omega
  · have e2 := enc_len (iAt p.kids (i + 1))
    rw [if_neg h0]
    simp only [List.length_append, bytesOf_len]
    omega
theorem pgHead_len (p : PG) : (pgHead p).length ≤ 15 := by
  have e1 := enc_len p.keys.length
  have e2 := enc_len (iAt p.kids 0)
  unfold pgHead
  split
  · simp; omega
  · simp; omega
theorem pgBody_len {p : PG} (h : PgF p) : ∀ j, j ≤ p.keys.length → (pgBody p j).length ≤ 15 + j * 90
  | 0, _ => by simpa [pgBody] using pgHead_len p
  | j + 1, hj => by
    have h1 := pgBody_len h j (by omega)
    have h2 := pgPart_len h (show j < p.keys.length by omega)
    rw [pgBody, List.length_append]
    omega
theorem pgPart_byte {p : PG} (h : PgF p) {i : Nat} (hi : i < p.keys.length) : ∀ z ∈ pgPart p i, 0 ≤ z ∧ z ≤ 255 := by
  have h1 := h.ks i hi
  unfold pgPart
  refine byte_append (byte_append (enc_byte _ (by omega) (by omega)) (bytesOf_byte _)) ?_
  by_cases h0 : p.kids.length = 0
  · obtain ⟨h2, h3⟩ := h.lf h0
    have h4 := h3 i (by omega)
    rw [if_pos h0]
    exact byte_append (enc_byte _ (by omega) (by omega)) (bytesOf_byte _)
  · obtain ⟨h2, h3⟩ := h.br h0
    have h4 := h3 (i + 1) (by omega)
    rw [if_neg h0]
    exact enc_byte _ (by omega) (by omega)
theorem pgHead_byte {p : PG} (h : PgF p) : ∀ z ∈ pgHead p, 0 ≤ z ∧ z ≤ 255 := by
  have h1 := h.nk
  unfold pgHead
  by_cases h0 : p.kids.length = 0
  · rw [if_pos h0, if_pos h0]
    exact byte_append (byte_append (by intro z hz; simp at hz; omega) (enc_byte _ (by omega) (by omega))) (by intro z hz; cases hz)
  · obtain ⟨h2, h3⟩ := h.br h0
    have h4 := h3 0 (by omega)
    rw [if_neg h0, if_neg h0]
    exact byte_append (byte_append (by intro z hz; simp at hz; omega) (enc_byte _ (by omega) (by omega))) (enc_byte _ (by omega) (by omega))
theorem pgBody_byte {p : PG} (h : PgF p) : ∀ j, j ≤ p.keys.length → ∀ z ∈ pgBody p j, 0 ≤ z ∧ z ≤ 255
  | 0, _ => by rw [pgBody]; exact pgHead_byte h
  | j + 1, hj => by rw [pgBody]; exact byte_append (pgBody_byte h j (by omega)) (pgPart_byte h (show j < p.keys.length by omega))
/-- An owned row of bytes, as a slice that is read. -/
theorem Ob.rdS {w : World} {B : Nat} {v : Value} {zs : List Int} (h : Ob w B v zs) (hl : ∀ z ∈ zs, 0 ≤ z ∧ z ≤ 255) (hb : zs.length ≤ 1000) : ∃ a n c, v = .slice a n c ∧ Hid (Rd w a n c zs) ∧ n ≤ 1000 := by
  obtain ⟨a, c, e, hr, _⟩ := h.rd (byte_at hl) (by omega)
  exact ⟨a, _, c, e, hr, hb⟩
theorem Put.got {w w' : World} {r : Option (List Int)} {e : Ending} {zs : List Int} (h : Put w r e w') (hr : r = some zs) : ∃ v, e = .returned (.tuple #[v, .bool true]) ∧ Ob w' w.heap.size v zs ∧ Below w.heap.size w w' := by
  obtain ⟨hb, ⟨h1, _⟩ | ⟨v, zs', h1, h2, h3⟩⟩ := h
  · rw [hr] at h1; cases h1
  · rw [hr] at h1; cases h1
    exact ⟨v, h2, h3, hb⟩
/-- What PageBytes holds in hand while it writes. -/
structure Pw1 (w v : World) (x : Nat) (ka : Option Addr) (kn kc : Nat) (va : Option Addr) (vn vc : Nat) (ia : Option Addr) (jn ic : Nat) (p : PG) : Prop where
  be : Below w.heap.size w v
  bk : Bk v x 69 [.slice ka kn kc, .slice va vn vc, .slice ia jn ic]
  pg : Pgr v (fun _ => True) ka kn kc va vn vc ia jn ic p
theorem Pw1.below {w v v' : World} {x : Nat} {ka : Option Addr} {kn kc : Nat} {va : Option Addr} {vn vc : Nat} {ia : Option Addr} {jn ic : Nat} {p : PG} (h : Pw1 w v x ka kn kc va vn vc ia jn ic p) (hb : Below v.heap.size v v') : Pw1 w v' x ka kn kc va vn vc ia jn ic p :=
  ⟨h.be.trans (hb.mono h.be.size), h.bk.below hb, h.pg.below hb⟩
theorem Pw1.cells {w v : World} {x : Nat} {ka : Option Addr} {kn kc : Nat} {va : Option Addr} {vn vc : Nat} {ia : Option Addr} {jn ic : Nat} {p : PG} (h : Pw1 w v x ka kn kc va vn vc ia jn ic p) : v.cell? ⟨x, 0, none⟩ = some (.slice ka kn kc) ∧ v.cell? ⟨x, 1, none⟩ = some (.slice va vn vc) ∧ v.cell? ⟨x, 2, none⟩ = some (.slice ia jn ic) :=
  ⟨h.bk.cell (j := 0) rfl, h.bk.cell (j := 1) rfl, h.bk.cell (j := 2) rfl⟩
set_option maxHeartbeats 8000000 in
set_option maxRecDepth 20000 in
theorem specPageBytes_any (S : Nat → Prop) (ka : Option Addr) (kn kc : Nat) (va : Option Addr) (vn vc : Nat) (ia : Option Addr) (jn ic : Nat) (p : PG) (w : World) (h : Pgr w S ka kn kc va vn vc ia jn ic p) :
    Calls Tryd.prog 38 #[.agg #[.slice ka kn kc, .slice va vn vc, .slice ia jn ic]] w fun e w' => Put w (pgBytes p) e w' := by
  have hb0 := below_new (o := .cells #[.slice ka kn kc, .slice va vn vc, .slice ia jn ic] 69) (w := w) (Below.refl _ _)
  have L0 : Hid (Pw1 w (w.alloc (.cells #[.slice ka kn kc, .slice va vn vc, .slice ia jn ic] 69)) w.heap.size ka kn kc va vn vc ia jn ic p) := by
    have hp := h.below hb0
    exact ⟨hb0, Bk.new w 69 [.slice ka kn kc, .slice va vn vc, .slice ia jn ic], Rw.mono hp.hk (fun _ _ _ => trivial), Rw.mono hp.hv (fun _ _ _ => trivial), Rw.mono hp.hi (fun _ _ _ => trivial)⟩
  have HNK := hid (Rw.len h.hk).1
  have HNV := hid (Rw.len h.hv).1
  have HNI := hid (Rw.len h.hi).1
  have bk := (Rw.len h.hk).2
  have bv := (Rw.len h.hv).2
  have bi := (Rw.len h.hi).2
  clear h hb0
  obtain ⟨c0, c1, c2⟩ := L0.out.cells
  go_enter Tryd.func38, Tryd.ntmps38
  go_wp2_with fail
  refine (specPageOk_any _ ka kn kc va vn vc ia jn ic p _ L0.out.pg).mono ?_
  generalize w.alloc (.cells #[.slice ka kn kc, .slice va vn vc, .slice ia jn ic] 69) = U at *
  rintro e w1 ⟨rfl, hb1⟩
  have L1 := hid (L0.out.below hb1)
  clear hb1 L0 c0 c1 c2
  have HP : Hid (pgBytes p = if pgOk p = true then some (pgFull p) else none) := rfl
  cases hok : pgOk p with
  | false =>
    have HN : Hid (pgBytes p = none) := by show _ = _; rw [HP.out, hok]; rfl
    go_wp2
    go_ret2
    exact ⟨L1.out.be, .inl ⟨HN.out, rfl⟩⟩
  | true =>
    have HN : Hid (pgBytes p = some (pgFull p)) := by show _ = _; rw [HP.out, hok]; rfl
    have HF := hid (pgOk_facts hok)
    have hk4 : kn ≤ 4 := by rw [HNK.out]; exact HF.out.nk
    clear hok HP
    by_cases hi0 : jn = 0
    · subst hi0
      have h0 : p.kids.length = 0 := HNI.out.symm
      have HEH : Hid (pgHead p = [76] ++ enc (kn : Int)) := by show _ = _; rw [pgHead, if_pos h0, if_pos h0, ← HNK.out]; simp
      have hpv : pv [76] (kn : Int) = some ([76] ++ enc (kn : Int)) := pv_ok _ _ (by omega) (by omega) (by have := enc_len (kn : Int); simp; omega)
      have HPV := hid hpv
      have HPA : Hid (∀ i, pgPart p i = enc (sAt p.keys i).size ++ bytesOf (sAt p.keys i) ++ (enc (sAt p.vals i).size ++ bytesOf (sAt p.vals i))) := fun i => by rw [pgPart, if_pos h0]
      obtain ⟨hvl, hvs⟩ := HF.out.lf h0
      have hvn : vn = kn := by rw [HNV.out, hvl, HNK.out]
      have HVS := hid hvs
      clear hpv h0 hvl hvs
      have ba := below_new (o := .cells #[.int .u8 76] 5) (w := w1) (Below.refl _ _)
      have L2 := hid (L1.out.below ba)
      have R2 := hid (rd_one w1 76 (by omega) (by omega))
      clear ba L1
      obtain ⟨c0, c1, c2⟩ := L2.out.cells
      go_wp2_with fail
      refine (specPutVar_any _ _ _ _ _ _ R2.out (by omega)).mono ?_
      generalize w1.alloc (.cells #[.int .u8 76] 5) = U2 at *
      intro e w3 hput
      obtain ⟨v3, rfl, hO3, hb3⟩ := hput.got HPV.out
      rw [← HEH.out] at hO3
      obtain ⟨a3, n3, c3, rfl, R3, hn3⟩ := hO3.rdS (pgHead_byte HF.out) (by have := pgHead_len p; omega)
      have L3 := hid (L2.out.below hb3)
      clear hput hO3 hb3 L2 R2 c0 c1 c2 HPV HEH
      obtain ⟨c0, c1, c2⟩ := L3.out.cells
      go_wp2_with fail
      clear c0 c1 c2
      go_loopw [4, 41] (fun xv i wr => ∃ (j : Nat) (a4 : Option Addr) (n4 c4 : Nat), j ≤ kn ∧ i = .int .i64 j ∧ xv = .slice a4 n4 c4 ∧ n4 ≤ 1000 ∧ Hid (Rd wr a4 n4 c4 (pgBody p j)) ∧ Hid (Pw1 w wr w.heap.size ka kn kc va vn vc ia 0 ic p)) (fun _ i _ => kn - (intOf i).toNat)
      case atStart => exact ⟨0, a3, n3, c3, Nat.zero_le _, rfl, rfl, hn3, R3.out, L3.out⟩
      case round =>
        obtain ⟨j, a4, n4, c4, hj, rfl, rfl, hn4, R4, L4⟩ := hrel
        clear R3 L3
        by_cases hlt : j < kn
        · have hlt' : (j : Int) < (kn : Int) := by omega
          have hjl : j < p.keys.length := by rw [← HNK.out]; exact hlt
          have hjv : j < p.vals.length := by rw [← HNV.out]; omega
          obtain ⟨c0, c1, c2⟩ := L4.out.cells
          obtain ⟨kb, ko, hka, -, -, hck⟩ := L4.out.pg.hk.at (by omega)
          obtain ⟨vb, vo, hva, -, -, hcv⟩ := L4.out.pg.hv.at (by omega)
          subst hka hva
          have m0 := hck j hlt
          have hks := HF.out.ks j hjl
          have hvs := HVS.out j hjv
          have HST : Hid (pgBody p (j + 1) = pgBody p j ++ (enc (sAt p.keys j).size ++ bytesOf (sAt p.keys j) ++ (enc (sAt p.vals j).size ++ bytesOf (sAt p.vals j)))) := by show _ = _; rw [pgBody, HPA.out]
          have HLN := hid (pgBody_len HF.out j (by omega))
          have HBY := hid (pgBody_byte HF.out j (by omega))
          have HCV : Hid (∀ u, Pw1 w u w.heap.size (some ⟨kb, ko, none⟩) kn kc (some ⟨vb, vo, none⟩) vn vc ia 0 ic p → u.cell? ⟨vb, vo + j, none⟩ = some (.string (sAt p.vals j))) := by
            intro u hu
            obtain ⟨vb', vo', e, -, -, hc⟩ := hu.pg.hv.at (by omega)
            cases e
            exact hc j (by omega)
          clear hck hcv
          generalize sAt p.keys j = kk at *
          generalize sAt p.vals j = vv at *
          have ek := enc_len kk.size
          have ev := enc_len vv.size
          have HPT1 : Hid (pt (pgBody p j) kk = some (pgBody p j ++ enc kk.size ++ bytesOf kk)) := by
            show _ = _
            rw [pt, if_pos]
            have := HLN.out
            simp only [List.length_append, bytesOf_len]
            omega
          have HPT2 : Hid (pt (pgBody p j ++ enc kk.size ++ bytesOf kk) vv = some (pgBody p (j + 1))) := by
            show _ = _
            rw [pt, if_pos, HST.out]
            · simp
            · have := HLN.out
              simp only [List.length_append, bytesOf_len]
              omega
          have HB1 : Hid (∀ z ∈ pgBody p j ++ enc kk.size ++ bytesOf kk, 0 ≤ z ∧ z ≤ 255) := byte_append (byte_append HBY.out (enc_byte _ (by omega) (by omega))) (bytesOf_byte _)
          have HL1 : Hid ((pgBody p j ++ enc kk.size ++ bytesOf kk).length ≤ 1000) := by
            show _ ≤ _
            have := HLN.out
            simp only [List.length_append, bytesOf_len]
            omega
          have HB2 := hid (pgBody_byte HF.out (j + 1) (by omega))
          have HL2 : Hid ((pgBody p (j + 1)).length ≤ 1000) := by have := pgBody_len HF.out (j + 1) (by omega); show _ ≤ _; omega
          clear ek ev
          go_wp2_with fail
          refine (specPutText_any a4 n4 c4 _ kk _ R4.out (by omega) (by omega)).mono ?_
          intro e w5 hput
          obtain ⟨v5, rfl, hO5, hb5⟩ := hput.got HPT1.out
          obtain ⟨a5, n5, c5, rfl, R5, hn5⟩ := hO5.rdS HB1.out HL1.out
          have L5 := hid (L4.out.below hb5)
          have m5 := HCV.out _ L5.out
          clear hput hO5 hb5 L4 R4 c0 c1 c2 m0
          obtain ⟨c0, c1, c2⟩ := L5.out.cells
          go_wp2_with fail
          refine (specPutText_any a5 n5 c5 _ vv _ R5.out (by omega) (by omega)).mono ?_
          intro e w6 hput
          obtain ⟨v6, rfl, hO6, hb6⟩ := hput.got HPT2.out
          obtain ⟨a6, n6, c6, rfl, R6, hn6⟩ := hO6.rdS HB2.out HL2.out
          have L6 := hid (L5.out.below hb6)
          clear hput hO6 hb6 L5 R5 c0 c1 c2 m5 HPT1 HPT2 HB1 HL1 HB2 HL2 HST HLN HBY HCV
          go_wp2
          go_roundw
          case rel => exact ⟨j + 1, a6, n6, c6, by omega, by go_num, rfl, hn6, R6.out, L6.out⟩
          case measure => simp [intOf]; omega
        · have hlt' : ¬ (j : Int) < (kn : Int) := by omega
          have hjk : j = p.keys.length := by rw [← HNK.out]; omega
          have HFL : Hid (fl (pgBody p j) 512 = some (pgFull p)) := by
            show _ = _
            have hl := pgBody_len HF.out p.keys.length (Nat.le_refl _)
            have hn := HF.out.nk
            rw [hjk, fl, if_pos (by omega)]
            show some (pgRaw p ++ _) = _
            rw [pgFull]
            congr 3
            show ((512 : Int) - ((pgRaw p).length : Int)).toNat = _
            omega
          clear hjk
          go_wp2_with fail
          refine (specFill_any a4 n4 c4 _ 512 _ R4.out (by omega)).mono ?_
          intro e w5 hput
          obtain ⟨v5, rfl, hO5, hb5⟩ := hput.got HFL.out
          have L5 := hid (L4.out.below hb5)
          have HO : Hid (Ob w5 w.heap.size v5 (pgFull p)) := hO5.mono L4.out.be.size
          clear hput hO5 hb5 L4 R4 HFL
          go_wp2
          go_ret2
          exact ⟨L5.out.be, .inr ⟨_, _, HN.out, rfl, HO.out⟩⟩
    · have hi0' : (0 : Int) < (jn : Int) := by omega
      have h0 : ¬ p.kids.length = 0 := by rw [← HNI.out]; exact hi0
      obtain ⟨hil, his⟩ := HF.out.br h0
      have HJN : Hid (jn = kn + 1) := by show _ = _; rw [HNI.out, hil, HNK.out]
      have HIS := hid his
      have h00 := his 0 (by have := HNI.out; omega)
      have HEH : Hid (pgHead p = [66] ++ enc (kn : Int) ++ enc (iAt p.kids 0)) := by show _ = _; rw [pgHead, if_neg h0, if_neg h0, ← HNK.out]
      have HPV : Hid (pv [66] (kn : Int) = some ([66] ++ enc (kn : Int))) := pv_ok _ _ (by omega) (by omega) (by have := enc_len (kn : Int); simp; omega)
      have HPV2 : Hid (pv ([66] ++ enc (kn : Int)) (iAt p.kids 0) = some (pgHead p)) := by
        show _ = _
        rw [HEH.out]
        exact pv_ok _ _ (by omega) (by omega) (by have := enc_len (kn : Int); have := enc_len (iAt p.kids 0); simp; omega)
      have HBY0 : Hid (∀ z ∈ [66] ++ enc (kn : Int), 0 ≤ z ∧ z ≤ 255) := byte_append (by intro z hz; simp at hz; omega) (enc_byte _ (by omega) (by omega))
      have HLN0 : Hid (([66] ++ enc (kn : Int)).length ≤ 1000) := by have := enc_len (kn : Int); show _ ≤ _; simp; omega
      have HPA : Hid (∀ i, pgPart p i = enc (sAt p.keys i).size ++ bytesOf (sAt p.keys i) ++ enc (iAt p.kids (i + 1))) := fun i => by rw [pgPart, if_neg h0]
      clear h0 hil his
      have ba := below_new (o := .cells #[.int .u8 66] 5) (w := w1) (Below.refl _ _)
      have L2 := hid (L1.out.below ba)
      have R2 := hid (rd_one w1 66 (by omega) (by omega))
      have LA := hid (L1.out.below (below_new (o := .cells #[.int .u8 76] 5) (w := w1) (Below.refl _ _)))
      clear ba L1
      obtain ⟨d0, d1, d2⟩ := LA.out.cells
      obtain ⟨c0, c1, c2⟩ := L2.out.cells
      go_wp2_with fail
      refine (specPutVar_any _ _ _ _ _ _ R2.out (by omega)).mono ?_
      generalize w1.alloc (.cells #[.int .u8 66] 5) = U2 at *
      intro e w2 hput
      obtain ⟨v2, rfl, hO2, hb2⟩ := hput.got HPV.out
      obtain ⟨a2, n2, cc2, rfl, R2', hn2⟩ := hO2.rdS HBY0.out HLN0.out
      have L2' := hid (L2.out.below hb2)
      clear hput hO2 hb2 L2 LA R2 c0 c1 c2 d0 d1 d2 HPV HBY0 HLN0
      obtain ⟨c0, c1, c2⟩ := L2'.out.cells
      obtain ⟨ib, io, hia, -, -, hci⟩ := L2'.out.pg.hi.at (by omega)
      subst hia
      have k0 := hci 0 (by omega)
      rw [Nat.add_zero] at k0
      clear hci
      generalize iAt p.kids 0 = kid0 at *
      go_wp2_with fail
      refine (specPutVar_any a2 n2 cc2 _ kid0 _ R2'.out (by omega)).mono ?_
      intro e w3 hput
      obtain ⟨v3, rfl, hO3, hb3⟩ := hput.got HPV2.out
      obtain ⟨a3, n3, c3, rfl, R3, hn3⟩ := hO3.rdS (pgHead_byte HF.out) (by have := pgHead_len p; omega)
      have L3 := hid (L2'.out.below hb3)
      clear hput hO3 hb3 L2' R2' c0 c1 c2 k0 HPV2 HEH h00
      obtain ⟨c0, c1, c2⟩ := L3.out.cells
      go_wp2_with fail
      clear c0 c1 c2
      go_loopw [4, 41] (fun xv i wr => ∃ (j : Nat) (a4 : Option Addr) (n4 c4 : Nat), j ≤ kn ∧ i = .int .i64 j ∧ xv = .slice a4 n4 c4 ∧ n4 ≤ 1000 ∧ Hid (Rd wr a4 n4 c4 (pgBody p j)) ∧ Hid (Pw1 w wr w.heap.size ka kn kc va vn vc (some ⟨ib, io, none⟩) jn ic p)) (fun _ i _ => kn - (intOf i).toNat)
      case atStart => exact ⟨0, a3, n3, c3, Nat.zero_le _, rfl, rfl, hn3, R3.out, L3.out⟩
      case round =>
        obtain ⟨j, a4, n4, c4, hj, rfl, rfl, hn4, R4, L4⟩ := hrel
        clear R3 L3
        by_cases hlt : j < kn
        · have hlt' : (j : Int) < (kn : Int) := by omega
          have hlt2 : (j : Int) + 1 < (jn : Int) := by have := HJN.out; omega
          have hjl : j < p.keys.length := by rw [← HNK.out]; exact hlt
          obtain ⟨c0, c1, c2⟩ := L4.out.cells
          obtain ⟨kb, ko, hka, -, -, hck⟩ := L4.out.pg.hk.at (by omega)
          subst hka
          have m0 := hck j hlt
          have hks := HF.out.ks j hjl
          have hvs := HIS.out (j + 1) (by rw [← HNI.out]; have := HJN.out; omega)
          have HST : Hid (pgBody p (j + 1) = pgBody p j ++ (enc (sAt p.keys j).size ++ bytesOf (sAt p.keys j) ++ enc (iAt p.kids (j + 1)))) := by show _ = _; rw [pgBody, HPA.out]
          have HLN := hid (pgBody_len HF.out j (by omega))
          have HBY := hid (pgBody_byte HF.out j (by omega))
          have HCV : Hid (∀ u, Pw1 w u w.heap.size (some ⟨kb, ko, none⟩) kn kc va vn vc (some ⟨ib, io, none⟩) jn ic p → u.cell? ⟨ib, io + (j + 1), none⟩ = some (.int .i64 (iAt p.kids (j + 1)))) := by
            intro u hu
            obtain ⟨vb', vo', e, -, -, hc⟩ := hu.pg.hi.at (by omega)
            cases e
            exact hc (j + 1) (by have := HJN.out; omega)
          clear hck
          generalize sAt p.keys j = kk at *
          generalize iAt p.kids (j + 1) = vv at *
          have ek := enc_len kk.size
          have ev := enc_len vv
          have HPT1 : Hid (pt (pgBody p j) kk = some (pgBody p j ++ enc kk.size ++ bytesOf kk)) := by
            show _ = _
            rw [pt, if_pos]
            have := HLN.out
            simp only [List.length_append, bytesOf_len]
            omega
          have HPT2 : Hid (pv (pgBody p j ++ enc kk.size ++ bytesOf kk) vv = some (pgBody p (j + 1))) := by
            show _ = _
            rw [HST.out, pv_ok _ _ (by omega) (by omega)]
            · simp
            · have := HLN.out
              simp only [List.length_append, bytesOf_len]
              omega
          have HB1 : Hid (∀ z ∈ pgBody p j ++ enc kk.size ++ bytesOf kk, 0 ≤ z ∧ z ≤ 255) := byte_append (byte_append HBY.out (enc_byte _ (by omega) (by omega))) (bytesOf_byte _)
          have HL1 : Hid ((pgBody p j ++ enc kk.size ++ bytesOf kk).length ≤ 1000) := by
            show _ ≤ _
            have := HLN.out
            simp only [List.length_append, bytesOf_len]
            omega
          have HB2 := hid (pgBody_byte HF.out (j + 1) (by omega))
          have HL2 : Hid ((pgBody p (j + 1)).length ≤ 1000) := by have := pgBody_len HF.out (j + 1) (by omega); show _ ≤ _; omega
          clear ek ev
          go_wp2_with fail
          refine (specPutText_any a4 n4 c4 _ kk _ R4.out (by omega) (by omega)).mono ?_
          intro e w5 hput
          obtain ⟨v5, rfl, hO5, hb5⟩ := hput.got HPT1.out
          obtain ⟨a5, n5, c5, rfl, R5, hn5⟩ := hO5.rdS HB1.out HL1.out
          have L5 := hid (L4.out.below hb5)
          have m5 := HCV.out _ L5.out
          clear hput hO5 hb5 L4 R4 c0 c1 c2 m0
          obtain ⟨c0, c1, c2⟩ := L5.out.cells
          go_wp2_with fail
          refine (specPutVar_any a5 n5 c5 _ vv _ R5.out (by omega)).mono ?_
          intro e w6 hput
          obtain ⟨v6, rfl, hO6, hb6⟩ := hput.got HPT2.out
          obtain ⟨a6, n6, c6, rfl, R6, hn6⟩ := hO6.rdS HB2.out HL2.out
          have L6 := hid (L5.out.below hb6)
          clear hput hO6 hb6 L5 R5 c0 c1 c2 m5 HPT1 HPT2 HB1 HL1 HB2 HL2 HST HLN HBY HCV
          go_wp2
          go_roundw
          case rel => exact ⟨j + 1, a6, n6, c6, by omega, by go_num, rfl, hn6, R6.out, L6.out⟩
          case measure => simp [intOf]; omega
        · have hlt' : ¬ (j : Int) < (kn : Int) := by omega
          have hjk : j = p.keys.length := by rw [← HNK.out]; omega
          have HFL : Hid (fl (pgBody p j) 512 = some (pgFull p)) := by
            show _ = _
            have hl := pgBody_len HF.out p.keys.length (Nat.le_refl _)
            have hn := HF.out.nk
            rw [hjk, fl, if_pos (by omega)]
            show some (pgRaw p ++ _) = _
            rw [pgFull]
            congr 3
            show ((512 : Int) - ((pgRaw p).length : Int)).toNat = _
            omega
          clear hjk
          go_wp2_with fail
          refine (specFill_any a4 n4 c4 _ 512 _ R4.out (by omega)).mono ?_
          intro e w5 hput
          obtain ⟨v5, rfl, hO5, hb5⟩ := hput.got HFL.out
          have L5 := hid (L4.out.below hb5)
          have HO : Hid (Ob w5 w.heap.size v5 (pgFull p)) := hO5.mono L4.out.be.size
          clear hput hO5 hb5 L4 R4 HFL
          go_wp2
          go_ret2
          exact ⟨L5.out.be, .inr ⟨_, _, HN.out, rfl, HO.out⟩⟩
end Go.Proofs.YtcpdedpgjaimkaaDoor
/-
  l04Meta and l05Bytes: a right page or a right meta, as bytes.
-/
namespace Go.Proofs.YtcpdedpgjaimkaaDoor
open Go.RowKit
set_option linter.unusedVariables false
theorem byt_of {zs : List Int} (h : ∀ z ∈ zs, 0 ≤ z ∧ z ≤ 255) : byt zs := by
  intro i
  by_cases e : i < zs.length
  · rw [List.getElem?_eq_getElem e]; exact h _ (List.getElem_mem e)
  · rw [List.getElem?_eq_none (by omega)]; simp
theorem pgFull_len {p : PG} (h : pgOk p = true) : (pgFull p).length = 512 := by
  have hf := pgOk_facts h
  have hb := pgBody_len hf p.keys.length (Nat.le_refl _)
  have hk : p.keys.length ≤ 4 := by
    simp only [pgOk, Bool.and_eq_true] at h
    obtain ⟨_, h2⟩ := h
    split at h2
    · simp only [pgLeaf, Bool.and_eq_true, decide_eq_true_eq] at h2; omega
    · simp only [pgBranch, Bool.and_eq_true, decide_eq_true_eq] at h2; omega
  have hr : (pgRaw p).length ≤ 15 + p.keys.length * 90 := hb
  simp only [pgFull, List.length_append, List.length_replicate]
  omega
theorem pgFull_byt {p : PG} (h : pgOk p = true) : byt (pgFull p) := by
  refine byt_of (fun z hz => ?_)
  simp only [pgFull, List.mem_append] at hz
  rcases hz with hz | hz
  · exact pgBody_byte (pgOk_facts h) p.keys.length (Nat.le_refl _) z hz
  · have := List.eq_of_mem_replicate hz; omega
/-- What l04Meta answers. -/
def MetD (w : World) (g : Nat) (e : Ending) (w' : World) : Prop := ∃ x y : Int, e = .returned (.agg #[.int .i64 x, .int .i64 y]) ∧ mtOk x y = true ∧ (0 ≤ y ∧ y < 400) ∧ w.grownBy w' (some g) ∧ Cu w' g
theorem mtOk_of {x y : Int} (h1 : 1 ≤ x) (h2 : x ≤ 1099511627775) (h3 : y = 0 ∨ (2 ≤ y ∧ y < 400)) : mtOk x y = true := by
  simp only [mtOk, Bool.and_eq_true, Bool.or_eq_true, decide_eq_true_eq]
  exact ⟨⟨h1, h2⟩, h3⟩
theorem load_metD {w : World} {g : Nat} {k v : Int} (c0 : w.cell? ⟨g, 0, none⟩ = some (.int .i64 k)) (c1 : w.cell? ⟨g, 1, none⟩ = some (.int .i64 v)) :
    (loadVar 73 ⟨g, 0, none⟩).run Tryd.prog w = .ok (.agg #[.int .i64 k, .int .i64 v]) w := by go_simp
theorem results_metD {fn : Func} {p : Tmp} (h : fn.results = #[.cell p 73]) (tmps : Array Value) (w : World) (g : Nat) {k v : Int} (hp : tmps.getD p undef = .pointer (some ⟨g, 0, none⟩))
    (c0 : w.cell? ⟨g, 0, none⟩ = some (.int .i64 k)) (c1 : w.cell? ⟨g, 1, none⟩ = some (.int .i64 v)) : (results fn tmps).run Tryd.prog w = .ok (.agg #[.int .i64 k, .int .i64 v]) w := by
  have hp' : tmps[p]?.getD undef = .pointer (some ⟨g, 0, none⟩) := by simpa using hp
  simp [results, h, hp', asAddr, load_metD c0 c1]
/-- The boxes of l04Meta. -/
structure ZM (w v : World) (g b : Nat) (x y : Int) : Prop where
  gr : w.grownBy v (some g)
  cu : Cu v g
  k0 : Bk v w.heap.size 73 [.int .i64 0, .int .i64 0]
  k1 : Bk v b 73 [.int .i64 x, .int .i64 y]
  gl : g < w.heap.size
  bl : w.heap.size < b
theorem ZM.draw {w v v' : World} {g b : Nat} {x y : Int} (h : ZM w v g b x y) (hg : v.grownBy v' (some g)) (hc : Cu v' g) : ZM w v' g b x y := by
  have o : Only (fun y => y = g) v v' := only_of_grown hg (fun k e => by cases e; rfl)
  have h1 := h.gl
  have h2 := h.bl
  exact ⟨grownBy_trans h.gr hg, hc, h.k0.to o (by omega), h.k1.to o (by omega), h1, h2⟩
theorem ZM.set0 {w v : World} {g b : Nat} {x y : Int} (h : ZM w v g b x y) (z : Int) : ZM w (v.setCell ⟨b, 0, none⟩ (.int .i64 z)) g b z y := by
  have h1 := h.gl
  have h2 := h.bl
  exact ⟨grown_setHigh h.gr (by omega) _ _, h.cu.setD b 0 _ (by omega), h.k0.setOther (by omega) _ _, h.k1.set 0 _, h1, h2⟩
theorem ZM.set1 {w v : World} {g b : Nat} {x y : Int} (h : ZM w v g b x y) (z : Int) : ZM w (v.setCell ⟨b, 1, none⟩ (.int .i64 z)) g b x z := by
  have h1 := h.gl
  have h2 := h.bl
  exact ⟨grown_setHigh h.gr (by omega) _ _, h.cu.setD b 1 _ (by omega), h.k0.setOther (by omega) _ _, h.k1.set 1 _, h1, h2⟩
theorem ZM.fin {w v : World} {g b : Nat} {x y : Int} (h : ZM w v g b x y) (hm : mtOk x y = true) (hy : 0 ≤ y ∧ y < 400) (p q : Value) : MetD w g (.returned (.agg #[.int .i64 x, .int .i64 y])) ((v.setCell ⟨w.heap.size, 0, none⟩ p).setCell ⟨w.heap.size, 1, none⟩ q) :=
  ⟨x, y, rfl, hm, hy, grown_setHigh (grown_setHigh h.gr (Nat.le_refl _) _ _) (Nat.le_refl _) _ _, (h.cu.setD w.heap.size 0 _ h.gl).setD w.heap.size 1 _ h.gl⟩
theorem ZM.cells {w v : World} {g b : Nat} {x y : Int} (h : ZM w v g b x y) : (v.cell? ⟨b, 0, none⟩ = some (.int .i64 x) ∧ v.cell? ⟨b, 1, none⟩ = some (.int .i64 y)) ∧ (v.frozen? ⟨b, 0, none⟩ = false ∧ v.frozen? ⟨b, 1, none⟩ = false) ∧ (v.cell? ⟨w.heap.size, 0, none⟩ = some (.int .i64 0) ∧ v.cell? ⟨w.heap.size, 1, none⟩ = some (.int .i64 0)) ∧ (v.frozen? ⟨w.heap.size, 0, none⟩ = false ∧ v.frozen? ⟨w.heap.size, 1, none⟩ = false) :=
  ⟨⟨h.k1.cell (j := 0) rfl, h.k1.cell (j := 1) rfl⟩, ⟨h.k1.free 0, h.k1.free 1⟩, ⟨h.k0.cell (j := 0) rfl, h.k0.cell (j := 1) rfl⟩, h.k0.free 0, h.k0.free 1⟩
set_option maxHeartbeats 4000000 in
theorem l04Meta_any (g : Nat) (w : World) (h : Cu w g) : Calls Tryd.prog 41 #[.pointer (some ⟨g, 0, none⟩)] w fun e w' => MetD w g e w' := by
  have hgl := h.lt
  have C0 := hid (h.alloc (.cells #[.int .i64 0, .int .i64 0] 73))
  have K0 := hid (Bk.new w 73 [.int .i64 0, .int .i64 0])
  have G0 := hid (grownBy_alloc w (.cells #[.int .i64 0, .int .i64 0] 73) (some g))
  have S0 : Hid ((w.alloc (.cells #[.int .i64 0, .int .i64 0] 73)).heap.size = w.heap.size + 1) := by show _ = _; simp
  clear h
  go_enter Tryd.func41, Tryd.ntmps41
  go_wp2_with fail
  refine (below_any g 600 _ C0.out (by omega) (by omega)).mono ?_
  generalize hU : w.alloc (.cells #[.int .i64 0, .int .i64 0] 73) = u0 at *
  clear hU
  rintro e w1 ⟨⟨x1, rfl, lo1, hi1⟩, hg1, hc1⟩
  have hw1 : IntKind.i64.wrap (1 + x1) = 1 + x1 := by simp [IntKind.wrap, IntKind.signed, IntKind.bits]; omega
  have C1 := hid hc1
  have G1 := hid (grownBy_trans G0.out hg1)
  have K1 := hid (K0.out.to (only_of_grown hg1 (R := fun y => y = g) (fun k e => by cases e; rfl)) (by omega))
  have S1 : Hid (w.heap.size + 1 ≤ w1.heap.size) := by have h1 := hg1.size; have h2 := S0.out; show _ ≤ _; omega
  clear hg1 hc1 C0 K0 G0 S0
  go_wp2_with fail
  refine (below_any g 300 _ C1.out (by omega) (by omega)).mono ?_
  rintro e w2 ⟨⟨x2, rfl, lo2, hi2⟩, hg2, hc2⟩
  have hw2 : IntKind.i64.wrap (2 + x2) = 2 + x2 := by simp [IntKind.wrap, IntKind.signed, IntKind.bits]; omega
  have Z2 : Hid (ZM w (w2.alloc (.cells #[.int .i64 (1 + x1), .int .i64 (2 + x2)] 73)) g w2.heap.size (1 + x1) (2 + x2)) := by
    have hb := below_new (o := .cells #[.int .i64 (1 + x1), .int .i64 (2 + x2)] 73) (w := w2) (Below.refl _ _)
    have h1 := hg2.size
    have h2 := S1.out
    exact ⟨grownBy_trans (grownBy_trans G1.out hg2) (grown_of_below hb _), hc2.below hb, (K1.out.to (only_of_grown hg2 (R := fun y => y = g) (fun k e => by cases e; rfl)) (by omega)).below hb, Bk.new w2 73 [.int .i64 (1 + x1), .int .i64 (2 + x2)], hgl, by omega⟩
  clear hg2 hc2 C1 K1 G1 S1
  go_wp2_with fail
  refine (below_any g 6 _ Z2.out.cu (by omega) (by omega)).mono ?_
  have ha0 : 1 ≤ 1 + x1 ∧ 1 + x1 ≤ 600 := by omega
  have hr0 : 2 ≤ 2 + x2 ∧ 2 + x2 ≤ 301 := by omega
  clear hw1 hw2
  generalize hb : w2.heap.size = b at *
  generalize w2.alloc (.cells #[.int .i64 (1 + x1), .int .i64 (2 + x2)] 73) = u2 at *
  clear hb
  generalize 1 + x1 = a at *
  generalize 2 + x2 = r at *
  have ha1 := ha0
  have hr1 := hr0
  clear ha0 hr0
  rintro e w3 ⟨⟨x, rfl, lo3, hi3⟩, hg, hc⟩
  have Z3 := hid (Z2.out.draw hg hc)
  clear hg hc Z2 lo1 hi1 lo2 hi2
  have HNB : Hid (w.heap.size < b) := Z3.out.bl
  have hnb1 : ¬ w.heap.size = b := by have := HNB.out; omega
  have hnb2 : ¬ b = w.heap.size := fun e => hnb1 e.symm
  obtain ⟨⟨c0, c1⟩, ⟨f0, f1⟩, ⟨r0, r1⟩, e0, e1⟩ := Z3.out.cells
  by_cases x0 : x = 0
  · subst x0
    have Z4 := hid (Z3.out.set1 0)
    clear Z3
    go_wp2
    try simp only [Exit.inBlock, Exit.then]
    refine bodyPost_ret (v := .agg #[.int .i64 a, .int .i64 0]) ?_ rfl ?_
    · exact results_metD rfl _ _ _ rfl (by go_simp) (by go_simp)
    · exact Z4.out.fin (mtOk_of ha1.1 (by omega) (.inl rfl)) (by omega) _ _
  · have y0 : (x == 0) = false := by simp [x0]
    by_cases x1 : x = 1
    · subst x1
      go_wp2_with fail
      refine (below_any g 2 _ Z3.out.cu (by omega) (by omega)).mono ?_
      rintro e w4 ⟨⟨z, rfl, lo4, hi4⟩, hg, hc⟩
      have hwz : IntKind.i64.wrap (1099511627775 - z) = 1099511627775 - z := by simp [IntKind.wrap, IntKind.signed, IntKind.bits]; omega
      have Z4 := hid ((Z3.out.draw hg hc).set0 (1099511627775 - z))
      have Z5 := hid (Z3.out.draw hg hc)
      clear Z3 hg hc c0 c1 f0 f1 r0 r1 e0 e1
      obtain ⟨⟨c0, c1⟩, ⟨f0, f1⟩, ⟨r0, r1⟩, e0, e1⟩ := Z5.out.cells
      clear Z5
      go_wp2
      try simp only [Exit.inBlock, Exit.then]
      refine bodyPost_ret (v := .agg #[.int .i64 (1099511627775 - z), .int .i64 r]) ?_ rfl ?_
      · exact results_metD rfl _ _ _ rfl (by go_simp) (by go_simp)
      · exact Z4.out.fin (mtOk_of (by omega) (by omega) (.inr ⟨hr1.1, by omega⟩)) (by omega) _ _
    · have y1 : (x == 1) = false := by simp [x1]
      go_wp2
      try simp only [Exit.inBlock, Exit.then]
      refine bodyPost_ret (v := .agg #[.int .i64 a, .int .i64 r]) ?_ rfl ?_
      · exact results_metD rfl _ _ _ rfl (by go_simp) (by go_simp)
      · exact Z3.out.fin (mtOk_of ha1.1 (by omega) (.inr ⟨hr1.1, by omega⟩)) (by omega) _ _
set_option maxHeartbeats 4000000 in
theorem l05Bytes_any (g : Nat) (w : World) (h : Cu w g) : Calls Tryd.prog 31 #[.pointer (some ⟨g, 0, none⟩)] w fun e w' => BytD w g e w' := by
  have hgl := h.lt
  have C0 := hid h
  clear h
  go_enter Tryd.func31, Tryd.ntmps31
  go_wp2_with fail
  refine (pageX_any g _ C0.out).mono ?_
  rintro e w1 ⟨ka, kn, kc, va, vn, vc, ia, jn, ic, p, rfl, hok, hg1, hc1, hP⟩
  have C1 := hid hc1
  have G1 := hid hg1
  have P1 := hid hP
  have HB : Hid (pgBytes p = some (pgFull p)) := by show _ = _; rw [pgBytes, if_pos hok]
  have HL := hid (pgFull_len hok)
  have HY := hid (pgFull_byt hok)
  clear hg1 hc1 hP hok C0
  go_wp2_with fail
  refine (specPageBytes_any _ ka kn kc va vn vc ia jn ic p w1 P1.out).mono ?_
  intro e w2 hput
  obtain ⟨v2, rfl, hO2, hb2⟩ := PutM.got hput HB.out
  have O2 : Hid (Ob w2 w.heap.size v2 (pgFull p)) := hO2.lower G1.out.size
  have C2 := hid (C1.out.below hb2)
  have G2 := hid (grownBy_trans G1.out (grown_of_below hb2 (some g)))
  obtain ⟨a2, c2, e2⟩ := hO2.shape
  rw [HL.out] at e2
  subst e2
  clear hput hO2 hb2 C1 G1 P1 HB
  generalize pgFull p = zs at *
  go_wp2_with fail
  refine (below_any g 2 _ C2.out (by omega) (by omega)).mono ?_
  rintro e w3 ⟨⟨x, rfl, lo3, hi3⟩, hg3, hc3⟩
  have O3 := hid (own_kept O2.out (only_of_grown hg3 (R := fun y => y = g) (fun k e => by cases e; rfl)) (fun y hy e => by have := (World.ownsRow.lt O2.out y hy).1; omega))
  have C3 := hid hc3
  have G3 := hid (grownBy_trans G2.out hg3)
  clear hg3 hc3 O2 C2 G2
  by_cases x0 : x = 0
  · subst x0
    go_wp2_with fail
    refine (l04Meta_any g _ C3.out).mono ?_
    rintro e w4 ⟨m, r, rfl, hm, hr, hg4, hc4⟩
    have C4 := hid hc4
    have G4 := hid (grownBy_trans G3.out hg4)
    have HB : Hid (mtBytes m r = some (mtFull m r)) := by show _ = _; rw [mtBytes, if_pos hm]
    have HL2 := hid (mtFull_len m r)
    have HY2 := hid (byt_of (mtFull_byte (g := m) hr.1 hr.2))
    clear hg4 hc4 hm hr C3 G3 O3
    go_wp2_with fail
    refine (specMetaBytes_any m r w4).mono ?_
    intro e w5 hput
    obtain ⟨v5, rfl, hO5, hb5⟩ := PutM.got hput HB.out
    have O5 : Hid (Ob w5 w.heap.size v5 (mtFull m r)) := hO5.lower G4.out.size
    have C5 := hid (C4.out.below hb5)
    have G5 := hid (grownBy_trans G4.out (grown_of_below hb5 (some g)))
    obtain ⟨a5, c5, e5⟩ := hO5.shape
    rw [HL2.out] at e5
    subst e5
    clear hput hO5 hb5 C4 G4 HB
    go_wp2
    go_ret
    exact ⟨_, _, _, _, rfl, O5.out, HL2.out, HY2.out, G5.out, C5.out⟩
  · have y0 : (x == 0) = false := by simp [x0]
    go_wp2
    go_ret
    exact ⟨_, _, _, _, rfl, O3.out, HL.out, HY.out, G3.out, C3.out⟩
end Go.Proofs.YtcpdedpgjaimkaaDoor
/-
  The law FnSync, its draw put in.
-/
namespace Go.Proofs.YtcpdedpgjaimkaaDoor
open Go.RowKit
theorem lawSync_walk' (a : Option Addr) (n c : Nat) (z0 : List Int) (w : World) (w0 : IsRow .u8 w a n c z0) (he : Err w 1) (he2 : Err w 0) (_l1 : 1 < w.heap.size) (_l2 : 0 < w.heap.size) :
    Calls Tryd.prog 3 #[.slice a n c] w fun e w' => e = .returned (.bool true) ∧ Below w.heap.size w w' :=
  lawSync_walk (drawSync_any (l05Any_any l05Bytes_any)) a n c z0 w w0 he he2 _l1 _l2
end Go.Proofs.YtcpdedpgjaimkaaDoor
